/- Texts of the law, joined. -/
import Derived.Test.YtmgmkglmjmaipaaDoorJ2
/- first. -/
namespace Go.Proofs.YtmgmkglmjmaipaaDoor.Ct
open Go Go.Abs Go.Mth
set_option linter.unusedVariables false
set_option linter.unusedSimpArgs false
abbrev slB (b N : Nat) : Value := .slice (some ⟨b, 0, some 0⟩) N (2 * N + 1)
/-- A test of beginnings, whatever else the heap holds. -/
def FitsF (g : FuncId) (va vb : List Value) (M : HL) (n : Nat) (fits : List Nat → Bool) : Prop :=
  ∀ {X : HL} {n' : Nat} {H' : Heap} {s : Value} {l : List Nat}, (∀ q ∈ M, q ∈ X) → hasH X n' H' → Sl X 1 s (nodes l) → l ≠ [] → l.length ≤ n → FS C g (va ++ [s] ++ vb) H' (fun e H'' => ∃ n'', n' ≤ n'' ∧ hasH X n'' H'' ∧ e = .bool (fits l))
theorem meas_lt {T a b x y k : Nat} (h1 : a < T) (h2 : a < b) (hx : x < k) : (T - b) * k + x < (T - a) * k + y := by
  have h3 : (T - b) + 1 ≤ T - a := by omega
  have h4 := Nat.mul_le_mul_right k h3
  rw [Nat.add_mul, Nat.one_mul] at h4
  omega
structure SO where
  pre : List Nat
  n : Nat
structure SC where
  pre : List Nat
  c : Nat
  n : Nat
attribute [local irreducible] gOK WS WC WR WD Ends FS YS OpV seqK blockK loopK midK retK rdK asgK rangeEnd sat Cell
section
variable {M : HL} {n0 : Nat} {H : Heap} {v w : Value}
set_option maxHeartbeats 4000000 in
theorem first_fs (hH : hasH M n0 H) {n bound : Nat} (hn : n ≤ 16) (hb : bound ≤ 16) {g : FuncId} {va vb : List Value} {fits : List Nat → Bool} (hf : FitsF g va vb M n fits) :
    FS C 98 [.int .i64 (n : Int), .int .i64 (bound : Int), .func (.func g) va.toArray vb.toArray] H (fun e H' => ∃ n' b, n0 ≤ n' ∧ n0 ≤ b ∧ ((∃ l, FirstR fits bound n l ∧ hasH ((b, .row 3 0 0 (nodes l)) :: M) n' H' ∧ e = .tuple #[slB b n, .bool true]) ∨ ((∀ l, l.length = n → ¬ okP fits bound l) ∧ hasH M n' H' ∧ e = .tuple #[.slice none 0 0, .bool false]))) := by
  refine FS.intro (pf := pf98) rfl rfl rfl ?_
  repeat' (first | refine zP ?_ | refine zA ?_ | (refine zM ?_; intro _ _) | refine zX ?_ | (refine zC ?_; intro _ _ _ _) | (refine zS ?_; intro _ _) | (apply Ws <;> intro hg))
  refine WR.mkS (by first | exact gN | exact gS rfl) rfl hH rfl rfl (by omega) rfl fun H1 hH1 => ?_
  replace hH1 : hasH ((n0, .row 3 0 0 (nodes (List.replicate n 0))) :: M) (n0 + 1) H1 := by simpa [nodes] using hH1
  repeat' (first | refine zP ?_ | refine zA ?_ | (refine zM ?_; intro _ _) | refine zX ?_ | (refine zC ?_; intro _ _ _ _) | (refine zS ?_; intro _ _) | (apply Ws <;> intro hg))
  refine WC.loopX [(0, _), (1, _), (2, _), (8, slB n0 n)] (fun a : SO => [(9, .int .i64 (a.pre.length : Int))]) []
    (fun a H' => n0 + 1 ≤ a.n ∧ ((a.pre.length < n ∧ SInv fits bound n a.pre 0 ∧ hasH ((n0, .row 3 0 0 (nodes (flx n a.pre 0))) :: M) a.n H') ∨ (a.pre.length = n ∧ FirstR fits bound n a.pre ∧ hasH ((n0, .row 3 0 0 (nodes a.pre)) :: M) a.n H')))
    (fun a => ((bound + 1) ^ n - (if a.pre.length < n then nf (bound + 1) n a.pre 0 else numB (bound + 1) a.pre)) * (n + 2) + (n - a.pre.length)) ⟨[], n0 + 1⟩ (by repeat' (first | exact .nil | refine .cons rfl ?_)) rfl
    ⟨Nat.le_refl _, ?_⟩ ?_
  · by_cases h0 : 0 < n
    · refine .inl ⟨h0, .zero _ h0, ?_⟩
      have : flx n [] 0 = List.replicate n 0 := by
        unfold flx
        rw [List.nil_append, ← List.replicate_succ, List.length_nil]
        congr 1; omega
      simp only
      rw [this]; exact hH1
    · have : n = 0 := by omega
      subst this
      exact .inr ⟨rfl, ⟨rfl, fun j hj => absurd hj (Nat.not_lt_zero _), fun l' _ _ ⟨p, hp, _⟩ => absurd hp (Nat.not_lt_zero _)⟩, hH1⟩
  clear hH hH1
  rintro ⟨pre, n1⟩ H2 ⟨hn1, hI⟩
  simp only at hn1 hI
  dsimp only [List.cons_append, List.nil_append]
  repeat' (first | refine zP ?_ | refine zA ?_ | (refine zM ?_; intro _ _) | refine zX ?_ | (refine zC ?_; intro _ _ _ _) | (refine zS ?_; intro _ _) | (apply Ws <;> intro hg))
  refine WC.condP rfl (fun hlt => ?_) (fun hlt => ?_)
  · have hlt' : pre.length < n := by omega
    obtain ⟨hI, hH2⟩ : SInv fits bound n pre 0 ∧ hasH ((n0, .row 3 0 0 (nodes (flx n pre 0))) :: M) n1 H2 := by
      rcases hI with ⟨_, a, b⟩ | ⟨h, _⟩
      · exact ⟨a, b⟩
      · omega
    repeat' (first | refine zP ?_ | refine zA ?_ | (refine zM ?_; intro _ _) | refine zX ?_ | (refine zC ?_; intro _ _ _ _) | (refine zS ?_; intro _ _) | (apply Ws <;> intro hg))
    obtain ⟨pre0, hpre0⟩ : ∃ p, p = pre := ⟨_, rfl⟩
    refine WC.scopeL (fun a : SC => [(0, .int .i64 (n : Int)), (1, .int .i64 (bound : Int)), (2, .func (.func g) va.toArray vb.toArray), (8, slB n0 n), (9, .int .i64 (a.pre.length : Int))]) []
      (fun a H' => n0 + 1 ≤ a.n ∧ SInv fits bound n a.pre a.c ∧ nf (bound + 1) n pre0 0 ≤ nf (bound + 1) n a.pre a.c ∧ (nf (bound + 1) n pre0 0 < nf (bound + 1) n a.pre a.c ∨ a.pre = pre0) ∧ hasH ((n0, .row 3 0 0 (nodes (flx n a.pre a.c))) :: M) a.n H')
      (fun a => (bound + 1) ^ n - nf (bound + 1) n a.pre a.c) ⟨pre, 0, n1⟩ (by repeat' (first | exact .nil | refine .cons rfl ?_)) rfl ⟨hn1, hI, by rw [hpre0]; exact Nat.le_refl _, .inr hpre0.symm, hH2⟩ ?_
    have hm0 := nf_lt hI
    rw [← hpre0] at hlt' hm0
    clear hI hH2 hlt hn1
    rintro ⟨pre2, c, n2⟩ H3 ⟨hn2, hI, hge, hor, hH3⟩
    simp only at hn2 hI hge hor hH3
    dsimp only [List.cons_append, List.nil_append]
    repeat' (first | refine zP ?_ | refine zA ?_ | (refine zM ?_; intro _ _) | refine zX ?_ | (refine zC ?_; intro _ _ _ _) | (refine zS ?_; intro _ _) | (apply Ws <;> intro hg))
    refine WC.loopX [(0, .int .i64 (n : Int)), (1, .int .i64 (bound : Int)), (2, .func (.func g) va.toArray vb.toArray), (8, slB n0 n), (9, .int .i64 (pre2.length : Int))] (fun _ : SC => []) []
      (fun a H' => n0 + 1 ≤ a.n ∧ SInv fits bound n pre2 a.c ∧ nf (bound + 1) n pre2 c ≤ nf (bound + 1) n pre2 a.c ∧ nf (bound + 1) n pre0 0 ≤ nf (bound + 1) n pre2 a.c ∧ (nf (bound + 1) n pre0 0 < nf (bound + 1) n pre2 a.c ∨ pre2 = pre0) ∧ hasH ((n0, .row 3 0 0 (nodes (flx n pre2 a.c))) :: M) a.n H')
      (fun a => bound - a.c) ⟨pre2, c, n2⟩ (by repeat' (first | exact .nil | refine .cons rfl ?_)) rfl ⟨hn2, hI, Nat.le_refl _, hge, hor, hH3⟩ ?_
    clear hn2 hI hge hor hH3
    rintro ⟨_, c2, n3⟩ H4 ⟨hn3, hI, hcc, hge, hor, hH4⟩
    simp only at hn3 hI hcc hge hor hH4
    have hlen := fl_len (c := c2) hI.lt
    have hplt := hI.lt
    have hcle := hI.le
    have hget : (flx n pre2 c2).getD pre2.length 0 = c2 := fl_get
    have hSl : Sl ((n0, Ch.row 3 0 0 (nodes (flx n pre2 c2))) :: M) 1 (slB n0 n) (nodes (flx n pre2 c2)) := .row (.head _) (.row _ _ _ _) (Nat.le_refl _) (by rw [Nat.mul_one]; simp [hlen]) (by rw [Nat.sub_self, List.drop_zero, List.take_of_length_le (by simp [hlen])]) (by simp [hlen]) (.inr ⟨n, rfl, Nat.le_refl _⟩)
    dsimp only [List.cons_append, List.nil_append]
    repeat' (first | refine zP ?_ | refine zA ?_ | (refine zM ?_; intro _ _) | refine zX ?_ | (refine zC ?_; intro _ _ _ _) | (refine zS ?_; intro _ _) | (apply Ws <;> intro hg))
    · have hcb : c2 < bound := by omega
      refine WR.cutHiN (m := pre2.length + 1) (by first | exact gN | exact gS rfl) rfl rfl hSl rfl (by omega) fun s hs => ?_
      rw [fl_take] at hs
      refine WR.callV (va := va) (vb := vb) (vs := [s]) (by first | exact gN | exact gS rfl) rfl rfl rfl (hf (fun q hq => List.mem_cons_of_mem _ hq) hH4 hs (by simp) (by simp; omega)) ?_
      rintro _ H5 ⟨n5, hn5, hH5, rfl⟩
      clear hH4
      cases hfit : fits (pre2 ++ [c2]) with
      | true =>
        repeat' (first | refine zP ?_ | refine zA ?_ | (refine zM ?_; intro _ _) | refine zX ?_ | (refine zC ?_; intro _ _ _ _) | (refine zS ?_; intro _ _) | refine zO ?_ | (apply Ws <;> intro hg))
        rw [show (pre2.length : Int) + 1 = ((pre2 ++ [c2]).length : Int) by simp]
        by_cases hlast : pre2.length + 1 < n
        · have hnx := hI.next hcb hfit hlast
          have hnf : nf (bound + 1) n (pre2 ++ [c2]) 0 = nf (bound + 1) n pre2 c2 := by unfold nf; rw [fl_next hlast]
          refine Ends.loop ⟨pre2 ++ [c2], n5⟩ ?_ (by repeat' (first | exact .nil | refine .cons rfl ?_)) rfl ⟨by simp only; omega, .inl ⟨by simpa using hlast, hnx, by simp only; rw [fl_next hlast]; exact hH5⟩⟩
          simp only
          rw [if_pos (show (pre2 ++ [c2]).length < n by simpa using hlast), ← hpre0, if_pos hlt', hnf]
          rcases hor with h | h
          · exact meas_lt hm0 h (by omega)
          · subst h
            have := Nat.sub_le_sub_left hge ((bound + 1) ^ n)
            have h2 := Nat.mul_le_mul_right (n + 2) this
            simp only [List.length_append, List.length_singleton]
            omega
        · have hl : pre2.length + 1 = n := by omega
          have hnx := hI.last hcb hfit hl
          rw [fl_last hl] at hH5
          have hnf : numB (bound + 1) (pre2 ++ [c2]) = nf (bound + 1) n pre2 c2 := by unfold nf; rw [fl_last hl]
          refine Ends.loop ⟨pre2 ++ [c2], n5⟩ ?_ (by repeat' (first | exact .nil | refine .cons rfl ?_)) rfl ⟨by simp only; omega, .inr ⟨by simpa using hl, hnx, hH5⟩⟩
          simp only
          rw [if_neg (show ¬ (pre2 ++ [c2]).length < n by simp; omega), ← hpre0, if_pos hlt', hnf]
          rcases hor with h | h
          · exact meas_lt hm0 h (by omega)
          · subst h
            have := Nat.sub_le_sub_left hge ((bound + 1) ^ n)
            have h2 := Nat.mul_le_mul_right (n + 2) this
            simp only [List.length_append, List.length_singleton]
            omega
      | false =>
        repeat' (first | refine zP ?_ | refine zA ?_ | (refine zM ?_; intro _ _) | refine zX ?_ | (refine zC ?_; intro _ _ _ _) | (refine zS ?_; intro _ _) | (apply Ws <;> intro hg))
        rename_i H6 hH6
        rw [hget, fl_set] at hH6
        exact Ends.loop ⟨pre2, c2 + 1, n5⟩ (by simp only; omega) (by repeat' (first | exact .nil | refine .cons rfl ?_)) rfl ⟨by simp only; omega, hI.skip hcb hfit, by have := nf_succ (B := bound + 1) (n := n) (c := c2) (pre := pre2) (by omega); simp only; omega, by have := nf_succ (B := bound + 1) (n := n) (c := c2) (pre := pre2) (by omega); simp only; omega, hor.imp (fun h => by have := nf_succ (B := bound + 1) (n := n) (c := c2) (pre := pre2) (by omega); simp only; omega) id, hH6⟩
    · have hcb : ¬ c2 < bound := by omega
      have hvn : ¬ ((flx n pre2 c2).getD pre2.length 0 : Int) < (bound : Int) := hg
      repeat' (first | refine zP ?_ | refine zA ?_ | (refine zM ?_; intro _ _) | refine zX ?_ | (refine zC ?_; intro _ _ _ _) | (refine zS ?_; intro _ _) | refine zO ?_ | (apply Ws <;> intro hg))
      refine WC.condP rfl (fun hz => ?_) (fun hz => ?_)
      · have hp0 : pre2 = [] := List.length_eq_zero_iff.1 (by omega)
        subst hp0
        repeat' (first | refine zP ?_ | refine zA ?_ | (refine zM ?_; intro _ _) | refine zX ?_ | (refine zC ?_; intro _ _ _ _) | (refine zS ?_; intro _ _) | (apply Ws <;> intro hg))
        exact Ends.ret2 rfl rfl ⟨n3, n0, by omega, Nat.le_refl _, .inr ⟨hI.none hcb, hH4.tail, rfl⟩⟩
      · obtain ⟨pre3, a, rfl⟩ : ∃ pre3 a, pre2 = pre3 ++ [a] := by
          rcases List.eq_nil_or_concat pre2 with h | ⟨q, a, h⟩
          · subst h; exact absurd rfl hz
          · exact ⟨q, a, by rw [h, List.concat_eq_append]⟩
        have hbk := hI.back hcb
        have hp3 := hbk.lt
        have hpl : (pre3 ++ [a]).length = pre3.length + 1 := by simp
        rw [hpl] at hplt ⊢
        repeat' (first | refine zP ?_ | refine zA ?_ | (refine zM ?_; intro _ _) | refine zX ?_ | (refine zC ?_; intro _ _ _ _) | (refine zS ?_; intro _ _) | (apply Ws <;> intro hg))
        rename_i H6 hH6
        replace hH6 : hasH ((n0, .row 3 0 0 (nodes ((flx n (pre3 ++ [a]) c2).set (pre3.length + 1) 0))) :: M) n3 H6 := hH6
        have hl2 : ((flx n (pre3 ++ [a]) c2).set (pre3.length + 1) 0).length = n := by rw [List.length_set]; exact hlen
        rw [show pre3.length + 1 - 1 = pre3.length by omega, show ((pre3.length + 1 : Nat) : Int) - 1 = (pre3.length : Int) by omega]
        have hab := (okP_init hI.ok).2
        have hg2 := fl_get2 (n := n) (a := a) (c := c2) (pre := pre3)
        repeat' (first | refine zP ?_ | refine zA ?_ | (refine zM ?_; intro _ _) | refine zX ?_ | (refine zC ?_; intro _ _ _ _) | (refine zS ?_; intro _ _) | (apply Ws <;> intro hg))
        rename_i H7 hH7
        rw [hg2, fl_back hplt] at hH7
        have hnb := nf_back (B := bound + 1) (n := n) (a := a) (c := c2) (pre := pre3) (by omega) hplt
        have hnl := nf_lt hI
        refine Ends.goto_to ⟨pre3, a + 1, n3⟩ (by simp only; omega) (by repeat' (first | exact .nil | refine .cons rfl ?_)) rfl ⟨hn3, hbk, by simp only; omega, .inl (by simp only; omega), hH7⟩
  · rcases hI with ⟨h, _⟩ | ⟨hl, hF, hH2⟩
    · omega
    repeat' (first | refine zP ?_ | refine zA ?_ | (refine zM ?_; intro _ _) | refine zX ?_ | (refine zC ?_; intro _ _ _ _) | (refine zS ?_; intro _ _) | (apply Ws <;> intro hg))
    refine Ends.ret2 rfl rfl ⟨n1, n0, by omega, Nat.le_refl _, .inl ⟨pre, hF, hH2, rfl⟩⟩
end
end Go.Proofs.YtmgmkglmjmaipaaDoor.Ct

/- proper, colour; drawWithoutLoops, Fewest, Colour. -/
namespace Go.Proofs.YtmgmkglmjmaipaaDoor.Ct
open Go Go.Abs Go.Mth
set_option linter.unusedVariables false
set_option linter.unusedSimpArgs false
/-- Colours are proper, as far as points have one. -/
def properB (A : List Nat) (k : Nat) (l : List Nat) : Bool := (List.range k).all fun j => !(decide (A.getD (2 * j) 0 < l.length) && decide (A.getD (2 * j + 1) 0 < l.length) && decide (l.getD (A.getD (2 * j) 0) 0 = l.getD (A.getD (2 * j + 1) 0) 0))
theorem properB_succ (A : List Nat) (k : Nat) (l : List Nat) : properB A (k + 1) l = (properB A k l && !(decide (A.getD (2 * k) 0 < l.length) && decide (A.getD (2 * k + 1) 0 < l.length) && decide (l.getD (A.getD (2 * k) 0) 0 = l.getD (A.getD (2 * k + 1) 0) 0))) := by
  simp [properB, List.range_succ]
theorem properB_no {A : List Nat} {k m : Nat} {l : List Nat} (h : k < m) (h1 : A.getD (2 * k) 0 < l.length) (h2 : A.getD (2 * k + 1) 0 < l.length) (h3 : l.getD (A.getD (2 * k) 0) 0 = l.getD (A.getD (2 * k + 1) 0) 0) : properB A m l = false := by
  unfold properB
  rw [List.all_eq_false]
  refine ⟨k, List.mem_range.2 h, ?_⟩
  simp only [decide_eq_true h1, decide_eq_true h2, decide_eq_true h3]; decide
attribute [local irreducible] gOK WS WC WR WD Ends FS YS OpV seqK blockK loopK midK retK rdK asgK rangeEnd sat Cell
section
variable {M : HL} {n0 : Nat} {H : Heap} {v w : Value}
set_option maxHeartbeats 2000000 in
theorem properF_fs (hH : hasH M n0 H) {V N : Nat} {A F B : List Nat} (hA : A.length = 16) (hF : F.length = 16) (hB : B.length = 16) (hN : N ≤ 16) {l : List Nat} (hS : Sl M 1 v (nodes l)) (hl : l.length ≤ 1000) (hb : ∀ j, j < N → A.getD j 0 ≤ 1000) :
    FS C 79 [.agg (nodes (dw V N A F B)).toArray, v] H (fun e H' => ∃ n', n0 ≤ n' ∧ hasH M n' H' ∧ e = .bool (properB A (N / 2) l)) := by
  have hd1 := nodes_one' (dw V N A F B)
  have hdl := dw_len (V := V) (c := N) hA hF hB
  refine FS.intro (pf := pf79) rfl rfl rfl ?_
  repeat' (first | refine zP ?_ | refine zA ?_ | (refine zM ?_; intro _ _) | refine zX ?_ | (refine zC ?_; intro _ _ _ _) | (refine zS ?_; intro _ _) | (apply Ws <;> intro hg))
  rename_i H1 hH1
  refine WR.op (by first | exact gN | exact gS rfl) rfl (OpV.loadAll rfl hH1 (.head _) (.row _ _ _ _) (by simp [hdl])) ?_
  refine WR.call (by first | exact gN | exact gS rfl) rfl rfl (lines_fs hH1 hA hF hB hN) ?_
  rintro _ H5 ⟨n5, hn5, hH5, rfl⟩
  clear hH hH1
  repeat' (first | refine zP ?_ | refine zA ?_ | (refine zM ?_; intro _ _) | refine zX ?_ | (refine zC ?_; intro _ _ _ _) | (refine zS ?_; intro _ _) | (apply Ws <;> intro hg))
  refine WC.loopX [(1, v), (2, .pointer (some ⟨n0, 0, some 0⟩)), (9, .int .i64 ((N / 2 : Nat) : Int))] (fun a : Nat × Nat => [(10, .int .i64 (a.1 : Int))]) []
    (fun a H' => a.1 ≤ N / 2 ∧ n0 ≤ a.2 ∧ properB A a.1 l = true ∧ hasH ((n0, .row 77 0 0 (nodes (dw V N A F B))) :: M) a.2 H') (fun a => N / 2 - a.1) (0, n5) (by repeat' (first | exact .nil | refine .cons rfl ?_)) rfl
    ⟨Nat.zero_le _, by simp only; omega, rfl, hH5⟩ ?_
  clear hH5
  rintro ⟨k, n6⟩ H6 ⟨hk, hn6, hp, hH6⟩
  simp only at hk hn6 hp hH6
  dsimp only [List.cons_append, List.nil_append]
  repeat' (first | refine zP ?_ | refine zA ?_ | (refine zM ?_; intro _ _) | refine zX ?_ | (refine zC ?_; intro _ _ _ _) | (refine zS ?_; intro _ _) | (apply Ws <;> intro hg))
  refine WC.condP rfl (fun hlt => ?_) (fun hlt => ?_)
  · have hk' : k < N / 2 := by omega
    repeat' (first | refine zP ?_ | refine zA ?_ | (refine zM ?_; intro _ _) | refine zX ?_ | (refine zC ?_; intro _ _ _ _) | (refine zS ?_; intro _ _) | (apply Ws <;> intro hg))
    refine WR.op (by first | exact gN | exact gS rfl) rfl (OpV.loadAll rfl hH6 (.head _) (.row _ _ _ _) (by simp [hdl])) ?_
    repeat' (first | refine zP ?_ | refine zA ?_ | (refine zM ?_; intro _ _) | refine zX ?_ | (refine zC ?_; intro _ _ _ _) | (refine zS ?_; intro _ _) | (apply Ws <;> intro hg))
    refine WR.call (by first | exact gN | exact gS rfl) rfl rfl (line_fs hH6 hA hF hB (by omega)) ?_
    rintro _ H7 ⟨n7, hn7, hH7, rfl⟩
    have hb1 := hb (2 * k) (by omega)
    have hb2 := hb (2 * k + 1) (by omega)
    clear hH6
    have hps := properB_succ A k l
    have hno := fun h1 h2 h3 => properB_no (A := A) (k := k) (m := N / 2) (l := l) hk' h1 h2 h3
    generalize A.getD (2 * k) 0 = x at *
    generalize A.getD (2 * k + 1) 0 = y at *
    repeat' (first | refine zP ?_ | refine zA ?_ | (refine zM ?_; intro _ _) | refine zX ?_ | (refine zC ?_; intro _ _ _ _) | (refine zS ?_; intro _ _) | (apply Ws <;> intro hg))
    · have hx : x < l.length := by omega
      have hy : y < l.length := by omega
      refine WC.condP rfl (fun heq => ?_) (fun heq => ?_)
      · repeat' (first | refine zP ?_ | refine zA ?_ | (refine zM ?_; intro _ _) | refine zX ?_ | (refine zC ?_; intro _ _ _ _) | (refine zS ?_; intro _ _) | (apply Ws <;> intro hg))
        exact Ends.ret1 rfl ⟨n7, by omega, hH7.tail, by rw [hno hx hy (by omega)]⟩
      · repeat' (first | refine zP ?_ | refine zA ?_ | (refine zM ?_; intro _ _) | refine zX ?_ | (refine zC ?_; intro _ _ _ _) | (refine zS ?_; intro _ _) | (apply Ws <;> intro hg))
        refine Ends.loop (k + 1, n7) (by simp only; omega) (by repeat' (first | exact .nil | refine .cons rfl ?_)) rfl ⟨hk', by simp only; omega, ?_, hH7⟩
        simp only
        rw [hps, hp, decide_eq_false (show ¬ l.getD x 0 = l.getD y 0 from fun e => heq (by rw [e])), Bool.and_false]; rfl
    · refine Ends.loop (k + 1, n7) (by simp only; omega) (by repeat' (first | exact .nil | refine .cons rfl ?_)) rfl ⟨hk', by simp only; omega, ?_, hH7⟩
      simp only
      rw [hps, hp]
      by_cases hx : x < l.length
      · rw [decide_eq_false (show ¬ y < l.length by omega), Bool.and_false, Bool.false_and]; rfl
      · rw [decide_eq_false hx, Bool.false_and, Bool.false_and]; rfl
  · have hkN : k = N / 2 := by omega
    subst hkN
    repeat' (first | refine zP ?_ | refine zA ?_ | (refine zM ?_; intro _ _) | refine zX ?_ | (refine zC ?_; intro _ _ _ _) | (refine zS ?_; intro _ _) | (apply Ws <;> intro hg))
    exact Ends.ret1 rfl ⟨n6, by omega, hH6.tail, by rw [hp]⟩
end
end Go.Proofs.YtmgmkglmjmaipaaDoor.Ct

/- colour, drawWithoutLoops, Fewest, Colour. -/
namespace Go.Proofs.YtmgmkglmjmaipaaDoor.Ct
open Go Go.Abs Go.Mth
set_option linter.unusedVariables false
set_option linter.unusedSimpArgs false
/-- Proper colours below a number. -/
def colsOK (pt : Nat → Nat) (L V f : Nat) (l : List Nat) : Prop := l.length = V ∧ (∀ x ∈ l, x < f) ∧ ∀ k, k < L → l.getD (pt (2 * k)) 0 ≠ l.getD (pt (2 * k + 1)) 0
def loopy (pt : Nat → Nat) (L : Nat) : Prop := ∃ k, k < L ∧ pt (2 * k) = pt (2 * k + 1)
def FewR (pt : Nat → Nat) (L V f : Nat) (l : List Nat) : Prop := colsOK pt L V f l ∧ (∀ l', colsOK pt L V f l' → ¬ lexP l' l) ∧ ∀ f', f' < f → ∀ l', ¬ colsOK pt L V f' l'
theorem properB_iff {A : List Nat} {k : Nat} {l : List Nat} : properB A k l = true ↔ ∀ j, j < k → A.getD (2 * j) 0 < l.length → A.getD (2 * j + 1) 0 < l.length → l.getD (A.getD (2 * j) 0) 0 ≠ l.getD (A.getD (2 * j + 1) 0) 0 := by
  unfold properB
  rw [List.all_eq_true]
  constructor
  · intro h j hj h1 h2 h3
    have := h j (List.mem_range.2 hj)
    rw [decide_eq_true h1, decide_eq_true h2, decide_eq_true h3] at this
    cases this
  · intro h j hj
    have := h j (List.mem_range.1 hj)
    by_cases h1 : A.getD (2 * j) 0 < l.length
    · by_cases h2 : A.getD (2 * j + 1) 0 < l.length
      · rw [decide_eq_false (this h1 h2), Bool.and_false]; rfl
      · rw [decide_eq_false h2, Bool.and_false, Bool.false_and]; rfl
    · rw [decide_eq_false h1, Bool.false_and, Bool.false_and]; rfl
theorem okP_cols {A : List Nat} {L V f : Nat} {l : List Nat} (hpt : ∀ e, e < 2 * L → A.getD e 0 < V) (hl : l.length = V) : okP (properB A L) f l ↔ colsOK (fun e => A.getD e 0) L V f l := by
  constructor
  · intro h
    refine ⟨hl, fun x hx => ?_, fun k hk => ?_⟩
    · obtain ⟨j, hj, rfl⟩ := List.mem_iff_getElem.1 hx
      have := (h j hj).1
      rwa [getD_eq hj] at this
    · have h1 := hpt (2 * k) (by omega)
      have h2 := hpt (2 * k + 1) (by omega)
      have h3 := (h (V - 1) (by omega)).2
      rw [show V - 1 + 1 = V by omega, ← hl, List.take_length] at h3
      exact properB_iff.1 h3 k hk (by omega) (by omega)
  · rintro ⟨_, h1, h2⟩ j hj
    refine ⟨h1 _ (getD_mem hj), properB_iff.2 fun k hk g1 g2 => ?_⟩
    rw [List.length_take] at g1 g2
    rw [getD_take (by omega), getD_take (by omega)]
    exact h2 k hk
theorem cols_id {pt : Nat → Nat} {L V : Nat} (hpt : ∀ e, e < 2 * L → pt e < V) (hno : ¬ loopy pt L) : colsOK pt L V V (List.range V) := by
  refine ⟨by simp, fun x hx => List.mem_range.1 hx, fun k hk e => hno ⟨k, hk, ?_⟩⟩
  have h1 := hpt (2 * k) (by omega)
  have h2 := hpt (2 * k + 1) (by omega)
  rw [getD_eq (by simpa using h1), getD_eq (by simpa using h2), List.getElem_range, List.getElem_range] at e
  exact e
theorem first_cols {A : List Nat} {L V f : Nat} {l : List Nat} (hpt : ∀ e, e < 2 * L → A.getD e 0 < V) (h : FirstR (properB A L) f V l) : colsOK (fun e => A.getD e 0) L V f l ∧ ∀ l', colsOK (fun e => A.getD e 0) L V f l' → ¬ lexP l' l :=
  ⟨(okP_cols hpt h.1).1 h.2.1, fun l' hl' => h.2.2 l' hl'.1 ((okP_cols hpt hl'.1).2 hl')⟩
attribute [local irreducible] gOK WS WC WR WD Ends FS YS OpV seqK blockK loopK midK retK rdK asgK rangeEnd sat Cell
section
variable {M : HL} {n0 : Nat} {H : Heap} {v w : Value}
set_option maxHeartbeats 2000000 in
theorem colour_fs (hH : hasH M n0 H) {V N : Nat} {A F B : List Nat} (hA : A.length = 16) (hF : F.length = 16) (hB : B.length = 16) (hN : N ≤ 16) (he : N % 2 = 0) (hV : V ≤ 16) (hpt : ∀ e, e < N → A.getD e 0 < V) (hno : ¬ loopy (fun e => A.getD e 0) (N / 2)) :
    FS C 82 [.agg (nodes (dw V N A F B)).toArray] H (fun e H' => ∃ n' b f l, n0 ≤ n' ∧ n0 ≤ b ∧ f ≤ V ∧ FewR (fun e => A.getD e 0) (N / 2) V f l ∧ hasH ((b, .row 3 0 0 (nodes l)) :: M) n' H' ∧ e = .tuple #[.int .i64 (f : Int), slB b V]) := by
  have hd1 := nodes_one' (dw V N A F B)
  have hdl := dw_len (V := V) (c := N) hA hF hB
  have hN0 : (dw V N A F B).getD 0 0 = V := rfl
  have hpt2 : ∀ e, e < 2 * (N / 2) → A.getD e 0 < V := fun e h => hpt e (by omega)
  refine FS.intro (pf := pf82) rfl rfl rfl ?_
  repeat' (first | refine zP ?_ | refine zA ?_ | (refine zM ?_; intro _ _) | refine zX ?_ | (refine zC ?_; intro _ _ _ _) | (refine zS ?_; intro _ _) | (apply Ws <;> intro hg))
  rename_i H1 hH1
  refine WC.loopX [(1, .pointer (some ⟨n0, 0, some 0⟩))] (fun a : Nat × Nat => [(4, .int .i64 (a.1 : Int))]) []
    (fun a H' => a.1 ≤ V ∧ n0 ≤ a.2 ∧ (∀ f', f' < a.1 → ∀ l', ¬ colsOK (fun e => A.getD e 0) (N / 2) V f' l') ∧ hasH ((n0, .row 77 0 0 (nodes (dw V N A F B))) :: M) a.2 H') (fun a => V - a.1) (0, n0 + 1) (by repeat' (first | exact .nil | refine .cons rfl ?_)) rfl
    ⟨Nat.zero_le _, by simp only; omega, fun f' h => absurd h (Nat.not_lt_zero _), hH1⟩ ?_
  clear hH hH1
  rintro ⟨f, n1⟩ H2 ⟨hf, hn1, hnone, hH2⟩
  simp only at hf hn1 hnone hH2
  dsimp only [List.cons_append, List.nil_append]
  repeat' (first | refine zP ?_ | refine zA ?_ | (refine zM ?_; intro _ _) | refine zX ?_ | (refine zC ?_; intro _ _ _ _) | (refine zS ?_; intro _ _) | (apply Ws <;> intro hg))
  refine WR.op (by first | exact gN | exact gS rfl) rfl (OpV.loadAll rfl hH2 (.head _) (.row _ _ _ _) (by simp [hdl])) ?_
  repeat' (first | refine zP ?_ | refine zA ?_ | (refine zM ?_; intro _ _) | refine zX ?_ | (refine zC ?_; intro _ _ _ _) | (refine zS ?_; intro _ _) | (apply Ws <;> intro hg))
  refine WR.call (by first | exact gN | exact gS rfl) rfl rfl (first_fs (n := V) (bound := f) (g := 79) (va := [.agg (nodes (dw V N A F B)).toArray]) (vb := []) (fits := properB A (N / 2)) hH2 (by omega) (by omega) (fun {X n' H' s l} hM hX hs hne hl => ?_)) ?_
  · exact properF_fs hX hA hF hB hN hs (by omega) fun j hj => by have := hpt j hj; omega
  rintro _ H3 ⟨n3, b, hn3, hb3, ⟨l, hl, hH3, rfl⟩ | ⟨hl, hH3, rfl⟩⟩
  · repeat' (first | refine zP ?_ | refine zA ?_ | (refine zM ?_; intro _ _) | refine zX ?_ | (refine zC ?_; intro _ _ _ _) | (refine zS ?_; intro _ _) | (apply Ws <;> intro hg))
    obtain ⟨h1, h2⟩ := first_cols hpt2 hl
    exact Ends.ret2 rfl rfl ⟨n3, b, f, l, by omega, by omega, hf, ⟨h1, h2, hnone⟩, hH3.sub (.cons_cons _ (List.sublist_cons_self _ _)), rfl⟩
  · have hfV : f ≠ V := by
      intro e
      subst e
      have h1 := cols_id hpt2 hno
      exact hl _ h1.1 ((okP_cols hpt2 h1.1).2 h1)
    repeat' (first | refine zP ?_ | refine zA ?_ | (refine zM ?_; intro _ _) | refine zX ?_ | (refine zC ?_; intro _ _ _ _) | (refine zS ?_; intro _ _) | (apply Ws <;> intro hg))
    refine Ends.loop (f + 1, n3) (by simp only; omega) (by repeat' (first | exact .nil | refine .cons rfl ?_)) rfl ⟨by simp only; omega, by simp only; omega, fun f' hf' l' hl' => ?_, hH3⟩
    by_cases e : f' = f
    · subst e
      exact hl _ hl'.1 ((okP_cols hpt2 hl'.1).2 hl')
    · exact hnone f' (by simp only at hf'; omega) l' hl'
/-- What drawing a map without loops comes to. -/
def DrawN (P : List (List Int)) (e : Value) : Prop := (errM P ≠ 0 ∧ e = .tuple #[.agg (nodes (List.replicate 50 0)).toArray, .int .i64 (errM P)]) ∨ ∃ Q A F B, P = castP Q ∧ OKM Q ∧ DrawR Q A F B ∧
  ((loopy (fun e => A.getD e 0) (sizeL Q / 2) ∧ e = .tuple #[.agg (nodes (List.replicate 50 0)).toArray, .int .i64 12]) ∨ (¬ loopy (fun e => A.getD e 0) (sizeL Q / 2) ∧ e = .tuple #[.agg (nodes (dw Q.length (sizeL Q) A F B)).toArray, .int .i64 0]))
set_option maxHeartbeats 4000000 in
theorem drawN_fs (hH : hasH M n0 H) {P : List (List Int)} (hR : RowsI M v P) (hl : P.length ≤ 1000) (hr : ∀ i, i < P.length → (P.getD i []).length ≤ 1000) :
    FS C 81 [.agg [v].toArray] H (fun e H' => ∃ n', n0 ≤ n' ∧ hasH M n' H' ∧ DrawN P e) := by
  have hv : one v = true := hR.one_
  refine FS.intro (pf := pf81) rfl rfl rfl ?_
  repeat' (first | refine zP ?_ | refine zA ?_ | (refine zM ?_; intro _ _) | refine zX ?_ | (refine zC ?_; intro _ _ _ _) | (refine zS ?_; intro _ _) | (apply Ws <;> intro hg))
  rename_i H1 hH1 H2 hH2
  refine WR.call (by first | exact gN | exact gS rfl) rfl rfl (draw_fs hH2 hR.cons.cons hl hr) ?_
  rintro _ H3 ⟨n3, hn3, hH3, ⟨h0, rfl⟩ | ⟨Q, A, F, B, rfl, hQ, hD, rfl⟩⟩
  · repeat' (first | refine zP ?_ | refine zA ?_ | (refine zM ?_; intro _ _) | refine zX ?_ | (refine zC ?_; intro _ _ _ _) | (refine zS ?_; intro _ _) | (apply Ws <;> intro hg))
    rename_i H4 hH4
    refine WR.storeAll (by first | exact gN | exact gS rfl) hH4 rfl rfl (ls := nodes (List.replicate 50 0)) (by simp [Value.cells]) rfl .here (nodes_one' _) rfl fun H5 hH5 => ?_
    repeat' (first | refine zP ?_ | refine zA ?_ | (refine zM ?_; intro _ _) | refine zX ?_ | (refine zC ?_; intro _ _ _ _) | (refine zS ?_; intro _ _) | refine zO ?_ | (apply Ws <;> intro hg))
    refine WR.op (by first | exact gN | exact gS rfl) rfl (OpV.bldT (vs := []) rfl (cs := (nodes (List.replicate 50 0)).toArray) (by rfl)) ?_
    repeat' (first | refine zP ?_ | refine zA ?_ | (refine zM ?_; intro _ _) | refine zX ?_ | (refine zC ?_; intro _ _ _ _) | (refine zS ?_; intro _ _) | (apply Ws <;> intro hg))
    refine WR.storeAll (by first | exact gN | exact gS rfl) hH5 rfl rfl (ls := nodes (List.replicate 50 0)) (by simp [Value.cells]) rfl (.there .here) (nodes_one' _) rfl fun H6 hH6 => ?_
    repeat' (first | refine zP ?_ | refine zA ?_ | (refine zM ?_; intro _ _) | refine zX ?_ | (refine zC ?_; intro _ _ _ _) | (refine zS ?_; intro _ _) | (apply Ws <;> intro hg))
    exact Ends.retCN1 rfl (readAll hH6 (.tail _ (.head _)) rfl) rfl ⟨n3 + 1, by omega, hH6.tail.tail.tail, .inl ⟨h0, rfl⟩⟩
  · have hle := hQ.le
    have hdl := dw_len (V := Q.length) (c := sizeL Q) hD.hA hD.hF hD.hB
    repeat' (first | refine zP ?_ | refine zA ?_ | (refine zM ?_; intro _ _) | refine zX ?_ | (refine zC ?_; intro _ _ _ _) | (refine zS ?_; intro _ _) | (apply Ws <;> intro hg))
    rename_i H4 hH4
    refine WR.storeAll (by first | exact gN | exact gS rfl) hH4 rfl rfl (ls := nodes (dw Q.length (sizeL Q) A F B)) (by simp [Value.cells]) (by simp [hdl]) .here (nodes_one' _) (by simp [hdl]) fun H5 hH5 => ?_
    clear hH hH1 hH2 hH3 hH4
    replace hH5 : hasH ((n3, .row 77 0 0 (nodes (dw Q.length (sizeL Q) A F B))) :: (n0 + 1, .row 77 0 0 (nodes (List.replicate 50 0))) :: M) (n3 + 1) H5 := hH5.sub (.cons_cons _ (.cons_cons _ (List.sublist_cons_self _ _)))
    repeat' (first | refine zP ?_ | refine zA ?_ | (refine zM ?_; intro _ _) | refine zX ?_ | (refine zC ?_; intro _ _ _ _) | (refine zS ?_; intro _ _) | refine zO ?_ | (apply Ws <;> intro hg))
    refine WR.op (by first | exact gN | exact gS rfl) rfl (OpV.loadAll rfl hH5 (.head _) (.row _ _ _ _) (by simp [hdl])) ?_
    refine WR.call (by first | exact gN | exact gS rfl) rfl rfl (lines_fs hH5 hD.hA hD.hF hD.hB hle) ?_
    rintro _ H6 ⟨n6, hn6, hH6, rfl⟩
    clear hH5
    repeat' (first | refine zP ?_ | refine zA ?_ | (refine zM ?_; intro _ _) | refine zX ?_ | (refine zC ?_; intro _ _ _ _) | (refine zS ?_; intro _ _) | (apply Ws <;> intro hg))
    refine WC.loopX [(2, .pointer (some ⟨n0 + 1, 0, some 0⟩)), (4, .pointer (some ⟨n3, 0, some 0⟩)), (19, .int .i64 ((sizeL Q / 2 : Nat) : Int))] (fun a : Nat × Nat => [(20, .int .i64 (a.1 : Int))]) []
      (fun a H' => a.1 ≤ sizeL Q / 2 ∧ n3 ≤ a.2 ∧ (∀ k, k < a.1 → A.getD (2 * k) 0 ≠ A.getD (2 * k + 1) 0) ∧ hasH ((n3, .row 77 0 0 (nodes (dw Q.length (sizeL Q) A F B))) :: (n0 + 1, .row 77 0 0 (nodes (List.replicate 50 0))) :: M) a.2 H') (fun a => sizeL Q / 2 - a.1) (0, n6) (by repeat' (first | exact .nil | refine .cons rfl ?_)) rfl
      ⟨Nat.zero_le _, by simp only; omega, fun k h => absurd h (Nat.not_lt_zero _), hH6⟩ ?_
    clear hH6
    rintro ⟨k, n7⟩ H7 ⟨hk, hn7, hno, hH7⟩
    simp only at hk hn7 hno hH7
    dsimp only [List.cons_append, List.nil_append]
    repeat' (first | refine zP ?_ | refine zA ?_ | (refine zM ?_; intro _ _) | refine zX ?_ | (refine zC ?_; intro _ _ _ _) | (refine zS ?_; intro _ _) | (apply Ws <;> intro hg))
    refine WC.condP rfl (fun hlt => ?_) (fun hlt => ?_)
    · have hk' : k < sizeL Q / 2 := by omega
      repeat' (first | refine zP ?_ | refine zA ?_ | (refine zM ?_; intro _ _) | refine zX ?_ | (refine zC ?_; intro _ _ _ _) | (refine zS ?_; intro _ _) | (apply Ws <;> intro hg))
      refine WR.op (by first | exact gN | exact gS rfl) rfl (OpV.loadAll rfl hH7 (.head _) (.row _ _ _ _) (by simp [hdl])) ?_
      repeat' (first | refine zP ?_ | refine zA ?_ | (refine zM ?_; intro _ _) | refine zX ?_ | (refine zC ?_; intro _ _ _ _) | (refine zS ?_; intro _ _) | (apply Ws <;> intro hg))
      refine WR.call (by first | exact gN | exact gS rfl) rfl rfl (line_fs hH7 hD.hA hD.hF hD.hB (by omega)) ?_
      rintro _ H8 ⟨n8, hn8, hH8, rfl⟩
      clear hH7
      repeat' (first | refine zP ?_ | refine zA ?_ | (refine zM ?_; intro _ _) | refine zX ?_ | (refine zC ?_; intro _ _ _ _) | (refine zS ?_; intro _ _) | (apply Ws <;> intro hg))
      refine WC.condP rfl (fun heq => ?_) (fun heq => ?_)
      · repeat' (first | refine zP ?_ | refine zA ?_ | (refine zM ?_; intro _ _) | refine zX ?_ | (refine zC ?_; intro _ _ _ _) | (refine zS ?_; intro _ _) | (apply Ws <;> intro hg))
        refine WR.op (by first | exact gN | exact gS rfl) rfl (OpV.bldT (vs := []) rfl (cs := (nodes (List.replicate 50 0)).toArray) (by rfl)) ?_
        repeat' (first | refine zP ?_ | refine zA ?_ | (refine zM ?_; intro _ _) | refine zX ?_ | (refine zC ?_; intro _ _ _ _) | (refine zS ?_; intro _ _) | (apply Ws <;> intro hg))
        refine WR.storeAll (by first | exact gN | exact gS rfl) hH8 rfl rfl (ls := nodes (List.replicate 50 0)) (by simp [Value.cells]) rfl (.there .here) (nodes_one' _) rfl fun H9 hH9 => ?_
        repeat' (first | refine zP ?_ | refine zA ?_ | (refine zM ?_; intro _ _) | refine zX ?_ | (refine zC ?_; intro _ _ _ _) | (refine zS ?_; intro _ _) | (apply Ws <;> intro hg))
        exact Ends.retCN1 rfl (readAll hH9 (.tail _ (.head _)) rfl) rfl ⟨n8, by omega, hH9.tail.tail, .inr ⟨Q, A, F, B, rfl, hQ, hD, .inl ⟨⟨k, hk', by show A.getD (2 * k) 0 = A.getD (2 * k + 1) 0; omega⟩, rfl⟩⟩⟩
      · repeat' (first | refine zP ?_ | refine zA ?_ | (refine zM ?_; intro _ _) | refine zX ?_ | (refine zC ?_; intro _ _ _ _) | (refine zS ?_; intro _ _) | (apply Ws <;> intro hg))
        refine Ends.loop (k + 1, n8) (by simp only; omega) (by repeat' (first | exact .nil | refine .cons rfl ?_)) rfl ⟨hk', by simp only; omega, fun j hj => ?_, hH8⟩
        by_cases e : j = k
        · subst e; exact fun q => heq (by rw [q])
        · exact hno j (by simp only at hj; omega)
    · have hkN : k = sizeL Q / 2 := by omega
      repeat' (first | refine zP ?_ | refine zA ?_ | (refine zM ?_; intro _ _) | refine zX ?_ | (refine zC ?_; intro _ _ _ _) | (refine zS ?_; intro _ _) | (apply Ws <;> intro hg))
      refine WR.op (by first | exact gN | exact gS rfl) rfl (OpV.loadAll rfl hH7 (.head _) (.row _ _ _ _) (by simp [hdl])) ?_
      refine WR.storeAll (by first | exact gN | exact gS rfl) hH7 rfl rfl (ls := nodes (dw Q.length (sizeL Q) A F B)) (by simp [Value.cells]) (by simp [hdl]) (.there .here) (nodes_one' _) (by simp [hdl]) fun H9 hH9 => ?_
      repeat' (first | refine zP ?_ | refine zA ?_ | (refine zM ?_; intro _ _) | refine zX ?_ | (refine zC ?_; intro _ _ _ _) | (refine zS ?_; intro _ _) | (apply Ws <;> intro hg))
      exact Ends.retCN1 rfl (readAll hH9 (.tail _ (.head _)) (by simp [hdl])) rfl ⟨n7, by omega, hH9.tail.tail, .inr ⟨Q, A, F, B, rfl, hQ, hD, .inr ⟨fun ⟨j, hj, e⟩ => hno j (by omega) e, rfl⟩⟩⟩
/-- The fewest colours, or the error. -/
def FewV (P : List (List Int)) (M : HL) (n0 : Nat) (res : Nat → List Nat → Value → Prop) (z : Value) (e : Value) : Prop :=
  (errM P ≠ 0 ∧ e = .tuple #[z, .int .i64 (errM P)]) ∨ ∃ Q pt, P = castP Q ∧ OKM Q ∧ PtOf Q pt ∧
    ((loopy pt (sizeL Q / 2) ∧ e = .tuple #[z, .int .i64 12]) ∨ (¬ loopy pt (sizeL Q / 2) ∧ ∃ f l u, f ≤ Q.length ∧ FewR pt (sizeL Q / 2) Q.length f l ∧ res f l u ∧ e = .tuple #[u, .int .i64 0]))
set_option maxHeartbeats 2000000 in
theorem Fewest_fs (hH : hasH M n0 H) {P : List (List Int)} (hR : RowsI M v P) (hl : P.length ≤ 1000) (hr : ∀ i, i < P.length → (P.getD i []).length ≤ 1000) :
    FS C 36 [.agg [v].toArray] H (fun e H' => ∃ n', n0 ≤ n' ∧ hasH M n' H' ∧ FewV P M n0 (fun f _ u => u = .int .i64 (f : Int)) (.int .i64 0) e) := by
  have hv : one v = true := hR.one_
  refine FS.intro (pf := pf36) rfl rfl rfl ?_
  repeat' (first | refine zP ?_ | refine zA ?_ | (refine zM ?_; intro _ _) | refine zX ?_ | (refine zC ?_; intro _ _ _ _) | (refine zS ?_; intro _ _) | (apply Ws <;> intro hg))
  rename_i H1 hH1
  refine WR.call (by first | exact gN | exact gS rfl) rfl rfl (drawN_fs hH1 hR.cons hl hr) ?_
  rintro _ H3 ⟨n3, hn3, hH3, ⟨h0, rfl⟩ | ⟨Q, A, F, B, rfl, hQ, hD, ⟨hlo, rfl⟩ | ⟨hno, rfl⟩⟩⟩
  · repeat' (first | refine zP ?_ | refine zA ?_ | (refine zM ?_; intro _ _) | refine zX ?_ | (refine zC ?_; intro _ _ _ _) | (refine zS ?_; intro _ _) | (apply Ws <;> intro hg))
    rename_i H4 hH4
    refine WR.storeAll (by first | exact gN | exact gS rfl) hH4 rfl rfl (ls := nodes (List.replicate 50 0)) (by simp [Value.cells]) rfl .here (nodes_one' _) rfl fun H5 hH5 => ?_
    repeat' (first | refine zP ?_ | refine zA ?_ | (refine zM ?_; intro _ _) | refine zX ?_ | (refine zC ?_; intro _ _ _ _) | (refine zS ?_; intro _ _) | refine zO ?_ | (apply Ws <;> intro hg))
    exact Ends.ret2 rfl rfl ⟨n3 + 1, by omega, hH5.tail.tail, .inl ⟨h0, rfl⟩⟩
  · repeat' (first | refine zP ?_ | refine zA ?_ | (refine zM ?_; intro _ _) | refine zX ?_ | (refine zC ?_; intro _ _ _ _) | (refine zS ?_; intro _ _) | (apply Ws <;> intro hg))
    rename_i H4 hH4
    refine WR.storeAll (by first | exact gN | exact gS rfl) hH4 rfl rfl (ls := nodes (List.replicate 50 0)) (by simp [Value.cells]) rfl .here (nodes_one' _) rfl fun H5 hH5 => ?_
    repeat' (first | refine zP ?_ | refine zA ?_ | (refine zM ?_; intro _ _) | refine zX ?_ | (refine zC ?_; intro _ _ _ _) | (refine zS ?_; intro _ _) | refine zO ?_ | (apply Ws <;> intro hg))
    exact Ends.ret2 rfl rfl ⟨n3 + 1, by omega, hH5.tail.tail, .inr ⟨Q, _, rfl, hQ, hD.pt, .inl ⟨hlo, rfl⟩⟩⟩
  · have hle := hQ.le
    have hlen := hQ.len
    have hdl := dw_len (V := Q.length) (c := sizeL Q) hD.hA hD.hF hD.hB
    repeat' (first | refine zP ?_ | refine zA ?_ | (refine zM ?_; intro _ _) | refine zX ?_ | (refine zC ?_; intro _ _ _ _) | (refine zS ?_; intro _ _) | (apply Ws <;> intro hg))
    rename_i H4 hH4
    refine WR.storeAll (by first | exact gN | exact gS rfl) hH4 rfl rfl (ls := nodes (dw Q.length (sizeL Q) A F B)) (by simp [Value.cells]) (by simp [hdl]) .here (nodes_one' _) (by simp [hdl]) fun H5 hH5 => ?_
    repeat' (first | refine zP ?_ | refine zA ?_ | (refine zM ?_; intro _ _) | refine zX ?_ | (refine zC ?_; intro _ _ _ _) | (refine zS ?_; intro _ _) | refine zO ?_ | (apply Ws <;> intro hg))
    refine WR.op (by first | exact gN | exact gS rfl) rfl (OpV.loadAll rfl hH5 (.head _) (.row _ _ _ _) (by simp [hdl])) ?_
    refine WR.call (by first | exact gN | exact gS rfl) rfl rfl (colour_fs hH5.tail.tail hD.hA hD.hF hD.hB hle hQ.even (by omega) (fun e he => hD.pt_lt he) hno) ?_
    rintro _ H6 ⟨n6, b, f, l, hn6, hb, hf, hF, hH6, rfl⟩
    repeat' (first | refine zP ?_ | refine zA ?_ | (refine zM ?_; intro _ _) | refine zX ?_ | (refine zC ?_; intro _ _ _ _) | (refine zS ?_; intro _ _) | (apply Ws <;> intro hg))
    exact Ends.ret2 rfl rfl ⟨n6, by omega, hH6.tail, .inr ⟨Q, _, rfl, hQ, hD.pt, .inr ⟨hno, f, l, _, hf, hF, rfl, rfl⟩⟩⟩
theorem slB_sl {b N : Nat} {l : List Nat} (h : l.length = N) (X : HL) : Sl ((b, Ch.row 3 0 0 (nodes l)) :: X) 1 (slB b N) (nodes l) :=
  .row (.head _) (.row _ _ _ _) (Nat.le_refl _) (by rw [Nat.mul_one]; simp [h]) (by rw [Nat.sub_self, List.drop_zero, List.take_of_length_le (by simp)]) (by simp) (.inr ⟨N, rfl, Nat.le_refl _⟩)
set_option maxHeartbeats 2000000 in
theorem Colour_fs (hH : hasH M n0 H) {P : List (List Int)} (hR : RowsI M v P) (hl : P.length ≤ 1000) (hr : ∀ i, i < P.length → (P.getD i []).length ≤ 1000) :
    FS C 38 [.agg [v].toArray] H (fun e H' => ∃ n' M2, n0 ≤ n' ∧ hasH (M2 ++ M) n' H' ∧ FewV P M n0 (fun _ l u => Sl M2 1 u (nodes l)) (.slice none 0 0) e) := by
  have hv : one v = true := hR.one_
  refine FS.intro (pf := pf38) rfl rfl rfl ?_
  repeat' (first | refine zP ?_ | refine zA ?_ | (refine zM ?_; intro _ _) | refine zX ?_ | (refine zC ?_; intro _ _ _ _) | (refine zS ?_; intro _ _) | (apply Ws <;> intro hg))
  rename_i H1 hH1
  refine WR.call (by first | exact gN | exact gS rfl) rfl rfl (drawN_fs hH1 hR.cons hl hr) ?_
  rintro _ H3 ⟨n3, hn3, hH3, ⟨h0, rfl⟩ | ⟨Q, A, F, B, rfl, hQ, hD, ⟨hlo, rfl⟩ | ⟨hno, rfl⟩⟩⟩
  · repeat' (first | refine zP ?_ | refine zA ?_ | (refine zM ?_; intro _ _) | refine zX ?_ | (refine zC ?_; intro _ _ _ _) | (refine zS ?_; intro _ _) | (apply Ws <;> intro hg))
    rename_i H4 hH4
    refine WR.storeAll (by first | exact gN | exact gS rfl) hH4 rfl rfl (ls := nodes (List.replicate 50 0)) (by simp [Value.cells]) rfl .here (nodes_one' _) rfl fun H5 hH5 => ?_
    repeat' (first | refine zP ?_ | refine zA ?_ | (refine zM ?_; intro _ _) | refine zX ?_ | (refine zC ?_; intro _ _ _ _) | (refine zS ?_; intro _ _) | refine zO ?_ | (apply Ws <;> intro hg))
    exact Ends.ret2 rfl rfl ⟨n3 + 1, [], by omega, hH5.tail.tail, .inl ⟨h0, rfl⟩⟩
  · repeat' (first | refine zP ?_ | refine zA ?_ | (refine zM ?_; intro _ _) | refine zX ?_ | (refine zC ?_; intro _ _ _ _) | (refine zS ?_; intro _ _) | (apply Ws <;> intro hg))
    rename_i H4 hH4
    refine WR.storeAll (by first | exact gN | exact gS rfl) hH4 rfl rfl (ls := nodes (List.replicate 50 0)) (by simp [Value.cells]) rfl .here (nodes_one' _) rfl fun H5 hH5 => ?_
    repeat' (first | refine zP ?_ | refine zA ?_ | (refine zM ?_; intro _ _) | refine zX ?_ | (refine zC ?_; intro _ _ _ _) | (refine zS ?_; intro _ _) | refine zO ?_ | (apply Ws <;> intro hg))
    exact Ends.ret2 rfl rfl ⟨n3 + 1, [], by omega, hH5.tail.tail, .inr ⟨Q, _, rfl, hQ, hD.pt, .inl ⟨hlo, rfl⟩⟩⟩
  · have hle := hQ.le
    have hlen := hQ.len
    have hdl := dw_len (V := Q.length) (c := sizeL Q) hD.hA hD.hF hD.hB
    repeat' (first | refine zP ?_ | refine zA ?_ | (refine zM ?_; intro _ _) | refine zX ?_ | (refine zC ?_; intro _ _ _ _) | (refine zS ?_; intro _ _) | (apply Ws <;> intro hg))
    rename_i H4 hH4
    refine WR.storeAll (by first | exact gN | exact gS rfl) hH4 rfl rfl (ls := nodes (dw Q.length (sizeL Q) A F B)) (by simp [Value.cells]) (by simp [hdl]) .here (nodes_one' _) (by simp [hdl]) fun H5 hH5 => ?_
    repeat' (first | refine zP ?_ | refine zA ?_ | (refine zM ?_; intro _ _) | refine zX ?_ | (refine zC ?_; intro _ _ _ _) | (refine zS ?_; intro _ _) | refine zO ?_ | (apply Ws <;> intro hg))
    refine WR.op (by first | exact gN | exact gS rfl) rfl (OpV.loadAll rfl hH5 (.head _) (.row _ _ _ _) (by simp [hdl])) ?_
    refine WR.call (by first | exact gN | exact gS rfl) rfl rfl (colour_fs hH5.tail.tail hD.hA hD.hF hD.hB hle hQ.even (by omega) (fun e he => hD.pt_lt he) hno) ?_
    rintro _ H6 ⟨n6, b, f, l, hn6, hb, hf, hF, hH6, rfl⟩
    repeat' (first | refine zP ?_ | refine zA ?_ | (refine zM ?_; intro _ _) | refine zX ?_ | (refine zC ?_; intro _ _ _ _) | (refine zS ?_; intro _ _) | (apply Ws <;> intro hg))
    exact Ends.ret2 rfl rfl ⟨n6, [_], by omega, hH6, .inr ⟨Q, _, rfl, hQ, hD.pt, .inr ⟨hno, f, l, _, hf, hF, slB_sl hF.1.1 [], rfl⟩⟩⟩
end
end Go.Proofs.YtmgmkglmjmaipaaDoor.Ct

/- The law's near and looped. -/
namespace Go.Proofs.YtmgmkglmjmaipaaDoor.Ct
open Go Go.Abs Go.Mth
set_option linter.unusedVariables false
set_option linter.unusedSimpArgs false
def maskTo (pt : Nat → Nat) (p : Nat) : Nat → Nat
  | 0 => 0
  | k + 1 => if pt k = p then maskTo pt p k ||| 2 ^ pt (oth k) else maskTo pt p k
def nearTo (pt : Nat → Nat) (V k : Nat) : List Nat := (List.range V).map fun p => maskTo pt p k
attribute [local irreducible] gOK WS WC WR WD Ends FS YS OpV seqK blockK loopK midK retK rdK asgK rangeEnd sat Cell
section
variable {M : HL} {n0 : Nat} {H : Heap} {v w : Value}
end
end Go.Proofs.YtmgmkglmjmaipaaDoor.Ct

/- The reference's Check, at, other, joined, looped. -/
namespace Go.Proofs.YtmgmkglmjmaipaaDoor.Ct
open Go Go.Abs Go.Mth
set_option linter.unusedVariables false
set_option linter.unusedSimpArgs false
attribute [local irreducible] gOK WS WC WR WD Ends FS YS OpV seqK blockK loopK midK retK rdK asgK rangeEnd sat Cell
section
variable {M : HL} {n0 : Nat} {H : Heap} {v w : Value}
/-- The first numbers of a slice of ints. -/
theorem WR.cutHiI {C : CW} {nt : Nat} {L : Env} {D : List Nat} {H : Heap} {K : St → Prop} {M : HL} {i d : Nat} {gd : Option (Tmp × Bool)} {lo' : List Nat} {l : List POp} {x hi : Operand} {v : Value} {xs : List Int} {m : Nat} {kd : IntKind} (hg : gOK L gd) (hd : Nat.blt d nt = true) (hx : ev L x = some v) (hS : Sl M 1 v (ints xs)) (hh : ev L hi = some (.int kd (m : Int))) (hm : m ≤ xs.length)
    (k : ∀ v', Sl M 1 v' (ints (xs.take m)) → WR C nt l ((d, v') :: L) D H K) : WR C nt (⟨i, some d, .slS x 1 none (some hi) none, gd, lo'⟩ :: l) L D H K := by
  refine WR.slS (vl := none) (vh := some (.int kd (m : Int))) (a := 0) (b := m) hg hd hx hS rfl (by simp [bnd, hh]) rfl (fun _ _ => rfl) (Nat.zero_le _) (by simpa using hm) (Nat.le_refl _) fun v' h => k v' ?_
  simpa [List.map_take] using h
set_option maxHeartbeats 2000000 in
theorem rCheck_fs (hH : hasH M n0 H) {P : List (List Int)} (hR : RowsI M v P) (hl : P.length ≤ 1000) (hr : ∀ i, i < P.length → (P.getD i []).length ≤ 1000) :
    FS C 23 [.agg [v].toArray] H (fun e H' => ∃ n', n0 ≤ n' ∧ hasH M n' H' ∧ e = .int .i64 (errM P)) := by
  have hR0 := hR
  obtain ⟨ws, hS, hwl, hrow⟩ := hR
  have hv := hS.one_
  have hsz : sizeL P ≤ 1000 * P.length := by
    have h : ∀ k, k ≤ P.length → sizeTo P k ≤ 1000 * k := by
      intro k
      induction k with
      | zero => intro _; simp [sizeTo]
      | succ k ih =>
        intro hk
        have := ih (by omega)
        have := hr k (by omega)
        rw [sizeTo_succ (by omega)]; omega
    rw [← sizeTo_all]; exact h _ (Nat.le_refl _)
  refine FS.intro (pf := pf23) rfl rfl rfl ?_
  repeat' (first | refine zP ?_ | refine zA ?_ | (refine zM ?_; intro _ _) | refine zX ?_ | (refine zC ?_; intro _ _ _ _) | (refine zS ?_; intro _ _) | (apply Ws <;> intro hg))
  rename_i H1 hH1
  refine WR.call (by first | exact gN | exact gS rfl) rfl rfl (rends_fs hH1 hR0.cons hl hr) ?_
  rintro _ H2 ⟨n2, hn2, hH2, rfl⟩
  clear hH hH1
  repeat' (first | refine zP ?_ | refine zA ?_ | (refine zM ?_; intro _ _) | refine zX ?_ | (refine zC ?_; intro _ _ _ _) | (refine zS ?_; intro _ _) | (apply Ws <;> intro hg))
  refine WC.condP rfl (fun hbig => ?_) (fun hbig => ?_)
  · repeat' (first | refine zP ?_ | refine zA ?_ | (refine zM ?_; intro _ _) | refine zX ?_ | (refine zC ?_; intro _ _ _ _) | (refine zS ?_; intro _ _) | (apply Ws <;> intro hg))
    exact Ends.ret1 rfl ⟨n2, by omega, hH2.tail, by unfold errM; rw [if_pos (by omega)]⟩
  · repeat' (first | refine zP ?_ | refine zA ?_ | (refine zM ?_; intro _ _) | refine zX ?_ | (refine zC ?_; intro _ _ _ _) | (refine zS ?_; intro _ _) | (apply Ws <;> intro hg))
    refine WC.loopX [(1, _), (3, _)] (fun a : Nat × Nat => [(4, .int .i64 (a.1 : Int))]) []
      (fun a H' => a.1 ≤ P.length ∧ n2 ≤ a.2 ∧ firstE (errI P) a.1 = 0 ∧ hasH ((n0, .row 27 0 0 [v]) :: M) a.2 H') (fun a => P.length - a.1) (0, n2) (by repeat' (first | exact .nil | refine .cons rfl ?_)) rfl
      ⟨Nat.zero_le _, Nat.le_refl _, rfl, hH2⟩ ?_
    clear hH2
    rintro ⟨i, n3⟩ H4 ⟨hi, hn3, h0, hH⟩
    simp only at hi hn3 h0 hH
    dsimp only [List.cons_append, List.nil_append]
    repeat' (first | refine zP ?_ | refine zA ?_ | (refine zM ?_; intro _ _) | refine zX ?_ | (refine zC ?_; intro _ _ _ _) | (refine zS ?_; intro _ _) | (apply Ws <;> intro hg))
    refine WC.condP rfl (fun hlt => ?_) (fun hlt => ?_)
    · have hi' : i < P.length := by omega
      have hSi := hrow i hi'
      have hli := hr i hi'
      repeat' (first | refine zP ?_ | refine zA ?_ | (refine zM ?_; intro _ _) | refine zX ?_ | (refine zC ?_; intro _ _ _ _) | (refine zS ?_; intro _ _) | (apply Ws <;> intro hg))
      refine WC.condP rfl (fun he => ?_) (fun he => ?_)
      · repeat' (first | refine zP ?_ | refine zA ?_ | (refine zM ?_; intro _ _) | refine zX ?_ | (refine zC ?_; intro _ _ _ _) | (refine zS ?_; intro _ _) | (apply Ws <;> intro hg))
        refine Ends.ret1 rfl ⟨n3, by omega, hH.tail, ?_⟩
        have he' : errI P i = 4 := by unfold errI; rw [if_pos (by omega)]
        have := firstE_at h0 (by rw [he']; decide) hi'
        rw [he'] at this
        unfold errM
        rw [if_neg (by omega), if_pos (by rw [this]; decide), this]
      · repeat' (first | refine zP ?_ | refine zA ?_ | (refine zM ?_; intro _ _) | refine zX ?_ | (refine zC ?_; intro _ _ _ _) | (refine zS ?_; intro _ _) | (apply Ws <;> intro hg))
        refine WC.loopX [(1, _), (3, _), (4, _), (5, _)] (fun a : Nat × Nat => [(6, .int .i64 (a.1 : Int))]) []
          (fun a H' => a.1 ≤ (P.getD i []).length ∧ n2 ≤ a.2 ∧ firstE (errK P i) a.1 = 0 ∧ hasH ((n0, .row 27 0 0 [v]) :: M) a.2 H') (fun a => (P.getD i []).length - a.1) (0, n3) (by repeat' (first | exact .nil | refine .cons rfl ?_)) rfl
          ⟨Nat.zero_le _, hn3, rfl, hH⟩ ?_
        clear hH hn3
        rintro ⟨k, n4⟩ H5 ⟨hk, hn4, h0k, hH⟩
        simp only at hk hn4 h0k hH
        dsimp only [List.cons_append, List.nil_append]
        repeat' (first | refine zP ?_ | refine zA ?_ | (refine zM ?_; intro _ _) | refine zX ?_ | (refine zC ?_; intro _ _ _ _) | (refine zS ?_; intro _ _) | (apply Ws <;> intro hg))
        refine WC.condP rfl (fun hlt2 => ?_) (fun hlt2 => ?_)
        · have hk' : k < (P.getD i []).length := by omega
          have hat : errK P i k ≠ 0 → errM P = errK P i k := fun hne => by
            have h1 := firstE_at h0k hne hk'
            have h2 : errI P i = errK P i k := by unfold errI; rw [if_neg (by omega), h1]
            have h3 := firstE_at h0 (by rw [h2]; exact hne) hi'
            unfold errM
            rw [if_neg (by omega), if_pos (by rw [h3, h2]; exact hne), h3, h2]
          repeat' (first | refine zP ?_ | refine zA ?_ | (refine zM ?_; intro _ _) | refine zX ?_ | (refine zC ?_; intro _ _ _ _) | (refine zS ?_; intro _ _) | (apply Ws <;> intro hg))
          refine WR.call (by first | exact gN | exact gS rfl) rfl rfl (rin_fs _ _ _) ?_
          rintro _ _ ⟨rfl, rfl⟩
          by_cases hx : (P.getD i []).getD k 0 < 0 ∨ (sizeL P : Int) ≤ (P.getD i []).getD k 0
          · rw [decide_eq_false (show ¬ (0 ≤ (P.getD i []).getD k 0 ∧ (P.getD i []).getD k 0 ≤ (sizeL P : Int) - 1) by omega)]
            repeat' (first | refine zP ?_ | refine zA ?_ | (refine zM ?_; intro _ _) | refine zX ?_ | (refine zC ?_; intro _ _ _ _) | (refine zS ?_; intro _ _) | refine zO ?_ | (apply Ws <;> intro hg))
            refine Ends.ret1 rfl ⟨n4, by omega, hH.tail, ?_⟩
            have e2 : errK P i k = 2 := by unfold errK; rw [if_pos hx]
            rw [hat (by rw [e2]; decide), e2]
          · rw [decide_eq_true (show (0 ≤ (P.getD i []).getD k 0 ∧ (P.getD i []).getD k 0 ≤ (sizeL P : Int) - 1) by omega)]
            have hmp := mem_preM (P := P) (i := i) (k := k) (x := (P.getD i []).getD k 0) (by omega)
            have hin : (P.getD i []).getD k 0 ∈ preM P i k → errM P = 6 := fun hm => by
              have e2 : errK P i k = 6 := by unfold errK; rw [if_neg hx, if_pos hm]
              rw [hat (by rw [e2]; decide), e2]
            repeat' (first | refine zP ?_ | refine zA ?_ | (refine zM ?_; intro _ _) | refine zX ?_ | (refine zC ?_; intro _ _ _ _) | (refine zS ?_; intro _ _) | refine zO ?_ | (apply Ws <;> intro hg))
            refine WR.cutHiI (m := k) (by first | exact gN | exact gS rfl) rfl rfl hSi rfl (by omega) fun s hs => ?_
            repeat' (first | refine zP ?_ | refine zA ?_ | (refine zM ?_; intro _ _) | refine zX ?_ | (refine zC ?_; intro _ _ _ _) | (refine zS ?_; intro _ _) | refine zO ?_ | (apply Ws <;> intro hg))
            refine WR.call (by first | exact gN | exact gS rfl) rfl rfl (rindex_fs hH hs.cons (by rw [List.length_take]; omega) _) ?_
            rintro _ H6 ⟨rfl, ⟨j, hj, he6, _, rfl⟩ | ⟨hn, rfl⟩⟩
            · repeat' (first | refine zP ?_ | refine zA ?_ | (refine zM ?_; intro _ _) | refine zX ?_ | (refine zC ?_; intro _ _ _ _) | (refine zS ?_; intro _ _) | refine zO ?_ | (apply Ws <;> intro hg))
              refine Ends.ret1 rfl ⟨n4, by omega, hH.tail, ?_⟩
              rw [hin (hmp.2 (.inr (by rw [← he6]; exact getD_mem hj)))]
            · repeat' (first | refine zP ?_ | refine zA ?_ | (refine zM ?_; intro _ _) | refine zX ?_ | (refine zC ?_; intro _ _ _ _) | (refine zS ?_; intro _ _) | refine zO ?_ | (apply Ws <;> intro hg))
              refine WR.call (by first | exact gN | exact gS rfl) rfl rfl (rpoint_fs hH hR0.cons hl hr (many := i) (by omega) _) ?_
              rintro _ H7 ⟨n7, hn7, hH7, ⟨j, hj, he6, _, rfl⟩ | ⟨hn2, rfl⟩⟩
              · repeat' (first | refine zP ?_ | refine zA ?_ | (refine zM ?_; intro _ _) | refine zX ?_ | (refine zC ?_; intro _ _ _ _) | (refine zS ?_; intro _ _) | refine zO ?_ | (apply Ws <;> intro hg))
                refine Ends.ret1 rfl ⟨n7, by omega, hH7.tail, ?_⟩
                rw [hin (hmp.2 (.inl ⟨j, hj, he6⟩))]
              · repeat' (first | refine zP ?_ | refine zA ?_ | (refine zM ?_; intro _ _) | refine zX ?_ | (refine zC ?_; intro _ _ _ _) | (refine zS ?_; intro _ _) | refine zO ?_ | (apply Ws <;> intro hg))
                have e2 : errK P i k = 0 := by
                  unfold errK
                  rw [if_neg hx, if_neg fun h => ?_]
                  rcases hmp.1 h with ⟨j, hj, h⟩ | h
                  · exact hn2 j hj h
                  · exact hn h
                refine Ends.loop (k + 1, n7) (by simp only; omega) (by repeat' (first | exact .nil | refine .cons rfl ?_)) rfl ⟨hk', by simp only; omega, firstE_succ h0k e2, hH7⟩
        · have hkl : k = (P.getD i []).length := by omega
          subst hkl
          repeat' (first | refine zP ?_ | refine zA ?_ | (refine zM ?_; intro _ _) | refine zX ?_ | (refine zC ?_; intro _ _ _ _) | (refine zS ?_; intro _ _) | (apply Ws <;> intro hg))
          refine Ends.loop (i + 1, n4) (by simp only; omega) (by repeat' (first | exact .nil | refine .cons rfl ?_)) rfl ⟨hi', hn4, firstE_succ h0 ?_, hH⟩
          unfold errI
          rw [if_neg (by omega), h0k]
    · have hin : i = P.length := by omega
      subst hin
      repeat' (first | refine zP ?_ | refine zA ?_ | (refine zM ?_; intro _ _) | refine zX ?_ | (refine zC ?_; intro _ _ _ _) | (refine zS ?_; intro _ _) | (apply Ws <;> intro hg))
      rw [show (sizeL P : Int) % 2 = ((sizeL P % 2 : Nat) : Int) by simp]
      refine WC.condP rfl (fun hodd => ?_) (fun hodd => ?_)
      · repeat' (first | refine zP ?_ | refine zA ?_ | (refine zM ?_; intro _ _) | refine zX ?_ | (refine zC ?_; intro _ _ _ _) | (refine zS ?_; intro _ _) | (apply Ws <;> intro hg))
        refine Ends.ret1 rfl ⟨n3, by omega, hH.tail, ?_⟩
        unfold errM
        rw [if_neg (by omega), if_neg (by rw [h0]; decide), if_pos (by omega)]
      · repeat' (first | refine zP ?_ | refine zA ?_ | (refine zM ?_; intro _ _) | refine zX ?_ | (refine zC ?_; intro _ _ _ _) | (refine zS ?_; intro _ _) | (apply Ws <;> intro hg))
        refine Ends.ret1 rfl ⟨n3, by omega, hH.tail, ?_⟩
        unfold errM
        rw [if_neg (by omega), if_neg (by rw [h0]; decide), if_neg (by omega)]
end
end Go.Proofs.YtmgmkglmjmaipaaDoor.Ct

/- Maps told otherwise: the mathematics; Clone, Reverse. -/
namespace Go.Abs
set_option linter.unusedSectionVars false
set_option linter.unusedVariables false
open Go
section
variable [Globs] {C : CW} {nt : Nat} {L : Env} {D : List Nat} {H : Heap} {K : St → Prop} {M M' : HL} {n i d : Nat} {gd : Option (Tmp × Bool)} {lo' : List Nat} {l : List POp} {rs : List Rd}
/-- A slice that can be read, though it is empty. -/
def RdS (M : HL) (v : Value) : Prop := v = .slice none 0 0 ∨ ∃ (b u o lo len cap : Nat) (ch : Ch) (cs : List Value), v = .slice (some ⟨b, o, some u⟩) len cap ∧ (b, ch) ∈ M ∧ ch.cellsAre u lo cs ∧ lo ≤ o ∧ o - lo ≤ cs.length
theorem RdS.mono {M M' : HL} {v : Value} (h : RdS M v) (k : ∀ q ∈ M, q ∈ M') : RdS M' v := by
  rcases h with h | ⟨b, u, o, lo, len, cap, ch, cs, h1, h2, h3⟩
  · exact .inl h
  · exact .inr ⟨b, u, o, lo, len, cap, ch, cs, h1, k _ h2, h3⟩
end
end Go.Abs
namespace Go.Proofs.YtmgmkglmjmaipaaDoor.Ct
open Go Go.Abs Go.Mth
set_option linter.unusedVariables false
set_option linter.unusedSimpArgs false
theorem PtOf.lt {f pt : Nat → Nat} {N : Nat} {Q : List (List Nat)} (h : CycS f N Q) (hp : PtOf Q pt) {x : Nat} (hx : x < N) : pt x < Q.length := by
  obtain ⟨l, hl, hm⟩ := h.all x hx
  obtain ⟨p, hp1, rfl⟩ := mem_getD hl
  rw [hp p hp1 x hm]; exact hp1
/-- A list from a place on. -/
def rotN (k : Nat) (l : List Nat) : List Nat := l.drop k ++ l.take k
/-- The map, its points in another order, told from other ends on. -/
def toldRow (Q : List (List Nat)) (t i : Nat) : List Nat := rotN (t % (Q.getD ((i + t) % Q.length) []).length) (Q.getD ((i + t) % Q.length) [])
def toldTo (Q : List (List Nat)) (t k : Nat) : List (List Nat) := (List.range k).map (toldRow Q t)
theorem OKM.small {Q : List (List Nat)} (h : OKM Q) : (castP Q).length ≤ 1000 ∧ ∀ i, i < (castP Q).length → ((castP Q).getD i []).length ≤ 1000 := by
  have h1 := h.len
  have h2 := h.le
  refine ⟨by rw [castP_len]; omega, fun i hi => ?_⟩
  rw [castP_len] at hi
  rw [castP_get, castL_len]
  have h3 := sizeTo_succ hi
  have h4 := sizeTo_le (P := Q) (j := i + 1) (k := Q.length) hi (Nat.le_refl _)
  rw [sizeTo_all] at h4; omega
theorem CycL.small {f : Nat → Nat} {N : Nat} {ls : List (List Nat)} (h : CycL f N ls) (hN : N ≤ 16) : (castP ls).length ≤ 100000 ∧ ∀ i, i < (castP ls).length → ((castP ls).getD i []).length ≤ 100000 := by
  have h1 := h.count
  have h2 := h.toS.len
  rw [size_flat] at h2
  refine ⟨by rw [castP_len]; omega, fun i hi => ?_⟩
  rw [castP_len] at hi
  rw [castP_get, castL_len]
  have h3 := sizeTo_succ hi
  have h4 := sizeTo_le (P := ls) (j := i + 1) (k := ls.length) hi (Nat.le_refl _)
  rw [sizeTo_all] at h4; omega
theorem FewV.ok {Q : List (List Nat)} {M : HL} {n0 : Nat} {res : Nat → List Nat → Value → Prop} {z e : Value} (h : FewV (castP Q) M n0 res z e) (hQ : OKM Q) :
    ∃ pt, PtOf Q pt ∧ ((loopy pt (sizeL Q / 2) ∧ e = .tuple #[z, .int .i64 12]) ∨ (¬ loopy pt (sizeL Q / 2) ∧ ∃ f l u, f ≤ Q.length ∧ FewR pt (sizeL Q / 2) Q.length f l ∧ res f l u ∧ e = .tuple #[u, .int .i64 0])) := by
  rcases h with ⟨h0, _⟩ | ⟨Q', pt, h1, h2, h3⟩
  · exact absurd (ok_err hQ) h0
  · obtain rfl := castP_inj h1
    exact ⟨pt, h3⟩
theorem eqlB : ∀ a b : Bool, pureRun C.c.P (binOp .eql 4 (.bool a) (.bool b)) = some (.bool (a == b)) := by
  intro a b
  cases a <;> cases b <;> kernel_rfl
end Go.Proofs.YtmgmkglmjmaipaaDoor.Ct

/- Rings of an odd number of points: mathematics. -/
namespace Go.Proofs.YtmgmkglmjmaipaaDoor.Ct
open Go Go.Abs Go.Mth
set_option linter.unusedVariables false
set_option linter.unusedSimpArgs false
/-- A walk from x by way of some points to y. -/
def WL (adj : Nat → Nat → Prop) : Nat → List Nat → Nat → Prop
  | x, [], y => adj x y
  | x, a :: A, y => adj x a ∧ WL adj a A y
theorem WL.split {adj : Nat → Nat → Prop} : ∀ {A : List Nat} {x b y : Nat} {B : List Nat}, WL adj x (A ++ b :: B) y ↔ WL adj x A b ∧ WL adj b B y
  | [], _, _, _, _ => Iff.rfl
  | a :: A, x, b, y, B => by
    show adj x a ∧ WL adj a (A ++ b :: B) y ↔ (adj x a ∧ WL adj a A b) ∧ WL adj b B y
    rw [WL.split, and_assoc]
theorem WL.snoc {adj : Nat → Nat → Prop} {A : List Nat} {x p y : Nat} : WL adj x (A ++ [p]) y ↔ WL adj x A p ∧ adj p y := WL.split
theorem WL.mono {adj adj2 : Nat → Nat → Prop} (h : ∀ p q, adj p q → adj2 p q) : ∀ {A : List Nat} {x y : Nat}, WL adj x A y → WL adj2 x A y
  | [], _, _, k => h _ _ k
  | _ :: _, _, _, k => ⟨h _ _ k.1, k.2.mono h⟩
theorem WL.mem {adj : Nat → Nat → Prop} {V : Nat} (h : ∀ p q, adj p q → p < V ∧ q < V) : ∀ {A : List Nat} {x y : Nat}, WL adj x A y → x < V ∧ y < V ∧ ∀ a ∈ A, a < V
  | [], _, _, k => ⟨(h _ _ k).1, (h _ _ k).2, fun a ha => by cases ha⟩
  | b :: A, x, y, k => by
    obtain ⟨h1, h2, h3⟩ := k.2.mem h
    refine ⟨(h _ _ k.1).1, h2, fun a ha => ?_⟩
    rcases List.mem_cons.1 ha with rfl | ha
    · exact h1
    · exact h3 a ha
/-- A ring: all points of it differ. -/
def Rg (adj : Nat → Nat → Prop) (x : Nat) (A : List Nat) : Prop := WL adj x A x ∧ (x :: A).Nodup
theorem Rg.len {adj : Nat → Nat → Prop} {V x : Nat} {A : List Nat} (hV : ∀ p q, adj p q → p < V ∧ q < V) (h : Rg adj x A) : A.length + 1 ≤ V := by
  obtain ⟨h1, h2, h3⟩ := h.1.mem hV
  exact nodup_le V (x :: A) h.2 fun y hy => by
    rcases List.mem_cons.1 hy with rfl | hy
    · exact h1
    · exact h3 y hy
theorem Rg.rot {adj : Nat → Nat → Prop} {x p : Nat} {A B : List Nat} (h : Rg adj x (A ++ p :: B)) : Rg adj p (B ++ x :: A) := by
  obtain ⟨w1, w2⟩ := WL.split.1 h.1
  refine ⟨WL.split.2 ⟨w2, w1⟩, ?_⟩
  have : (p :: (B ++ x :: A)).Perm (x :: (A ++ p :: B)) := by
    have := List.perm_append_comm (l₁ := p :: B) (l₂ := x :: A)
    simpa using this
  exact this.nodup_iff.2 h.2
/-- A walk by numbers of steps. -/
def wlk (adj : Nat → Nat → Prop) (x : Nat) : Nat → Nat → Prop
  | 0, q => q = x
  | s + 1, q => ∃ p, wlk adj x s p ∧ adj p q
/-- Two points of a line. -/
def adjP (pt : Nat → Nat) (N p q : Nat) : Prop := ∃ e, e < N ∧ pt e = p ∧ pt (oth e) = q
theorem adjP.symm {pt : Nat → Nat} {N p q : Nat} (he : N % 2 = 0) (h : adjP pt N p q) : adjP pt N q p := by
  obtain ⟨e, h1, h2, h3⟩ := h
  have := oth_lt (L := N / 2) (e := e) (by omega)
  exact ⟨oth e, by omega, h3, by rw [oth_oth]; exact h2⟩
theorem adjP.line {pt : Nat → Nat} {L p q : Nat} (h : adjP pt (2 * L) p q) : ∃ k, k < L ∧ ((p = pt (2 * k) ∧ q = pt (2 * k + 1)) ∨ (q = pt (2 * k) ∧ p = pt (2 * k + 1))) := by
  obtain ⟨e, h1, rfl, rfl⟩ := h
  refine ⟨e / 2, by omega, ?_⟩
  unfold oth
  split
  · exact .inl ⟨by congr 1; omega, by congr 1; omega⟩
  · exact .inr ⟨by congr 1; omega, by congr 1; omega⟩
end Go.Proofs.YtmgmkglmjmaipaaDoor.Ct

/- Index, Contains, joined, goesOn. -/
namespace Go.Proofs.YtmgmkglmjmaipaaDoor.Ct
open Go Go.Abs Go.Mth
set_option linter.unusedVariables false
set_option linter.unusedSimpArgs false
def adjB (A : List Nat) (N p q : Nat) : Bool := (List.range N).any fun e => decide (A.getD e 0 = p) && decide (A.getD (oth e) 0 = q)
theorem adjB_iff {A : List Nat} {N p q : Nat} : adjB A N p q = true ↔ adjP (fun e => A.getD e 0) N p q := by
  simp [adjB, adjP]
def goB (A : List Nat) (N : Nat) (l : List Nat) : Bool := decide (l.length = 1) || (adjB A N (l.getD (l.length - 2) 0) (l.getD (l.length - 1) 0) && !decide (l.getD (l.length - 1) 0 ∈ l.take (l.length - 1)))
def fitO (A : List Nat) (N n : Nat) (l : List Nat) : Bool := goB A N l && (decide (l.length < n) || adjB A N (l.getD (n - 1) 0) (l.getD 0 0))
theorem nodup_take {l : List Nat} : l.Nodup ↔ ∀ j, j < l.length → l.getD j 0 ∉ l.take j := by
  constructor
  · intro h j hj hm
    obtain ⟨i, hi, he⟩ := List.mem_iff_getElem.1 hm
    rw [List.getElem_take] at he
    rw [List.length_take] at hi
    rw [getD_eq hj] at he
    exact (List.pairwise_iff_getElem.1 h) i j (by omega) hj (by omega) he
  · intro h
    refine List.pairwise_iff_getElem.2 fun i j hi hj hij he => h j hj ?_
    rw [getD_eq hj, ← he]
    exact List.mem_iff_getElem.2 ⟨i, by simp; omega, by rw [List.getElem_take]⟩
theorem WL_get {adj : Nat → Nat → Prop} : ∀ {A : List Nat} {x y : Nat}, WL adj x A y ↔ (∀ j, j < A.length → adj ((x :: A).getD j 0) ((x :: A).getD (j + 1) 0)) ∧ adj ((x :: A).getD A.length 0) y
  | [], x, y => ⟨fun h => ⟨fun j hj => absurd hj (Nat.not_lt_zero _), h⟩, fun h => h.2⟩
  | a :: A, x, y => by
    show adj x a ∧ WL adj a A y ↔ _
    rw [WL_get]
    constructor
    · rintro ⟨h1, h2, h3⟩
      refine ⟨fun j hj => ?_, h3⟩
      cases j with
      | zero => exact h1
      | succ j => exact h2 j (by simpa using hj)
    · rintro ⟨h1, h2⟩
      exact ⟨h1 0 (by simp), fun j hj => h1 (j + 1) (by simpa using hj), h2⟩
theorem fit_ring {A : List Nat} {N n V x : Nat} {B : List Nat} (hV : ∀ p q, adjP (fun e => A.getD e 0) N p q → p < V ∧ q < V) (hl : B.length + 1 = n) : okP (fitO A N n) V (x :: B) ↔ Rg (adjP (fun e => A.getD e 0) N) x B := by
  have hlen : (x :: B).length = n := by simpa using hl
  constructor
  · intro h
    have hg : ∀ j, j < n → goB A N ((x :: B).take (j + 1)) = true := fun j hj => by
      have := (h j (by omega)).2
      unfold fitO at this
      rw [Bool.and_eq_true] at this
      exact this.1
    have hg2 : ∀ j, 0 < j → j < n → adjP (fun e => A.getD e 0) N ((x :: B).getD (j - 1) 0) ((x :: B).getD j 0) ∧ (x :: B).getD j 0 ∉ (x :: B).take j := fun j h0 hj => by
      have := hg j hj
      unfold goB at this
      have e1 : ((x :: B).take (j + 1)).length = j + 1 := by rw [List.length_take]; omega
      rw [e1, decide_eq_false (by omega), Bool.false_or, Bool.and_eq_true, adjB_iff, getD_take (by omega), getD_take (by omega), List.take_take, Bool.not_eq_true', decide_eq_false_iff_not, show min (j + 1 - 1) (j + 1) = j by omega, show j + 1 - 2 = j - 1 by omega, show j + 1 - 1 = j by omega] at this
      exact this
    refine ⟨WL_get.2 ⟨fun j hj => (hg2 (j + 1) (by omega) (by omega)).1, ?_⟩, nodup_take.2 fun j hj => ?_⟩
    · have := (h (n - 1) (by omega)).2
      rw [show n - 1 + 1 = n by omega, ← hlen, List.take_length] at this
      unfold fitO at this
      rw [Bool.and_eq_true, decide_eq_false (by omega), Bool.false_or, adjB_iff] at this
      have h2 := this.2
      rw [hlen, show n - 1 = B.length by omega] at h2
      exact h2
    · cases j with
      | zero => simp
      | succ j => exact (hg2 (j + 1) (by omega) (by omega)).2
  · rintro ⟨hw, hn⟩ j hj
    obtain ⟨g1, g2, g3⟩ := hw.mem hV
    obtain ⟨w1, w2⟩ := WL_get.1 hw
    refine ⟨?_, ?_⟩
    · rcases List.mem_cons.1 (getD_mem (a := 0) hj) with e | e
      · rw [e]; exact g1
      · exact g3 _ e
    · have e1 : ((x :: B).take (j + 1)).length = j + 1 := by rw [List.length_take]; omega
      unfold fitO goB
      rw [e1, Bool.and_eq_true]
      constructor
      · by_cases h0 : j = 0
        · subst h0; rfl
        · have hz := w1 (j - 1) (by omega)
          rw [show j - 1 + 1 = j by omega] at hz
          rw [decide_eq_false (by omega), Bool.false_or, Bool.and_eq_true, adjB_iff, getD_take (by omega), getD_take (by omega), List.take_take, Bool.not_eq_true', decide_eq_false_iff_not, show min (j + 1 - 1) (j + 1) = j by omega, show j + 1 - 2 = j - 1 by omega, show j + 1 - 1 = j by omega]
          exact ⟨hz, nodup_take.1 hn j hj⟩
      · by_cases h0 : j + 1 < n
        · rw [decide_eq_true h0, Bool.true_or]
        · rw [decide_eq_false h0, Bool.false_or, adjB_iff, show j + 1 = (x :: B).length by omega, List.take_length, show n - 1 = B.length by omega]
          exact w2
theorem adjP.lt {A : List Nat} {L V : Nat} (hpt : ∀ e, e < 2 * L → A.getD e 0 < V) : ∀ p q, adjP (fun e => A.getD e 0) (2 * L) p q → p < V ∧ q < V := by
  rintro p q ⟨e, h1, rfl, rfl⟩
  exact ⟨hpt e h1, hpt _ (oth_lt h1)⟩
attribute [local irreducible] gOK WS WC WR WD Ends FS YS OpV seqK blockK loopK midK retK rdK asgK rangeEnd sat Cell
section
variable {M : HL} {n0 : Nat} {H : Heap} {v w : Value}
end
end Go.Proofs.YtmgmkglmjmaipaaDoor.Ct

/- The closure of oddRing, oddRing, Odd. -/
namespace Go.Proofs.YtmgmkglmjmaipaaDoor.Ct
open Go Go.Abs Go.Mth
set_option linter.unusedVariables false
set_option linter.unusedSimpArgs false
attribute [local irreducible] gOK WS WC WR WD Ends FS YS OpV seqK blockK loopK midK retK rdK asgK rangeEnd sat Cell
section
variable {M : HL} {n0 : Nat} {H : Heap} {v w : Value}
/-- No ring of an odd number of points, fewer than so many. -/
def noOdd (A : List Nat) (N V k : Nat) : Prop := ∀ k', k' % 2 = 1 → 3 ≤ k' → k' < k → ∀ l', l'.length = k' → ¬ okP (fitO A N k') V l'
def OddR (A : List Nat) (N V : Nat) (k : Nat) (l : List Nat) : Prop := k % 2 = 1 ∧ 3 ≤ k ∧ k ≤ V ∧ FirstR (fitO A N k) V k l ∧ noOdd A N V k
/-- A ring of an odd number of points, or the error. -/
def OddV (P : List (List Int)) (M2 : HL) (e : Value) : Prop :=
  (errM P ≠ 0 ∧ e = .tuple #[.slice none 0 0, .int .i64 (errM P)]) ∨ ∃ Q A, P = castP Q ∧ OKM Q ∧ PtOf Q (fun e => A.getD e 0) ∧ (∀ e, e < sizeL Q → A.getD e 0 < Q.length) ∧
    ((loopy (fun e => A.getD e 0) (sizeL Q / 2) ∧ e = .tuple #[.slice none 0 0, .int .i64 12]) ∨ (¬ loopy (fun e => A.getD e 0) (sizeL Q / 2) ∧
      ((∃ k l u, OddR A (sizeL Q) Q.length k l ∧ Sl M2 1 u (nodes l) ∧ e = .tuple #[u, .int .i64 0]) ∨ (noOdd A (sizeL Q) Q.length (Q.length + 1) ∧ e = .tuple #[.slice none 0 0, .int .i64 13]))))
end
end Go.Proofs.YtmgmkglmjmaipaaDoor.Ct

/- ChartOdd: mathematics. -/
namespace Go.Proofs.YtmgmkglmjmaipaaDoor.Ct
open Go Go.Abs Go.Mth
set_option linter.unusedVariables false
set_option linter.unusedSimpArgs false
def orTo (ls : List Nat) (m : Nat) : Nat → Nat
  | 0 => 0
  | k + 1 => if m.testBit k = true then orTo ls m k ||| ls.getD k 0 else orTo ls m k
def mskW (ls : List Nat) (V x : Nat) : Nat → Nat
  | 0 => 2 ^ x
  | s + 1 => orTo ls (mskW ls V x s) V
/-- The shortest walk of an odd number of lines that leads back, of those that were looked at. -/
def ShI (adj : Nat → Nat → Prop) (V x0 s0 : Nat) (sh : Nat) : Prop := (sh = 100 ∨ ∃ x s, x < V ∧ s % 2 = 1 ∧ s ≤ V ∧ wlk adj x s x ∧ sh = s) ∧ ∀ x s, (x < x0 ∨ (x = x0 ∧ s < s0)) → s % 2 = 1 → s ≤ V → wlk adj x s x → sh ≤ s
theorem ShI.next {adj : Nat → Nat → Prop} {V x0 sh : Nat} (h : ShI adj V x0 (V + 1) sh) : ShI adj V (x0 + 1) 1 sh := by
  refine ⟨h.1, fun x s hx hs hsV hw => ?_⟩
  by_cases e : x < x0
  · exact h.2 x s (.inl e) hs hsV hw
  · rcases hx with hx | ⟨rfl, hx⟩
    · have : x = x0 := by omega
      subst this
      exact h.2 x s (.inr ⟨rfl, by omega⟩) hs hsV hw
    · omega
theorem ShI.skip {adj : Nat → Nat → Prop} {V x0 s0 sh : Nat} (h : ShI adj V x0 s0 sh) (hn : ¬ (s0 % 2 = 1 ∧ wlk adj x0 s0 x0)) : ShI adj V x0 (s0 + 1) sh := by
  refine ⟨h.1, fun x s hx hs hsV hw => ?_⟩
  rcases hx with hx | ⟨rfl, hx⟩
  · exact h.2 x s (.inl hx) hs hsV hw
  · by_cases e : s = s0
    · subst e; exact absurd ⟨hs, hw⟩ hn
    · exact h.2 x s (.inr ⟨rfl, by omega⟩) hs hsV hw
theorem ShI.take {adj : Nat → Nat → Prop} {V x0 s0 sh : Nat} (h : ShI adj V x0 s0 sh) (hx0 : x0 < V) (hs0 : s0 ≤ V) (ho0 : s0 % 2 = 1) (hw0 : wlk adj x0 s0 x0) : ShI adj V x0 (s0 + 1) (min sh s0) := by
  refine ⟨?_, fun x s hx hs hsV hw => ?_⟩
  · by_cases e : s0 ≤ sh
    · exact .inr ⟨x0, s0, hx0, ho0, hs0, hw0, by omega⟩
    · rw [Nat.min_eq_left (by omega)]; exact h.1
  · rcases hx with hx | ⟨rfl, hx⟩
    · have := h.2 x s (.inl hx) hs hsV hw
      omega
    · by_cases e : s = s0
      · subst e; omega
      · have := h.2 x s (.inr ⟨rfl, by omega⟩) hs hsV hw
        omega
theorem PtOf.uniq {Q : List (List Nat)} {pt pt' : Nat → Nat} (hQ : OKM Q) (h : PtOf Q pt) (k : PtOf Q pt') {e : Nat} (he : e < sizeL Q) : pt e = pt' e := by
  have hm : e ∈ Q.flatten := nodup_all hQ.nd (fun y hy => by obtain ⟨l, hl, h2⟩ := List.mem_flatten.1 hy; exact hQ.lt l hl y h2) (size_flat Q) he
  obtain ⟨l, hl, hel⟩ := List.mem_flatten.1 hm
  obtain ⟨q, hq, rfl⟩ := mem_getD hl
  rw [h q hq e hel, k q hq e hel]
theorem no_loop {pt : Nat → Nat} {L x : Nat} (h : ¬ loopy pt L) : ¬ adjP pt (2 * L) x x := by
  intro k
  obtain ⟨j, hj, ⟨h1, h2⟩ | ⟨h1, h2⟩⟩ := k.line
  · exact h ⟨j, hj, by omega⟩
  · exact h ⟨j, hj, by omega⟩
theorem OddR.ring {A : List Nat} {L V k : Nat} {l : List Nat} (hpt : ∀ e, e < 2 * L → A.getD e 0 < V) (h : OddR A (2 * L) V k l) : l.length = k ∧ ∃ x B, l = x :: B ∧ Rg (adjP (fun e => A.getD e 0) (2 * L)) x B := by
  obtain ⟨h1, h2, h3, h4, h5⟩ := h
  refine ⟨h4.1, ?_⟩
  match l, h4 with
  | [], h4 => have := h4.1; simp at this; omega
  | x :: B, h4 => exact ⟨x, B, rfl, (fit_ring (adjP.lt hpt) (by have := h4.1; simpa using this)).1 h4.2.1⟩
theorem OddR.least {A : List Nat} {L V k x : Nat} {l B : List Nat} (hpt : ∀ e, e < 2 * L → A.getD e 0 < V) (h : OddR A (2 * L) V k l) (hr : Rg (adjP (fun e => A.getD e 0) (2 * L)) x B) (ho : B.length % 2 = 0) (hno : ¬ loopy (fun e => A.getD e 0) L) : k ≤ B.length + 1 := by
  apply Decidable.byContradiction
  intro hk
  have h3 : 3 ≤ B.length + 1 := by
    rcases B with _ | ⟨b, B⟩
    · exact absurd hr.1 (no_loop hno)
    · simp only [List.length_cons] at ho ⊢; omega
  exact h.2.2.2.2 (B.length + 1) (by omega) h3 (by omega) (x :: B) rfl ((fit_ring (adjP.lt hpt) rfl).2 hr)
end Go.Proofs.YtmgmkglmjmaipaaDoor.Ct

/- The reference's at, other, joined, looped. -/
namespace Go.Proofs.YtmgmkglmjmaipaaDoor.Ct
open Go Go.Abs Go.Mth
set_option linter.unusedVariables false
set_option linter.unusedSimpArgs false
theorem cast_mem {l : List Nat} {e : Nat} : (e : Int) ∈ castL l ↔ e ∈ l := by
  unfold castL
  rw [List.mem_map]
  constructor
  · rintro ⟨x, hx, h⟩
    have : x = e := by omega
    rw [← this]; exact hx
  · exact fun h => ⟨e, h, rfl⟩
theorem OKM.at {Q : List (List Nat)} (hQ : OKM Q) {e : Nat} (he : e < sizeL Q) : ∃ q, q < Q.length ∧ e ∈ Q.getD q [] := by
  have hm : e ∈ Q.flatten := nodup_all hQ.nd (fun y hy => by obtain ⟨l, hl, h2⟩ := List.mem_flatten.1 hy; exact hQ.lt l hl y h2) (size_flat Q) he
  obtain ⟨l, hl, hel⟩ := List.mem_flatten.1 hm
  obtain ⟨q, hq, rfl⟩ := mem_getD hl
  exact ⟨q, hq, hel⟩
theorem OKM.rowlt {Q : List (List Nat)} (hQ : OKM Q) {p k : Nat} (hp : p < Q.length) (hk : k < (Q.getD p []).length) : (Q.getD p []).getD k 0 < sizeL Q :=
  hQ.lt _ (getD_memL hp) _ (getD_mem hk)
attribute [local irreducible] gOK WS WC WR WD Ends FS YS OpV seqK blockK loopK midK retK rdK asgK rangeEnd sat Cell
section
variable {M : HL} {n0 : Nat} {H : Heap} {v w : Value}
theorem rother_fs (e : Nat) (he : e ≤ 100) : FS C 95 [.int .i64 (e : Int)] H (fun r H' => H' = H ∧ r = .int .i64 ((oth e : Nat) : Int)) := by
  refine FS.intro (pf := pf95) rfl rfl rfl ?_
  repeat' (first | refine zP ?_ | refine zA ?_ | (refine zM ?_; intro _ _) | refine zX ?_ | (refine zC ?_; intro _ _ _ _) | (refine zS ?_; intro _ _) | (apply Ws <;> intro hg))
  rw [show (e : Int) % 2 = ((e % 2 : Nat) : Int) by simp]
  refine WC.condP rfl (fun h => ?_) (fun h => ?_)
  · repeat' (first | refine zP ?_ | refine zA ?_ | (refine zM ?_; intro _ _) | refine zX ?_ | (refine zC ?_; intro _ _ _ _) | (refine zS ?_; intro _ _) | (apply Ws <;> intro hg))
    refine Ends.ret1 rfl ⟨rfl, ?_⟩
    unfold oth
    rw [if_pos (by omega)]
    simp
  · repeat' (first | refine zP ?_ | refine zA ?_ | (refine zM ?_; intro _ _) | refine zX ?_ | (refine zC ?_; intro _ _ _ _) | (refine zS ?_; intro _ _) | (apply Ws <;> intro hg))
    refine Ends.ret1 rfl ⟨rfl, ?_⟩
    unfold oth
    rw [if_neg (by omega), show (e : Int) - 1 = ((e - 1 : Nat) : Int) by omega]
theorem rat_fs (hH : hasH M n0 H) {Q : List (List Nat)} (hQ : OKM Q) (hR : RowsI M v (castP Q)) {pt : Nat → Nat} (hpt : PtOf Q pt) {e : Nat} (he : e < sizeL Q) :
    FS C 80 [.agg [v].toArray, .int .i64 (e : Int)] H (fun r H' => ∃ n', n0 ≤ n' ∧ hasH M n' H' ∧ r = .int .i64 (pt e : Int)) := by
  obtain ⟨hsm1, hsm2⟩ := hQ.small
  have hR0 := hR
  obtain ⟨ws, hS, hwl, hrow⟩ := hR
  have hv := hS.one_
  refine FS.intro (pf := pf80) rfl rfl rfl ?_
  repeat' (first | refine zP ?_ | refine zA ?_ | (refine zM ?_; intro _ _) | refine zX ?_ | (refine zC ?_; intro _ _ _ _) | (refine zS ?_; intro _ _) | (apply Ws <;> intro hg))
  rename_i H1 hH1
  rw [hwl]
  refine WR.call (by first | exact gN | exact gS rfl) rfl rfl (rpoint_fs hH1 hR0.cons hsm1 hsm2 (Nat.le_refl _) _) ?_
  rintro _ H2 ⟨n2, hn2, hH2, ⟨i, hi, hm, _, rfl⟩ | ⟨hn, rfl⟩⟩
  · repeat' (first | refine zP ?_ | refine zA ?_ | (refine zM ?_; intro _ _) | refine zX ?_ | (refine zC ?_; intro _ _ _ _) | (refine zS ?_; intro _ _) | (apply Ws <;> intro hg))
    rw [castP_len] at hi
    rw [castP_get, cast_mem] at hm
    exact Ends.ret1 rfl ⟨n2, by omega, hH2.tail, by rw [hpt i hi e hm]⟩
  · exfalso
    obtain ⟨q, hq, hm⟩ := hQ.at he
    exact hn q (by rw [castP_len]; exact hq) (by rw [castP_get, cast_mem]; exact hm)
set_option maxHeartbeats 1000000 in
theorem rjoined_fs (hH : hasH M n0 H) {Q : List (List Nat)} (hQ : OKM Q) (hR : RowsI M v (castP Q)) {A : List Nat} (hpt : PtOf Q (fun e => A.getD e 0)) {p q : Nat} (hp : p < Q.length) :
    FS C 99 [.agg [v].toArray, .int .i64 (p : Int), .int .i64 (q : Int)] H (fun r H' => ∃ n', n0 ≤ n' ∧ hasH M n' H' ∧ r = .bool (adjB A (sizeL Q) p q)) := by
  obtain ⟨hsm1, hsm2⟩ := hQ.small
  have hle := hQ.le
  have hev := hQ.even
  have hR0 := hR
  obtain ⟨ws, hS, hRw⟩ := rowsI_nat hR
  have hwl := hRw.1
  have hv := hS.one_
  have hSp := hRw.2 p hp
  have hrl : (Q.getD p []).length ≤ 16 := by have := hQ.row hp; exact Nat.le_trans (nodup_le (sizeL Q) _ this.1 fun y hy => by obtain ⟨t, ht, rfl⟩ := List.mem_iff_getElem.1 hy; have := this.2.2 t ht; rwa [getD_eq ht] at this) hle
  have hvs : same1 v v = true := hS.same
  have hvs2 : sameL [v] [v] = true := by simp only [sameL, hvs, Bool.and_self]
  refine FS.intro (pf := pf99) rfl rfl rfl ?_
  repeat' (first | refine zP ?_ | refine zA ?_ | (refine zM ?_; intro _ _) | refine zX ?_ | (refine zC ?_; intro _ _ _ _) | (refine zS ?_; intro _ _) | (apply Ws <;> intro hg))
  rename_i H1 hH1
  have hrd : ∀ {H : Heap} {n : Nat}, hasH ((n0, .row 27 0 0 [v]) :: M) n H → H.readN ⟨n0, 0, some 0⟩ 1 = some [v] ∧ H.read ⟨n0, 0, some 0⟩ = some v := fun h => ⟨readAll h (.head _) rfl, h.read (.head _) (.row _ _ _ _) (Nat.le_refl _) rfl⟩
  refine WC.loopX [(1, _), (2, _), (3, _)] (fun a : Nat × Nat => [(7, .int .i64 (a.1 : Int))]) [] (fun a H' => a.1 ≤ (Q.getD p []).length ∧ n0 ≤ a.2 ∧ (∀ j, j < a.1 → A.getD (oth ((Q.getD p []).getD j 0)) 0 ≠ q) ∧ hasH ((n0, .row 27 0 0 [v]) :: M) a.2 H') (fun a => (Q.getD p []).length - a.1) (0, n0 + 1) (by repeat' (first | exact .nil | refine .cons rfl ?_)) rfl
    ⟨Nat.zero_le _, by simp only; omega, fun j h => absurd h (Nat.not_lt_zero _), hH1⟩ ?_
  clear hH hH1
  rintro ⟨k, n2⟩ H2 ⟨hk, hn2, hno, hH2⟩
  simp only at hk hn2 hno hH2
  dsimp only [List.cons_append, List.nil_append]
  repeat' (first | refine zP ?_ | refine zA ?_ | (refine zM ?_; intro _ _) | refine zX ?_ | (refine zC ?_; intro _ _ _ _) | (refine zS ?_; intro _ _) | (apply Ws <;> intro hg))
  refine WC.condP rfl (fun hlt => ?_) (fun hlt => ?_)
  · have hk' : k < (Q.getD p []).length := by omega
    have hel := hQ.rowlt hp hk'
    have hol := oth_lt (L := sizeL Q / 2) (e := (Q.getD p []).getD k 0) (by omega)
    repeat' (first | refine zP ?_ | refine zA ?_ | (refine zM ?_; intro _ _) | refine zX ?_ | (refine zC ?_; intro _ _ _ _) | (refine zS ?_; intro _ _) | (apply Ws <;> intro hg))
    refine WC.regionD ?_
    repeat' (first | refine zD ?_ | (refine zE ?_; intro _ _ _ _))
    refine WD.call (by first | exact gN | exact gS rfl) rfl rfl (rother_fs _ (by omega)) ?_
    rintro _ H3 ⟨rfl, rfl⟩
    refine ⟨stands_cons (.inl rfl) (stands_cons (.inl rfl) (stands_cons (.inl rfl) (stands_cons (.inr (holdsN' (hrd hH2).1 hvs2)) stands_nil'))), ?_⟩
    refine WD.toWR rfl ?_
    refine WR.call (by first | exact gN | exact gS rfl) rfl rfl (rat_fs hH2 hQ hR0.cons hpt (by omega)) ?_
    rintro _ H4 ⟨n4, hn4, hH4, rfl⟩
    clear hH2
    repeat' (first | refine zP ?_ | refine zA ?_ | (refine zM ?_; intro _ _) | refine zX ?_ | (refine zC ?_; intro _ _ _ _) | (refine zS ?_; intro _ _) | (apply Ws <;> intro hg))
    refine WC.condP rfl (fun heq => ?_) (fun heq => ?_)
    · repeat' (first | refine zP ?_ | refine zA ?_ | (refine zM ?_; intro _ _) | refine zX ?_ | (refine zC ?_; intro _ _ _ _) | (refine zS ?_; intro _ _) | (apply Ws <;> intro hg))
      refine Ends.ret1 rfl ⟨n4, by omega, hH4.tail, ?_⟩
      have : adjB A (sizeL Q) p q = true := adjB_iff.2 ⟨(Q.getD p []).getD k 0, hel, hpt p hp _ (getD_mem hk'), by show A.getD (oth ((Q.getD p []).getD k 0)) 0 = q; omega⟩
      rw [this]
    · repeat' (first | refine zP ?_ | refine zA ?_ | (refine zM ?_; intro _ _) | refine zX ?_ | (refine zC ?_; intro _ _ _ _) | (refine zS ?_; intro _ _) | (apply Ws <;> intro hg))
      refine Ends.loop (k + 1, n4) (by simp only; omega) (by repeat' (first | exact .nil | refine .cons rfl ?_)) rfl ⟨hk', by simp only; omega, fun j hj => ?_, hH4⟩
      by_cases e : j = k
      · subst e; exact fun h => heq (by omega)
      · exact hno j (by simp only at hj; omega)
  · have hkl : k = (Q.getD p []).length := by omega
    subst hkl
    repeat' (first | refine zP ?_ | refine zA ?_ | (refine zM ?_; intro _ _) | refine zX ?_ | (refine zC ?_; intro _ _ _ _) | (refine zS ?_; intro _ _) | (apply Ws <;> intro hg))
    refine Ends.ret1 rfl ⟨n2, by omega, hH2.tail, ?_⟩
    have : adjB A (sizeL Q) p q = false := by
      cases hb : adjB A (sizeL Q) p q with
      | false => rfl
      | true =>
        obtain ⟨e, h1, h2, h3⟩ := adjB_iff.1 hb
        obtain ⟨q', hq', hm⟩ := hQ.at h1
        have := hpt q' hq' e hm
        have : q' = p := this.symm.trans h2
        subst this
        obtain ⟨j, hj, he⟩ := List.mem_iff_getElem.1 hm
        exact absurd h3 (by rw [← he, ← getD_eq (a := 0) hj]; exact hno j hj)
    rw [this]
theorem rlooped_fs (hH : hasH M n0 H) {Q : List (List Nat)} (hQ : OKM Q) (hR : RowsI M v (castP Q)) {A : List Nat} (hpt : PtOf Q (fun e => A.getD e 0)) (hlt : ∀ e, e < sizeL Q → A.getD e 0 < Q.length) :
    FS C 83 [.agg [v].toArray] H (fun r H' => ∃ n' bb, n0 ≤ n' ∧ hasH M n' H' ∧ (bb = true ↔ loopy (fun e => A.getD e 0) (sizeL Q / 2)) ∧ r = .bool bb) := by
  have hpair := hQ.pair
  have hle := hQ.le
  have hlen := hQ.len
  have hlo : loopy (fun e => A.getD e 0) (sizeL Q / 2) ↔ ∃ p, p < Q.length ∧ adjP (fun e => A.getD e 0) (sizeL Q) p p := by
    constructor
    · rintro ⟨k, hk, h⟩
      exact ⟨A.getD (2 * k) 0, hlt _ (by omega), 2 * k, by omega, rfl, by rw [oth_even]; exact h.symm⟩
    · rintro ⟨p, hp, h⟩
      rw [hpair] at h
      exact Classical.not_not.1 fun hn => no_loop hn h
  have hR0 := hR
  obtain ⟨ws, hS, hwl, hrow⟩ := hR
  rw [castP_len] at hwl
  have hv := hS.one_
  refine FS.intro (pf := pf83) rfl rfl rfl ?_
  repeat' (first | refine zP ?_ | refine zA ?_ | (refine zM ?_; intro _ _) | refine zX ?_ | (refine zC ?_; intro _ _ _ _) | (refine zS ?_; intro _ _) | (apply Ws <;> intro hg))
  rename_i H1 hH1
  refine WC.loopX [(1, _)] (fun a : Nat × Nat => [(3, .int .i64 (a.1 : Int))]) [] (fun a H' => a.1 ≤ Q.length ∧ n0 ≤ a.2 ∧ (∀ j, j < a.1 → ¬ adjP (fun e => A.getD e 0) (sizeL Q) j j) ∧ hasH ((n0, .row 27 0 0 [v]) :: M) a.2 H') (fun a => Q.length - a.1) (0, n0 + 1) (by repeat' (first | exact .nil | refine .cons rfl ?_)) rfl
    ⟨Nat.zero_le _, by simp only; omega, fun j h => absurd h (Nat.not_lt_zero _), hH1⟩ ?_
  clear hH hH1
  rintro ⟨k, n2⟩ H2 ⟨hk, hn2, hno, hH2⟩
  simp only at hk hn2 hno hH2
  dsimp only [List.cons_append, List.nil_append]
  repeat' (first | refine zP ?_ | refine zA ?_ | (refine zM ?_; intro _ _) | refine zX ?_ | (refine zC ?_; intro _ _ _ _) | (refine zS ?_; intro _ _) | (apply Ws <;> intro hg))
  refine WC.condP rfl (fun hlt2 => ?_) (fun hlt2 => ?_)
  · have hk' : k < Q.length := by omega
    repeat' (first | refine zP ?_ | refine zA ?_ | (refine zM ?_; intro _ _) | refine zX ?_ | (refine zC ?_; intro _ _ _ _) | (refine zS ?_; intro _ _) | (apply Ws <;> intro hg))
    refine WR.call (by first | exact gN | exact gS rfl) rfl rfl (rjoined_fs hH2 hQ hR0.cons hpt hk') ?_
    rintro _ H4 ⟨n4, hn4, hH4, rfl⟩
    clear hH2
    cases hb : adjB A (sizeL Q) k k with
    | true =>
      repeat' (first | refine zP ?_ | refine zA ?_ | (refine zM ?_; intro _ _) | refine zX ?_ | (refine zC ?_; intro _ _ _ _) | (refine zS ?_; intro _ _) | (apply Ws <;> intro hg))
      exact Ends.ret1 rfl ⟨n4, true, by omega, hH4.tail, ⟨fun _ => hlo.2 ⟨k, hk', adjB_iff.1 hb⟩, fun _ => rfl⟩, rfl⟩
    | false =>
      repeat' (first | refine zP ?_ | refine zA ?_ | (refine zM ?_; intro _ _) | refine zX ?_ | (refine zC ?_; intro _ _ _ _) | (refine zS ?_; intro _ _) | (apply Ws <;> intro hg))
      refine Ends.loop (k + 1, n4) (by simp only; omega) (by repeat' (first | exact .nil | refine .cons rfl ?_)) rfl ⟨hk', by simp only; omega, fun j hj => ?_, hH4⟩
      by_cases e : j = k
      · subst e
        intro h
        rw [adjB_iff.2 h] at hb; cases hb
      · exact hno j (by simp only at hj; omega)
  · have hkl : k = Q.length := by omega
    subst hkl
    repeat' (first | refine zP ?_ | refine zA ?_ | (refine zM ?_; intro _ _) | refine zX ?_ | (refine zC ?_; intro _ _ _ _) | (refine zS ?_; intro _ _) | (apply Ws <;> intro hg))
    refine Ends.ret1 rfl ⟨n2, false, by omega, hH2.tail, ⟨fun h => (by cases h), fun h => ?_⟩, rfl⟩
    obtain ⟨p, hp, h⟩ := hlo.1 h
    exact absurd h (hno p hp)
end
end Go.Proofs.YtmgmkglmjmaipaaDoor.Ct

/- The reference's ring: mathematics, a copy of a list. -/
namespace Go.Abs
set_option linter.unusedSectionVars false
open Go
section
variable [Globs] {C : CW} {nt : Nat} {L : Env} {D : List Nat} {H H' : Heap} {K : St → Prop} {M M' : HL} {n i d : Nat} {gd : Option (Tmp × Bool)} {lo : List Nat} {l : List POp} {rs : List Rd}
theorem WD.cloneL {e j d2 : Nat} {lo2 : List Nat} {x : Operand} {v : Value} {xs : List Nat} (hd : Nat.blt d nt = true) (hd2 : Nat.blt d2 nt = true) (hy : ev ((d, .slice (some ⟨n, 0, some 0⟩) 0 (2 * 0 + 1)) :: L) x = some v) (hH : hasH M n H)
    (hv : (xs = [] ∧ v = .slice none 0 0) ∨ (xs ≠ [] ∧ Sl M 1 v (nodes xs))) (hl : xs.length ≤ 1000)
    (hst : ∀ {X : HL} {n' : Nat} {H' : Heap}, (∀ q ∈ M, q ∈ X) → hasH X n' H' → stands H' lo rs = true ∧ stands H' lo2 rs = true)
    (kk : ∀ v' Mx n' H', Own e 1 v' (nodes xs) Mx → hasH (Mx ++ M) n' H' → n ≤ n' → WD C nt l rs ((d2, v') :: (d, .slice (some ⟨n, 0, some 0⟩) 0 (2 * 0 + 1)) :: L) D H' K) :
    WD C nt (⟨i, some d, .bldS e 1 [] 0 [], none, lo⟩ :: ⟨j, some d2, .append e 1 (.tmp d) x, none, lo2⟩ :: l) rs L D H K := by
  refine WD.bldS True.intro hd hH (vs := []) rfl (cs := []) (by rfl) rfl (fun H1 h1 => (hst (fun q hq => .tail _ hq) h1).1) fun H1 hH1 => ?_
  have hs0 : ev ((d, Value.slice (some ⟨n, 0, some 0⟩) 0 (2 * 0 + 1)) :: L) (.tmp d) = some (.slice (some ⟨n, 0, some 0⟩) 0 (2 * 0 + 1)) := by simp [ev, Env.get]
  rcases hv with ⟨rfl, rfl⟩ | ⟨hne, hS⟩
  · obtain ⟨H2, h5, h6⟩ := hH1.writeN (o := 0) (l := []) (Upd.self (.head _)) rfl (Nat.le_refl _) (by simp) (by simp [splice])
    refine WD.op True.intro hd2 (H' := H2) (v := .slice (some ⟨n, 0, some 0⟩) 0 1) (fun t ht => ?_) rfl (hst (fun q hq => .tail _ hq) h6).2 ?_
    · have hcap : capOf (some ⟨n, 0, some 0⟩) 1 = .known 0 := rfl
      have hb : Nat.ble (0 + 0) 0 = true := rfl
      have hp : Addr.plus ⟨n, 0, some 0⟩ (0 * 1) = ⟨n, 0, some 0⟩ := rfl
      simp only [opA, ev_ok ht hs0, ev_ok ht hy, appendA, srcLen, srcCells, appWith, hcap, hb, cond_true, appIn, hp, h5, Nat.add_zero]
    · exact kk _ [(n, .inp e 0 0 [])] (n + 1) H2 (.full (len := 0) rfl rfl) (h6.asInp .here) (by omega)
  · have hne2 : nodes xs ≠ [] := fun h => hne (by simpa [nodes] using h)
    obtain ⟨hks, hsr⟩ := (hS.cons (p := (n, Ch.row e 0 0 []))).src hH1 hne2
    have hall : srcCells H1 1 (nodes xs).length v = some (nodes xs) := by have := hsr _ (Nat.le_refl _); rwa [List.take_length] at this
    refine WD.append True.intro hd2 hs0 hy (cs := []) (Own.full (len := 0) rfl rfl) (hH1.asInp .here) (List.Sublist.refl _) (M0 := M) (List.Perm.refl _) hks hall (by simp) (by have := List.length_pos_iff.2 hne2; omega) (by rw [List.all_eq_true]; intro q hq; obtain ⟨z, _, rfl⟩ := List.mem_map.1 hq; rfl) (Nat.le_refl _) (by omega) (by simp [nodes]; omega) fun v' Mx' n' H' q1 q2 q3 => ?_
    refine ⟨(hst (fun q hq => List.mem_append_right _ hq) q2).2, ?_⟩
    rw [List.nil_append] at q1
    exact kk v' Mx' n' H' q1.own q2 (by omega)
end
end Go.Abs
namespace Go.Proofs.YtmgmkglmjmaipaaDoor.Ct
open Go Go.Abs Go.Mth
set_option linter.unusedVariables false
set_option linter.unusedSimpArgs false
def okR (A : List Nat) (N V : Nat) (l : List Nat) : Prop := ∀ j, j < l.length → l.getD j 0 < V ∧ goB A N (l.take (j + 1)) = true
def ExtR (A : List Nat) (N V n : Nat) (l l' : List Nat) : Prop := l'.length = n ∧ l'.take l.length = l ∧ okP (fitO A N n) V l'
def FirstX (A : List Nat) (N V n : Nat) (l l' : List Nat) : Prop := ExtR A N V n l l' ∧ ∀ l'', ExtR A N V n l l'' → ¬ lexP l'' l'
end Go.Proofs.YtmgmkglmjmaipaaDoor.Ct

/- The reference's ring. -/
namespace Go.Proofs.YtmgmkglmjmaipaaDoor.Ct
open Go Go.Abs Go.Mth
set_option linter.unusedVariables false
set_option linter.unusedSimpArgs false
theorem nodes_cast (l : List Nat) : nodes l = ints (castL l) := by simp [nodes, ints, castL]
attribute [local irreducible] gOK WS WC WR WD Ends FS YS OpV seqK blockK loopK midK retK rdK asgK rangeEnd sat Cell
section
end
end Go.Proofs.YtmgmkglmjmaipaaDoor.Ct

/- The reference's Odd. -/
namespace Go.Proofs.YtmgmkglmjmaipaaDoor.Ct
open Go Go.Abs Go.Mth
set_option linter.unusedVariables false
set_option linter.unusedSimpArgs false
attribute [local irreducible] gOK WS WC WR WD Ends FS YS OpV seqK blockK loopK midK retK rdK asgK rangeEnd sat Cell
section
variable {M : HL} {n0 : Nat} {H : Heap} {v w : Value}
theorem lexP_total : ∀ {l l' : List Nat}, l.length = l'.length → l ≠ l' → lexP l l' ∨ lexP l' l
  | [], [], _, h => absurd rfl h
  | [], _ :: _, h, _ => by simp at h
  | _ :: _, [], h, _ => by simp at h
  | a :: l, b :: m, h, hne => by
    rcases Nat.lt_trichotomy a b with e | e | e
    · exact .inl ⟨0, by simp, rfl, e⟩
    · subst e
      have hl : l.length = m.length := by simpa using h
      rcases lexP_total hl (fun e => hne (by rw [e])) with ⟨p, h1, h2, h3⟩ | ⟨p, h1, h2, h3⟩
      · exact .inl ⟨p + 1, by simpa using h1, by simp [h2], h3⟩
      · exact .inr ⟨p + 1, by simpa using h1, by simp [h2], h3⟩
    · exact .inr ⟨0, by simp, rfl, e⟩
theorem FirstR.unique {fits : List Nat → Bool} {V n : Nat} {l l' : List Nat} (h : FirstR fits V n l) (k : FirstR fits V n l') : l = l' := by
  apply Decidable.byContradiction
  intro hne
  rcases lexP_total (h.1.trans k.1.symm) hne with e | e
  · exact k.2.2 l h.1 h.2.1 e
  · exact h.2.2 l' k.1 k.2.1 e
theorem OddR.unique {A : List Nat} {N V k k' : Nat} {l l' : List Nat} (h : OddR A N V k l) (g : OddR A N V k' l') : l = l' := by
  obtain ⟨a1, a2, a3, a4, a5⟩ := h
  obtain ⟨b1, b2, b3, b4, b5⟩ := g
  have : k = k' := by
    rcases Nat.lt_trichotomy k k' with e | e | e
    · exact absurd a4.2.1 (b5 k a1 a2 e l a4.1)
    · exact e
    · exact absurd b4.2.1 (a5 k' b1 b2 e l' b4.1)
  subst this
  exact a4.unique b4
theorem OddR.not {A : List Nat} {N V k : Nat} {l : List Nat} (h : OddR A N V k l) : ¬ noOdd A N V (V + 1) := fun hn => hn k h.1 h.2.1 (by have := h.2.2.1; omega) l h.2.2.2.1.1 h.2.2.2.1.2.1
end
end Go.Proofs.YtmgmkglmjmaipaaDoor.Ct

/- The reference's coloured. -/
namespace Go.Proofs.YtmgmkglmjmaipaaDoor.Ct
open Go Go.Abs Go.Mth
set_option linter.unusedVariables false
set_option linter.unusedSimpArgs false
def ExtG (fits : List Nat → Bool) (f n : Nat) (l l' : List Nat) : Prop := l'.length = n ∧ l'.take l.length = l ∧ okP fits f l'
def FirstG (fits : List Nat → Bool) (f n : Nat) (l l' : List Nat) : Prop := ExtG fits f n l l' ∧ ∀ l'', ExtG fits f n l l'' → ¬ lexP l'' l'
theorem extG_full {fits : List Nat → Bool} {f n : Nat} {l l' : List Nat} (hl : l.length = n) (h : ExtG fits f n l l') : l' = l := by
  obtain ⟨h1, h2, _⟩ := h
  rwa [List.take_of_length_le (by omega)] at h2
theorem extG_next {fits : List Nat → Bool} {f n : Nat} {l l' : List Nat} (hl : l.length < n) (h : ExtG fits f n l l') : l'.getD l.length 0 < f ∧ fits (l ++ [l'.getD l.length 0]) = true ∧ ExtG fits f n (l ++ [l'.getD l.length 0]) l' := by
  obtain ⟨h1, h2, h3⟩ := h
  have h4 := h3 l.length (by omega)
  have e1 : l'.take (l.length + 1) = l ++ [l'.getD l.length 0] := by
    rw [List.take_succ_eq_append_getElem (by omega), h2, getD_eq (by omega)]
  rw [e1] at h4
  exact ⟨h4.1, h4.2, h1, by rw [List.length_append, List.length_singleton]; exact e1, h3⟩
theorem extG_back {fits : List Nat → Bool} {f n p : Nat} {l l' : List Nat} (h : ExtG fits f n (l ++ [p]) l') : ExtG fits f n l l' ∧ l'.getD l.length 0 = p := by
  obtain ⟨h1, h2, h3⟩ := h
  rw [List.length_append, List.length_singleton] at h2
  have hl : l.length < l'.length := by
    have := congrArg List.length h2
    rw [List.length_take, List.length_append, List.length_singleton] at this
    omega
  rw [List.take_succ_eq_append_getElem hl] at h2
  obtain ⟨h4, h5⟩ := List.append_inj' h2 rfl
  exact ⟨⟨h1, h4, h3⟩, by rw [getD_eq hl]; exact (List.cons.inj h5).1⟩
theorem firstG_step {fits : List Nat → Bool} {f n p : Nat} {l l' : List Nat} (hl : l.length < n) (hno : ∀ p', p' < p → ∀ l'', ¬ ExtG fits f n (l ++ [p']) l'') (h : FirstG fits f n (l ++ [p]) l') : FirstG fits f n l l' := by
  obtain ⟨h1, h2⟩ := extG_back h.1
  refine ⟨h1, fun l'' h3 hlex => ?_⟩
  obtain ⟨g1, g2, g3⟩ := extG_next hl h3
  obtain ⟨q, q1, q2, q3⟩ := hlex
  have t1 := h1.2.1
  have t2 := h3.2.1
  have key : ∀ j, j < q → l''.getD j 0 = l'.getD j 0 := fun j hj => by
    rw [← getD_take (l := l'') hj, ← getD_take (l := l') hj, q2]
  have pre : ∀ j, j < l.length → l''.getD j 0 = l'.getD j 0 := fun j hj => by
    rw [← getD_take (l := l'') hj, ← getD_take (l := l') hj, t1, t2]
  rcases Nat.lt_trichotomy (l''.getD l.length 0) p with hp | hp | hp
  · exact hno _ hp l'' g3
  · rw [hp] at g3
    exact h.2 l'' g3 ⟨q, q1, q2, q3⟩
  · rcases Nat.lt_trichotomy q l.length with e | e | e
    · have := pre q e; omega
    · subst e; omega
    · have := key l.length e; omega
/-- The last point may have its colour. -/
def freeB (A : List Nat) (N : Nat) (l : List Nat) (c q : Nat) : Bool := (List.range q).all fun j => !(decide (l.getD j 0 = c) && adjB A N l.length j)
theorem freeB_succ (A : List Nat) (N : Nat) (l : List Nat) (c q : Nat) : freeB A N l c (q + 1) = (freeB A N l c q && !(decide (l.getD q 0 = c) && adjB A N l.length q)) := by simp [freeB, List.range_succ]
def fitC (A : List Nat) (N : Nat) (l : List Nat) : Bool := freeB A N (l.take (l.length - 1)) (l.getD (l.length - 1) 0) (l.length - 1)
theorem fitC_snoc {A : List Nat} {N c : Nat} {l : List Nat} : fitC A N (l ++ [c]) = freeB A N l c l.length := by
  unfold fitC
  rw [List.length_append, List.length_singleton, show l.length + 1 - 1 = l.length by omega, snoc_get, List.take_left]
attribute [local irreducible] gOK WS WC WR WD Ends FS YS OpV seqK blockK loopK midK retK rdK asgK rangeEnd sat Cell
section
set_option maxHeartbeats 2000000 in
theorem coloured_fs {Q : List (List Nat)} (hQ : OKM Q) {A : List Nat} (hpt : PtOf Q (fun e => A.getD e 0)) {f : Nat} (hf : f ≤ 100) : ∀ (r : Nat) {l : List Nat}, l.length + r = Q.length → okP (fitC A (sizeL Q)) f l →
    ∀ {M : HL} {n0 : Nat} {H : Heap} {v s : Value} (hH : hasH M n0 H) (hR : RowsI M v (castP Q)) (hs : (l = [] ∧ s = .slice none 0 0) ∨ (l ≠ [] ∧ Sl M 1 s (nodes l))),
    FS C 100 [.agg [v].toArray, s, .int .i64 (f : Int)] H (fun e H' => ∃ n', n0 ≤ n' ∧ ((∃ l' u M2, FirstG (fitC A (sizeL Q)) f Q.length l l' ∧ hasH (M2 ++ M) n' H' ∧ Sl (M2 ++ M) 1 u (nodes l') ∧ e = .tuple #[u, .bool true]) ∨
      ((∀ l', ¬ ExtG (fitC A (sizeL Q)) f Q.length l l') ∧ hasH M n' H' ∧ ∃ u, one u = true ∧ e = .tuple #[u, .bool false]))) := by
  intro r
  induction r with
  | zero =>
    intro l hl hok M n0 H v s hH hR hs
    have hv := hR.one_
    have hS : Sl M 1 s (nodes l) := by
      rcases hs with ⟨rfl, rfl⟩ | ⟨_, h⟩
      · exact .nil 0
      · exact h
    have hs1 := hS.one_
    obtain ⟨ws, hSm, hRw⟩ := rowsI_nat hR
    have hwl := hRw.1
    refine FS.intro (pf := pf100) rfl rfl rfl ?_
    repeat' (first | refine zP ?_ | refine zA ?_ | (refine zM ?_; intro _ _) | refine zX ?_ | (refine zC ?_; intro _ _ _ _) | (refine zS ?_; intro _ _) | (apply Ws <;> intro hg))
    rename_i H1 hH1
    refine WC.condP rfl (fun hfu => ?_) (fun hfu => ?_)
    · repeat' (first | refine zP ?_ | refine zA ?_ | (refine zM ?_; intro _ _) | refine zX ?_ | (refine zC ?_; intro _ _ _ _) | (refine zS ?_; intro _ _) | (apply Ws <;> intro hg))
      exact Ends.ret2 rfl rfl ⟨n0 + 1, by omega, .inl ⟨l, s, [], ⟨⟨by omega, List.take_length, hok⟩, (fun l'' h h2 => by
        rw [extG_full (by omega) h] at h2
        obtain ⟨q, _, _, h3⟩ := h2
        exact absurd h3 (Nat.lt_irrefl _))⟩, hH1.tail, hS, rfl⟩⟩
    · exact absurd (by omega) hfu
  | succ r ih =>
    intro l hl hok M n0 H v s hH hR hs
    have hv := hR.one_
    have hS : Sl M 1 s (nodes l) := by
      rcases hs with ⟨rfl, rfl⟩ | ⟨_, h⟩
      · exact .nil 0
      · exact h
    have hs1 := hS.one_
    have hle := hQ.le
    have hlen := hQ.len
    obtain ⟨ws, hSm, hRw⟩ := rowsI_nat hR
    have hwl := hRw.1
    refine FS.intro (pf := pf100) rfl rfl rfl ?_
    repeat' (first | refine zP ?_ | refine zA ?_ | (refine zM ?_; intro _ _) | refine zX ?_ | (refine zC ?_; intro _ _ _ _) | (refine zS ?_; intro _ _) | (apply Ws <;> intro hg))
    rename_i H1 hH1
    refine WC.condP rfl (fun hfu => ?_) (fun hfu => ?_)
    · exact absurd hfu (by omega)
    repeat' (first | refine zP ?_ | refine zA ?_ | (refine zM ?_; intro _ _) | refine zX ?_ | (refine zC ?_; intro _ _ _ _) | (refine zS ?_; intro _ _) | (apply Ws <;> intro hg))
    have hvs : same1 v v = true := hSm.same
    have hvs2 : sameL [v] [v] = true := by simp only [sameL, hvs, Bool.and_self]
    have hrd : ∀ {X : HL} {H : Heap} {n : Nat}, (n0, Ch.row 27 0 0 [v]) ∈ X → hasH X n H → H.readN ⟨n0, 0, some 0⟩ 1 = some [v] := fun hm h => readAll h hm rfl
    refine WC.loopX [(1, s), (2, .int .i64 (f : Int)), (3, .pointer (some ⟨n0, 0, some 0⟩)), (8, .int .i64 (l.length : Int))] (fun a : Nat × Nat => [(9, .int .i64 (a.1 : Int))]) [] (fun a H' => a.1 ≤ f ∧ n0 ≤ a.2 ∧ (∀ p, p < a.1 → ∀ l', ¬ ExtG (fitC A (sizeL Q)) f Q.length (l ++ [p]) l') ∧ hasH ((n0, .row 27 0 0 [v]) :: M) a.2 H') (fun a => f - a.1) (0, n0 + 1) (by repeat' (first | exact .nil | refine .cons rfl ?_)) rfl
      ⟨Nat.zero_le _, by simp only; omega, fun j h => absurd h (Nat.not_lt_zero _), hH1⟩ ?_
    clear hH hH1
    rintro ⟨p, n2⟩ H2 ⟨hp, hn2, hno, hH2⟩
    simp only at hp hn2 hno hH2
    dsimp only [List.cons_append, List.nil_append]
    repeat' (first | refine zP ?_ | refine zA ?_ | (refine zM ?_; intro _ _) | refine zX ?_ | (refine zC ?_; intro _ _ _ _) | (refine zS ?_; intro _ _) | (apply Ws <;> intro hg))
    refine WC.condP rfl (fun hlt => ?_) (fun hlt => ?_)
    · have hp' : p < f := by omega
      have hnx : fitC A (sizeL Q) (l ++ [p]) = false → ∀ p2, p2 < p + 1 → ∀ l', ¬ ExtG (fitC A (sizeL Q)) f Q.length (l ++ [p2]) l' := fun hg p2 hp2 l' h => by
        by_cases e : p2 = p
        · subst e
          obtain ⟨h1, h2⟩ := extG_back h
          obtain ⟨_, h3, _⟩ := extG_next (by omega) h1
          rw [h2, hg] at h3; cases h3
        · exact hno p2 (by omega) l' h
      repeat' (first | refine zP ?_ | refine zA ?_ | (refine zM ?_; intro _ _) | refine zX ?_ | (refine zC ?_; intro _ _ _ _) | (refine zS ?_; intro _ _) | (apply Ws <;> intro hg))
      refine WC.loopX [(1, _), (2, _), (3, _), (8, _), (9, _)] (fun a : Nat × Nat => [(11, .int .i64 (a.1 : Int)), (10, .bool (freeB A (sizeL Q) l p a.1))]) [] (fun a H' => a.1 ≤ l.length ∧ n0 ≤ a.2 ∧ hasH ((n0, .row 27 0 0 [v]) :: M) a.2 H') (fun a => l.length - a.1) (0, n2) (by repeat' (first | exact .nil | refine .cons rfl ?_)) rfl
        ⟨Nat.zero_le _, hn2, hH2⟩ ?_
      clear hH2 hn2
      rintro ⟨q, n3⟩ H3 ⟨hq, hn3, hH3⟩
      simp only at hq hn3 hH3
      dsimp only [List.cons_append, List.nil_append]
      repeat' (first | refine zP ?_ | refine zA ?_ | (refine zM ?_; intro _ _) | refine zX ?_ | (refine zC ?_; intro _ _ _ _) | (refine zS ?_; intro _ _) | (apply Ws <;> intro hg))
      refine WC.condP rfl (fun hltq => ?_) (fun hltq => ?_)
      · have hq' : q < l.length := by omega
        have hsu := freeB_succ A (sizeL Q) l p q
        cases hfr : freeB A (sizeL Q) l p q with
        | false =>
          rw [hfr, Bool.false_and] at hsu
          repeat' (first | refine zP ?_ | refine zA ?_ | (refine zM ?_; intro _ _) | refine zX ?_ | (refine zC ?_; intro _ _ _ _) | (refine zS ?_; intro _ _) | (apply Ws <;> intro hg))
          exact Ends.loop (q + 1, n3) (by simp only; omega) (by simp only [hsu]; exact (by repeat' (first | exact .nil | refine .cons rfl ?_))) rfl ⟨by simp only; omega, hn3, hH3⟩
        | true =>
          rw [hfr, Bool.true_and] at hsu
          repeat' (first | refine zP ?_ | refine zA ?_ | (refine zM ?_; intro _ _) | refine zX ?_ | (refine zC ?_; intro _ _ _ _) | (refine zS ?_; intro _ _) | (apply Ws <;> intro hg))
          · have e1 : l.getD q 0 = p := by omega
            rw [decide_eq_true e1, Bool.true_and] at hsu
            refine WR.call (by first | exact gN | exact gS rfl) rfl rfl (rjoined_fs hH3 hQ hR.cons hpt (by omega)) ?_
            rintro _ H4 ⟨n4, hn4, hH4, rfl⟩
            repeat' (first | refine zP ?_ | refine zA ?_ | (refine zM ?_; intro _ _) | refine zX ?_ | (refine zC ?_; intro _ _ _ _) | (refine zS ?_; intro _ _) | (apply Ws <;> intro hg))
            exact Ends.loop (q + 1, n4) (by simp only; omega) (by simp only [hsu]; exact (by repeat' (first | exact .nil | refine .cons rfl ?_))) rfl ⟨by simp only; omega, by simp only; omega, hH4⟩
          · have e1 : ¬ l.getD q 0 = p := by omega
            rw [decide_eq_false e1, Bool.false_and] at hsu
            exact Ends.loop (q + 1, n3) (by simp only; omega) (by simp only [hsu]; exact (by repeat' (first | exact .nil | refine .cons rfl ?_))) rfl ⟨by simp only; omega, hn3, hH3⟩
      · have hql : q = l.length := by omega
        subst hql
        cases hfr : freeB A (sizeL Q) l p l.length with
        | false =>
          repeat' (first | refine zP ?_ | refine zA ?_ | (refine zM ?_; intro _ _) | refine zX ?_ | (refine zC ?_; intro _ _ _ _) | (refine zS ?_; intro _ _) | (apply Ws <;> intro hg))
          exact Ends.loop (p + 1, n3) (by simp only; omega) (by repeat' (first | exact .nil | refine .cons rfl ?_)) rfl ⟨hp', hn3, hnx (by rw [fitC_snoc, hfr]), hH3⟩
        | true =>
          repeat' (first | refine zP ?_ | refine zA ?_ | (refine zM ?_; intro _ _) | refine zX ?_ | (refine zC ?_; intro _ _ _ _) | (refine zS ?_; intro _ _) | (apply Ws <;> intro hg))
          refine WC.regionD ?_
          repeat' (first | refine zD ?_ | (refine zE ?_; intro _ _ _ _))
          refine WD.cloneL rfl rfl rfl hH3 (hs.imp id fun h => ⟨h.1, h.2.cons⟩) (by omega) (fun hX h => ⟨stands_cons (.inr (holdsN' (hrd (hX _ (.head _)) h) hvs2)) stands_nil', stands_cons (.inr (holdsN' (hrd (hX _ (.head _)) h) hvs2)) stands_nil'⟩) fun v1 Mx n6 H6 hO6 hH6 hn6 => ?_
          repeat' (first | refine zD ?_ | (refine zE ?_; intro _ _ _ _))
          refine WD.append1F [] Mx ((n0, Ch.row 27 0 0 [v]) :: M) rfl rfl rfl rfl hO6 hH6 (new := .int .i64 (p : Int)) (by rfl) rfl (by simp; omega) (fun H7 h => stands_cons (.inr (holdsN' (hrd (.tail _ (List.mem_append_right _ (.head _))) h) hvs2)) stands_nil') fun v2 My n7 H7 hO7 hH7 hn7 => ⟨stands_cons (.inr (holdsN' (hrd (List.mem_append_right _ (.head _)) hH7) hvs2)) stands_nil', ?_⟩
          replace hH7 : hasH (My ++ (n0, Ch.row 27 0 0 [v]) :: M) n7 H7 := hH7
          have hSl : Sl (My ++ (n0, Ch.row 27 0 0 [v]) :: M) 1 v2 (nodes (l ++ [p])) := by
            have := hO7.own.sl ((n0, Ch.row 27 0 0 [v]) :: M)
            rw [nodes, List.map_append]
            exact this
          refine WD.toWR rfl ?_
          repeat' (first | refine zP ?_ | refine zA ?_ | (refine zM ?_; intro _ _) | refine zX ?_ | (refine zC ?_; intro _ _ _ _) | (refine zS ?_; intro _ _) | (apply Ws <;> intro hg))
          refine WR.call (by first | exact gN | exact gS rfl) rfl rfl (ih (l := l ++ [p]) (by simp; omega) (okP_snoc hok hp' (by rw [fitC_snoc, hfr])) hH7 (hR.mono fun q hq => List.mem_append_right _ (.tail _ hq)) (.inr ⟨by simp, hSl⟩)) ?_
          rintro _ H8 ⟨n8, hn8, ⟨l', u, M2, hF, hH8, hSu, rfl⟩ | ⟨hF, hH8, u, hu, rfl⟩⟩
          · have hu := hSu.one_
            repeat' (first | refine zP ?_ | refine zA ?_ | (refine zM ?_; intro _ _) | refine zX ?_ | (refine zC ?_; intro _ _ _ _) | (refine zS ?_; intro _ _) | (apply Ws <;> intro hg))
            exact Ends.ret2 rfl rfl ⟨n8, by omega, .inl ⟨l', u, M2 ++ (My ++ [(n0, Ch.row 27 0 0 [v])]), firstG_step (by omega) hno hF, by simpa using hH8, by simpa using hSu, rfl⟩⟩
          · repeat' (first | refine zP ?_ | refine zA ?_ | (refine zM ?_; intro _ _) | refine zX ?_ | (refine zC ?_; intro _ _ _ _) | (refine zS ?_; intro _ _) | (apply Ws <;> intro hg))
            refine Ends.loop (p + 1, n8) (by simp only; omega) (by repeat' (first | exact .nil | refine .cons rfl ?_)) rfl ⟨hp', by simp only; omega, fun p2 hp2 l' h => ?_, hH8.sub (List.sublist_append_right _ _)⟩
            by_cases e : p2 = p
            · subst e; exact hF l' h
            · exact hno p2 (by simp only at hp2; omega) l' h
    · have hpe : p = f := by omega
      subst hpe
      repeat' (first | refine zP ?_ | refine zA ?_ | (refine zM ?_; intro _ _) | refine zX ?_ | (refine zC ?_; intro _ _ _ _) | (refine zS ?_; intro _ _) | (apply Ws <;> intro hg))
      refine Ends.ret2 rfl rfl ⟨n2, by omega, .inr ⟨fun l' h => ?_, hH2.tail, _, rfl, rfl⟩⟩
      obtain ⟨h1, _, h3⟩ := extG_next (by omega) h
      exact hno _ h1 l' h3
end
end Go.Proofs.YtmgmkglmjmaipaaDoor.Ct
