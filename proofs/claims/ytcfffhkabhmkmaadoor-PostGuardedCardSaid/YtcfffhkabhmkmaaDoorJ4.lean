/- Texts of the law, joined. -/
import Derived.Test.YtcfffhkabhmkmaaDoorJ3
/- As few posts guard as places can be apart; at most half of the places; a place more. -/
namespace Go.Proofs.YtcfffhkabhmkmaaDoor.Ps
open Go Go.Abs Go.Mth
set_option linter.unusedVariables false
set_option linter.unusedSimpArgs false
def selL (n : Nat) (f : Nat → Bool) : List Nat := (List.range n).filter f
theorem selL_asc (n : Nat) (f : Nat → Bool) : AscN n (selL n f) := ⟨List.pairwise_lt_range.sublist List.filter_sublist, fun x hx => List.mem_range.1 (List.mem_filter.1 hx).1⟩
theorem mem_selL {n : Nat} {f : Nat → Bool} {x : Nat} : x ∈ selL n f ↔ x < n ∧ f x = true := by simp [selL]
theorem asc_sel {n : Nat} {l : List Nat} (h : AscN n l) : l = selL n (fun x => decide (x ∈ l)) := by
  have hs := selL_asc n fun x => decide (x ∈ l)
  have key : ∀ {a b : List Nat}, a.Pairwise (· < ·) → b.Pairwise (· < ·) → (∀ x, x ∈ a ↔ x ∈ b) → a = b := by
    intro a
    induction a with
    | nil =>
      intro b _ _ hm
      cases b with
      | nil => rfl
      | cons y b => exact absurd ((hm y).2 (by simp)) (by simp)
    | cons x a ih =>
      intro b h1 h2 hm
      cases b with
      | nil => exact absurd ((hm x).1 (by simp)) (by simp)
      | cons y b =>
        obtain ⟨k1, k2⟩ := List.pairwise_cons.1 h1
        obtain ⟨k3, k4⟩ := List.pairwise_cons.1 h2
        have hxy : x = y := by
          rcases List.mem_cons.1 ((hm x).1 (by simp)) with e | e
          · exact e
          · rcases List.mem_cons.1 ((hm y).2 (by simp)) with e2 | e2
            · exact e2.symm
            · have := k3 x e; have := k1 y e2; omega
        subst hxy
        rw [ih k2 k4 fun z => ?_]
        constructor
        · intro hz
          rcases List.mem_cons.1 ((hm z).1 (by simp [hz])) with e | e
          · have := k1 z hz; omega
          · exact e
        · intro hz
          rcases List.mem_cons.1 ((hm z).2 (by simp [hz])) with e | e
          · have := k3 z hz; omega
          · exact e
  refine key h.asc hs.asc fun x => ?_
  rw [mem_selL, decide_eq_true_eq]
  exact ⟨fun hx => ⟨h.lt x hx, hx⟩, fun hx => hx.2⟩
def few (xs : List Int) : List Nat := (fewB xs).getD 0 []
def far (xs : List Int) : List Nat := (aptB xs).getD 0 []
theorem few_mem (xs : List Int) : few xs ∈ grdL xs := (bestF_all (fstB_mem (grdL_ne xs))).1
theorem far_mem (xs : List Int) : far xs ∈ aptL xs := (bestF_all (fstB_mem (aptL_ne xs))).1
theorem few_grd (xs : List Int) : AscN xs.length (few xs) ∧ grd xs (few xs) = true := ⟨grdL_asc _ (few_mem xs), (List.mem_filter.1 (few_mem xs)).2⟩
theorem far_apt (xs : List Int) : AscN xs.length (far xs) ∧ apt xs (far xs) = true := ⟨aptL_asc _ (far_mem xs), (List.mem_filter.1 (far_mem xs)).2⟩
theorem few_le {xs : List Int} {z : List Nat} (h : AscN xs.length z) (hg : grd xs z = true) : (few xs).length ≤ z.length := by
  have h1 := bestF_le (c := sumZ fun _ => 1) (zs := grdL xs) (z := z) (List.mem_filter.2 ⟨mem_allA.2 h, hg⟩)
  have h2 := fstB_cost (c := sumZ fun _ => 1) (grdL_ne xs)
  have e : fstB (sumZ fun _ => 1) (grdL xs) = few xs := rfl
  rw [← h2, e, sumZ_len, sumZ_len] at h1
  omega
theorem far_ge {xs : List Int} {z : List Nat} (h : AscN xs.length z) (hg : apt xs z = true) : z.length ≤ (far xs).length := by
  have h1 := bestF_le (c := sumZ fun _ => -1) (zs := aptL xs) (z := z) (List.mem_filter.2 ⟨mem_allA.2 h, hg⟩)
  have h2 := fstB_cost (c := sumZ fun _ => -1) (aptL_ne xs)
  have e : fstB (sumZ fun _ => -1) (aptL xs) = far xs := rfl
  rw [← h2, e, sumZ_neg, sumZ_neg] at h1
  omega
/-! No places that are apart are more than posts that guard. -/
theorem weak {xs : List Int} : ∀ {l m : List Nat}, l.Pairwise (fun a b => hm xs a &&& hm xs b = 0) → (∀ x ∈ l, ∃ p ∈ m, p < xs.length ∧ adj xs p x = true) → l.length ≤ m.length
  | [], m, _, _ => by simp
  | x :: l, m, h1, h2 => by
    obtain ⟨k1, k2⟩ := List.pairwise_cons.1 h1
    obtain ⟨p, hp, hpn, ha⟩ := h2 x (by simp)
    have h3 : ∀ y ∈ l, ∃ q ∈ m.erase p, q < xs.length ∧ adj xs q y = true := fun y hy => by
      obtain ⟨q, hq, hqn, hb⟩ := h2 y (by simp [hy])
      refine ⟨q, (List.mem_erase_of_ne ?_).2 hq, hqn, hb⟩
      rintro rfl
      refine and_zero.1 (k1 y hy) q ⟨hm_bit.2 ⟨hqn, ?_⟩, hm_bit.2 ⟨hqn, ?_⟩⟩
      · rw [adj_comm]; exact ha
      · rw [adj_comm]; exact hb
    have := weak k2 h3
    rw [List.length_erase_of_mem hp] at this
    have := List.length_pos_of_mem hp
    rw [List.length_cons]; omega
theorem apt_le_grd {xs : List Int} {l m : List Nat} (hl : AscN xs.length l) (hm' : AscN xs.length m) (h1 : apt xs l = true) (h2 : grd xs m = true) : l.length ≤ m.length :=
  weak (of_decide_eq_true h1) fun x hx => by
    obtain ⟨p, hp, ha⟩ := grd_iff.1 h2 x (hl.lt x hx)
    exact ⟨p, hp, hm'.lt p hp, ha⟩
end Go.Proofs.YtcfffhkabhmkmaaDoor.Ps

/- Sets by numbers are lists of places; the first of the best lists. -/
namespace Go.Proofs.YtcfffhkabhmkmaaDoor.Ps
open Go Go.Abs Go.Mth
set_option linter.unusedVariables false
set_option linter.unusedSimpArgs false
def ordN (l m : List Nat) : Prop := l.length < m.length ∨ (l.length = m.length ∧ lexN l m)
instance ordN_dec (l m : List Nat) : Decidable (ordN l m) := by unfold ordN; infer_instance
theorem ordN_irr (l : List Nat) : ¬ ordN l l := by
  rintro (h | ⟨_, h⟩)
  · exact Nat.lt_irrefl _ h
  · exact lexN_irr l h
theorem ordN_tri {l m : List Nat} (h : l ≠ m) : ordN l m ∨ ordN m l := by
  rcases Nat.lt_trichotomy l.length m.length with e | e | e
  · exact .inl (.inl e)
  · rcases lexN_tri h with k | k
    · exact .inl (.inr ⟨e, k⟩)
    · exact .inr (.inr ⟨e.symm, k⟩)
  · exact .inr (.inl e)
theorem lexN_trans : ∀ {a b c : List Nat}, lexN a b → lexN b c → lexN a c := fun {a b c} h1 h2 => lexN_C.1 (lex_trans _ _ _ (lexN_C.2 h1) (lexN_C.2 h2))
theorem ordN_trans {a b c : List Nat} (h1 : ordN a b) (h2 : ordN b c) : ordN a c := by
  rcases h1 with h1 | ⟨h1, h3⟩ <;> rcases h2 with h2 | ⟨h2, h4⟩
  · exact .inl (by omega)
  · exact .inl (by omega)
  · exact .inl (by omega)
  · exact .inr ⟨by omega, lexN_trans h3 h4⟩
def lonN (l m : List Nat) : Prop := m.length < l.length ∨ (l.length = m.length ∧ lexN l m)
instance lonN_dec (l m : List Nat) : Decidable (lonN l m) := by unfold lonN; infer_instance
theorem lonN_irr (l : List Nat) : ¬ lonN l l := by
  rintro (h | ⟨_, h⟩)
  · exact Nat.lt_irrefl _ h
  · exact lexN_irr l h
theorem lonN_tri {l m : List Nat} (h : l ≠ m) : lonN l m ∨ lonN m l := by
  rcases Nat.lt_trichotomy l.length m.length with e | e | e
  · exact .inr (.inl e)
  · rcases lexN_tri h with k | k
    · exact .inl (.inr ⟨e, k⟩)
    · exact .inr (.inr ⟨e.symm, k⟩)
  · exact .inl (.inl e)
theorem lonN_trans {a b c : List Nat} (h1 : lonN a b) (h2 : lonN b c) : lonN a c := by
  rcases h1 with h1 | ⟨h1, h3⟩ <;> rcases h2 with h2 | ⟨h2, h4⟩
  · exact .inl (by omega)
  · exact .inl (by omega)
  · exact .inl (by omega)
  · exact .inr ⟨by omega, lexN_trans h3 h4⟩
theorem fst_least {c : List Nat → Int} {zs : List (List Nat)} (hs : zs.Pairwise lexN) {z : List Nat} (hz : z ∈ zs) (hc : c z = (bestF c zs).2) : z = fstB c zs ∨ lexN (fstB c zs) z := by
  rcases bestF_inv c zs with ⟨rfl, _⟩ | ⟨_, h2, h3⟩
  · cases hz
  · have hm : z ∈ (bestF c zs).1 := by rw [h2]; exact List.mem_filter.2 ⟨hz, by simpa using hc⟩
    have hp : (bestF c zs).1.Pairwise lexN := by rw [h2]; exact hs.sublist List.filter_sublist
    unfold fstB
    cases hB : (bestF c zs).1 with
    | nil => exact absurd hB h3
    | cons b B =>
      rw [hB] at hm hp
      rcases List.mem_cons.1 hm with e | e
      · exact .inl e
      · exact .inr ((List.pairwise_cons.1 hp).1 z e)
theorem few_first {xs : List Int} {z : List Nat} (h : AscN xs.length z) (hg : grd xs z = true) : ¬ ordN z (few xs) := by
  have hz : z ∈ grdL xs := List.mem_filter.2 ⟨mem_allA.2 h, hg⟩
  have hs : (grdL xs).Pairwise lexN := (allA_sorted _).sublist List.filter_sublist
  have hle := few_le h hg
  have h2 := fstB_cost (c := sumZ fun _ => 1) (grdL_ne xs)
  have e : fstB (sumZ fun _ => 1) (grdL xs) = few xs := rfl
  rw [e, sumZ_len] at h2
  rintro (hl | ⟨hl, hx⟩)
  · omega
  · rcases fst_least (c := sumZ fun _ => 1) hs hz (by rw [sumZ_len, ← h2, hl]) with k | k
    · rw [e] at k; rw [k] at hx; exact lexN_irr _ hx
    · rw [e] at k; exact lexN_asym hx k
theorem far_first {xs : List Int} {z : List Nat} (h : AscN xs.length z) (hg : apt xs z = true) : ¬ lonN z (far xs) := by
  have hz : z ∈ aptL xs := List.mem_filter.2 ⟨mem_allA.2 h, hg⟩
  have hs : (aptL xs).Pairwise lexN := (allA_sorted _).sublist List.filter_sublist
  have hle := far_ge h hg
  have h2 := fstB_cost (c := sumZ fun _ => -1) (aptL_ne xs)
  have e : fstB (sumZ fun _ => -1) (aptL xs) = far xs := rfl
  rw [e, sumZ_neg] at h2
  rintro (hl | ⟨hl, hx⟩)
  · omega
  · rcases fst_least (c := sumZ fun _ => -1) hs hz (by rw [sumZ_neg, ← h2, hl]) with k | k
    · rw [e] at k; rw [k] at hx; exact lexN_irr _ hx
    · rw [e] at k; exact lexN_asym hx k
/-! Sets. -/
theorem plcL_sel (s : Nat) : plcL s 10 = selL 10 s.testBit := rfl
theorem set_lt {n s x : Nat} (hs : s < 2 ^ n) (h : s.testBit x = true) : x < n := by
  refine Nat.lt_of_not_le fun hc => ?_
  have := Nat.testBit_lt_two_pow (Nat.lt_of_lt_of_le hs (Nat.pow_le_pow_right (by omega) hc))
  rw [h] at this; cases this
theorem plcL_asc {n s : Nat} (hs : s < 2 ^ n) : AscN n (plcL s 10) := ⟨(selL_asc 10 s.testBit).asc, fun x hx => set_lt hs (plcL_lt hx).2⟩
theorem plcL_mem {n s x : Nat} (hn : n ≤ 10) (hs : s < 2 ^ n) : x ∈ plcL s 10 ↔ s.testBit x = true := by
  rw [plcL_sel, mem_selL]
  exact ⟨fun h => h.2, fun h => ⟨by have := set_lt hs h; omega, h⟩⟩
theorem plcL_mask {n : Nat} (hn : n ≤ 10) {z : List Nat} (h : AscN n z) : maskN z < 2 ^ n ∧ plcL (maskN z) 10 = z := by
  have h1 := mask_lt h.lt
  refine ⟨h1, ?_⟩
  have h10 : AscN 10 z := ⟨h.asc, fun x hx => by have := h.lt x hx; omega⟩
  rw [plcL_sel]
  refine Eq.trans ?_ (asc_sel h10).symm
  unfold selL
  refine List.filter_congr fun x hx => ?_
  rw [Bool.eq_iff_iff, decide_eq_true_eq, mask_bit]
theorem grdS_iff {xs : List Int} {s : Nat} (hn : xs.length ≤ 10) (hs : s < 2 ^ xs.length) : grdS xs s = grd xs (plcL s 10) := by
  rw [Bool.eq_iff_iff, grd_iff]
  unfold grdS
  rw [List.all_eq_true]
  constructor
  · intro h i hi
    have h1 := of_decide_eq_true (h i (List.mem_range.2 hi))
    refine Classical.byContradiction fun hc => h1 (and_zero.2 fun j hj => hc ⟨j, (plcL_mem hn hs).2 hj.2, ?_⟩)
    rw [adj_comm]; exact (hm_bit.1 hj.1).2
  · intro h i hi
    have hi' := List.mem_range.1 hi
    obtain ⟨p, hp, ha⟩ := h i hi'
    refine decide_eq_true fun h0 => and_zero.1 h0 p ⟨hm_bit.2 ⟨(plcL_asc hs).lt p hp, by rw [adj_comm]; exact ha⟩, (plcL_mem hn hs).1 hp⟩
def FewI (xs : List Int) (k : Nat) (fw : List Nat) (fo : Bool) : Prop := (fo = false ∧ fw = [] ∧ ∀ s, s < k → grdS xs s = false) ∨ (fo = true ∧ (∃ s, s < k ∧ grdS xs s = true ∧ fw = plcL s 10) ∧ ∀ s, s < k → grdS xs s = true → ¬ ordN (plcL s 10) fw)
def ManI (xs : List Int) (k : Nat) (mn : List Nat) : Prop := (mn = [] ∨ ∃ s, s < k ∧ apt xs (plcL s 10) = true ∧ mn = plcL s 10) ∧ ∀ s, s < k → apt xs (plcL s 10) = true → ¬ lonN (plcL s 10) mn
theorem FewI.keep {xs : List Int} {k : Nat} {fw : List Nat} {fo : Bool} (h : FewI xs k fw fo) (hn : grdS xs k = false ∨ (fo = true ∧ ¬ ordN (plcL k 10) fw)) : FewI xs (k + 1) fw fo := by
  rcases h with ⟨h1, h2, h3⟩ | ⟨h1, ⟨s, h2, h3, h4⟩, h5⟩
  · refine .inl ⟨h1, h2, fun s hs => ?_⟩
    by_cases e : s = k
    · rcases hn with hn | hn
      · rw [e]; exact hn
      · rw [h1] at hn; cases hn.1
    · exact h3 s (by omega)
  · refine .inr ⟨h1, ⟨s, by omega, h3, h4⟩, fun t ht hg => ?_⟩
    by_cases e : t = k
    · rcases hn with hn | hn
      · rw [e, hn] at hg; cases hg
      · rw [e]; exact hn.2
    · exact h5 t (by omega) hg
theorem FewI.take {xs : List Int} {k : Nat} {fw : List Nat} {fo : Bool} (h : FewI xs k fw fo) (hg : grdS xs k = true) (ho : fo = false ∨ ordN (plcL k 10) fw) : FewI xs (k + 1) (plcL k 10) true := by
  refine .inr ⟨rfl, ⟨k, by omega, hg, rfl⟩, fun t ht hgt hlt => ?_⟩
  by_cases e : t = k
  · rw [e] at hlt; exact ordN_irr _ hlt
  · rcases h with ⟨h1, h2, h3⟩ | ⟨h1, h2, h5⟩
    · rw [h3 t (by omega)] at hgt; cases hgt
    · rcases ho with ho | ho
      · rw [h1] at ho; cases ho
      · exact h5 t (by omega) hgt (ordN_trans hlt ho)
theorem ManI.keep {xs : List Int} {k : Nat} {mn : List Nat} (h : ManI xs k mn) (hn : apt xs (plcL k 10) = false ∨ ¬ lonN (plcL k 10) mn) : ManI xs (k + 1) mn := by
  obtain ⟨h1, h2⟩ := h
  refine ⟨h1.imp id fun ⟨s, a, b⟩ => ⟨s, by omega, b⟩, fun t ht hg => ?_⟩
  by_cases e : t = k
  · rcases hn with hn | hn
    · rw [e, hn] at hg; cases hg
    · rw [e]; exact hn
  · exact h2 t (by omega) hg
theorem ManI.take {xs : List Int} {k : Nat} {mn : List Nat} (h : ManI xs k mn) (hg : apt xs (plcL k 10) = true) (ho : lonN (plcL k 10) mn) : ManI xs (k + 1) (plcL k 10) := by
  refine ⟨.inr ⟨k, by omega, hg, rfl⟩, fun t ht hgt hlt => ?_⟩
  by_cases e : t = k
  · rw [e] at hlt; exact lonN_irr _ hlt
  · exact h.2 t (by omega) hgt (lonN_trans hlt ho)
theorem FewI.all {xs : List Int} (hn : xs.length ≤ 10) {fw : List Nat} {fo : Bool} (h : FewI xs (2 ^ xs.length) fw fo) : few xs = fw := by
  obtain ⟨g1, g2⟩ := few_grd xs
  obtain ⟨m1, m2⟩ := plcL_mask hn g1
  have hg : grdS xs (maskN (few xs)) = true := by rw [grdS_iff hn m1, m2]; exact g2
  rcases h with ⟨h1, h2, h3⟩ | ⟨h1, ⟨s, h2, h3, rfl⟩, h5⟩
  · rw [h3 _ m1] at hg; cases hg
  · refine Classical.byContradiction fun hc => ?_
    have h6 := h5 _ m1 hg
    rw [m2] at h6
    rcases ordN_tri hc with k | k
    · exact h6 k
    · exact few_first (plcL_asc h2) (by rw [← grdS_iff hn h2]; exact h3) k
theorem ManI.all {xs : List Int} (hn : xs.length ≤ 10) {mn : List Nat} (h : ManI xs (2 ^ xs.length) mn) : far xs = mn := by
  obtain ⟨g1, g2⟩ := far_apt xs
  obtain ⟨m1, m2⟩ := plcL_mask hn g1
  obtain ⟨h1, h5⟩ := h
  refine Classical.byContradiction fun hc => ?_
  have h6 := h5 _ m1 (by rw [m2]; exact g2)
  rw [m2] at h6
  rcases lonN_tri hc with k | k
  · exact h6 k
  · rcases h1 with rfl | ⟨s, h2, h3, rfl⟩
    · exact far_first ⟨by simp, by simp⟩ (by simp [apt]) k
    · exact far_first (plcL_asc h2) h3 k
end Go.Proofs.YtcfffhkabhmkmaaDoor.Ps

/- A place more; cheaper prices. -/
namespace Go.Proofs.YtcfffhkabhmkmaaDoor.Ps
open Go Go.Abs Go.Mth
set_option linter.unusedVariables false
set_option linter.unusedSimpArgs false
end Go.Proofs.YtcfffhkabhmkmaaDoor.Ps

/- The law PostPacked. -/
namespace Go.Proofs.YtcfffhkabhmkmaaDoor.Ps
open Go Go.Abs Go.Mth
set_option linter.unusedVariables false
set_option linter.unusedSimpArgs false
theorem IL_inj {a b : List Nat} (h : IL a = IL b) : a = b := by
  have := congrArg (List.map Int.toNat) h
  rwa [toNat_IL, toNat_IL] at this
attribute [local irreducible] gOK WS WC WR WD Ends FS YS OpV seqK blockK loopK midK retK rdK asgK rangeEnd sat Cell
section
variable {M : HL} {n0 : Nat} {H : Heap} {v w : Value}
theorem sameI_fs (hH : hasH M n0 H) {a b : List Int} (hS : Sl M 1 v (ints a)) (hU : Sl M 1 w (ints b)) (ha : a.length ≤ 100000) (hb : b.length ≤ 100000) :
    FS C 16 [v, w] H (fun e H' => e = .bool (decide (a = b)) ∧ H' = H) := by
  have hv := hS.one_
  have hw := hU.one_
  refine FS.intro (pf := pf16) rfl rfl rfl ?_
  repeat' (first | refine zP ?_ | refine zA ?_ | (refine zM ?_; intro _ _) | refine zX ?_ | (refine zC ?_; intro _ _ _ _) | (refine zS ?_; intro _ _) | (apply Ws <;> intro hg))
  refine WC.condP rfl (fun hne => ?_) (fun hne => ?_)
  · repeat' (first | refine zP ?_ | refine zA ?_ | (refine zM ?_; intro _ _) | refine zX ?_ | (refine zC ?_; intro _ _ _ _) | (refine zS ?_; intro _ _) | (apply Ws <;> intro hg))
    exact Ends.ret1 rfl ⟨by rw [decide_eq_false (fun h => by rw [h] at hne; exact hne rfl)], rfl⟩
  · have hle : a.length = b.length := by omega
    repeat' (first | refine zP ?_ | refine zA ?_ | (refine zM ?_; intro _ _) | refine zX ?_ | (refine zC ?_; intro _ _ _ _) | (refine zS ?_; intro _ _) | (apply Ws <;> intro hg))
    refine WC.loopX [(0, v), (1, w)] (fun k : Nat => [(5, .int .i64 (k : Int))]) [] (fun k H' => H' = H ∧ k ≤ a.length ∧ ∀ j, j < k → a.getD j 0 = b.getD j 0) (fun k => a.length - k) 0 (by repeat' (first | exact .nil | refine .cons rfl ?_)) rfl ⟨rfl, Nat.zero_le _, fun j h => absurd h (Nat.not_lt_zero _)⟩ ?_
    rintro k H' ⟨rfl, hk, hall⟩
    dsimp only [List.cons_append, List.nil_append]
    repeat' (first | refine zP ?_ | refine zA ?_ | (refine zM ?_; intro _ _) | refine zX ?_ | (refine zC ?_; intro _ _ _ _) | (refine zS ?_; intro _ _) | (apply Ws <;> intro hg))
    refine WC.condP rfl (fun hlt => ?_) (fun hlt => ?_)
    · have hk' : k < a.length := by omega
      have hkb : k < b.length := by omega
      repeat' (first | refine zP ?_ | refine zA ?_ | (refine zM ?_; intro _ _) | refine zX ?_ | (refine zC ?_; intro _ _ _ _) | (refine zS ?_; intro _ _))
      by_cases he : a.getD k 0 = b.getD k 0
      · repeat' (first | refine zP ?_ | refine zA ?_ | (refine zM ?_; intro _ _) | refine zX ?_ | (refine zC ?_; intro _ _ _ _) | (refine zS ?_; intro _ _) | refine zO ?_ | (apply Ws <;> intro hg))
        refine Ends.loop (k + 1) (by omega) (by repeat' (first | exact .nil | refine .cons rfl ?_)) rfl ⟨rfl, hk', fun j hj => ?_⟩
        by_cases e : j = k
        · rw [e]; exact he
        · exact hall j (by omega)
      · repeat' (first | refine zP ?_ | refine zA ?_ | (refine zM ?_; intro _ _) | refine zX ?_ | (refine zC ?_; intro _ _ _ _) | (refine zS ?_; intro _ _) | refine zO ?_ | (apply Ws <;> intro hg))
        exact Ends.ret1 rfl ⟨by rw [decide_eq_false (fun h => he (by rw [h]))], rfl⟩
    · have hkl : k = a.length := by omega
      subst hkl
      repeat' (first | refine zP ?_ | refine zA ?_ | (refine zM ?_; intro _ _) | refine zX ?_ | (refine zC ?_; intro _ _ _ _) | (refine zS ?_; intro _ _) | (apply Ws <;> intro hg))
      exact Ends.ret1 rfl ⟨by rw [decide_eq_true (ext_getD (a := 0) hle hall)], rfl⟩
theorem same_fs (hH : hasH M n0 H) {a b : List Nat} (hS : Sl M 1 v (nodes a)) (hU : Sl M 1 w (nodes b)) (ha : a.length ≤ 100000) (hb : b.length ≤ 100000) :
    FS C 16 [v, w] H (fun e H' => e = .bool (decide (a = b)) ∧ H' = H) := by
  refine (sameI_fs hH (a := IL a) (b := IL b) (by rw [← nodes_IL]; exact hS) (by rw [← nodes_IL]; exact hU) (by rw [IL_len]; exact ha) (by rw [IL_len]; exact hb)).mono ?_
  rintro e H' ⟨h1, h2⟩
  refine ⟨?_, h2⟩
  rw [h1]
  congr 1
  rw [decide_eq_decide]
  exact ⟨IL_inj, fun h => by rw [h]⟩
end
end Go.Proofs.YtcfffhkabhmkmaaDoor.Ps

/- The law PostPacked: its walk. -/
namespace Go.Proofs.YtcfffhkabhmkmaaDoor.Ps
open Go Go.Abs Go.Mth
set_option linter.unusedVariables false
set_option linter.unusedSimpArgs false
attribute [local irreducible] gOK WS WC WR WD Ends FS YS OpV seqK blockK loopK midK retK rdK asgK rangeEnd sat Cell
section
variable {M : HL} {n0 : Nat} {H : Heap} {v w : Value}
end
end Go.Proofs.YtcfffhkabhmkmaaDoor.Ps

/- The law PostGuarded. -/
namespace Go.Proofs.YtcfffhkabhmkmaaDoor.Ps
open Go Go.Abs Go.Mth
set_option linter.unusedVariables false
set_option linter.unusedSimpArgs false
theorem u16k : C.c.P.underlying 41 = some (.int .u16) := by kernel_rfl
theorem neB' {a b : Bool} {L : Env} {H : Heap} {dst : Option Tmp} {x y : Operand} {ty2 : TypeId} {pos : String} {af : Array Edge} {g : Option (Nat × Bool)} (hx : ev L x = some (.bool a)) (hy : ev L y = some (.bool b)) :
    OpV C (.plain ⟨dst, .binOp .neq 4 x y 4, ty2, pos, af, g⟩) L H (.bool (a != b)) H := OpV.neB (by cases a <;> cases b <;> kernel_rfl) hx hy
theorem errG_set {xs : List Int} (hx : OKS xs) {z : List Nat} (h : AscN xs.length z) : errG xs (IL z) = if grd xs z = true then 0 else 14 := by
  unfold errG
  have h1 : errL xs (IL z) = 0 := errL_zero.2 ⟨hx, z, rfl, h⟩
  rw [if_neg (by omega), toNat_IL]
theorem errA_set {xs : List Int} (hx : OKS xs) {z : List Nat} (h : AscN xs.length z) : errA xs (IL z) = if apt xs z = true then 0 else 14 := by
  unfold errA
  have h1 : errL xs (IL z) = 0 := errL_zero.2 ⟨hx, z, rfl, h⟩
  rw [if_neg (by omega), toNat_IL]
theorem errG_more {xs : List Int} (hx : OKS xs) {z : List Nat} (h : AscN xs.length z) : errG xs (IL (z ++ [xs.length])) = 2 := by
  have h0 : errL xs (IL z) = 0 := errL_zero.2 ⟨hx, z, rfl, h⟩
  have hS := errS_zero.2 hx
  unfold errL at h0
  rw [if_neg (by omega), firstE_zero] at h0
  have hL : errL xs (IL (z ++ [xs.length])) = 2 := by
    unfold errL
    rw [if_neg (by omega)]
    have hll : (IL (z ++ [xs.length])).length = z.length + 1 := by simp [IL]
    have hz : firstE (errP xs.length (IL (z ++ [xs.length]))) z.length = 0 := by
      rw [firstE_zero]
      intro i hi
      rw [← h0 i (by rw [IL_len]; exact hi)]
      unfold errP
      have hg : ∀ j, j < z.length → (IL (z ++ [xs.length])).getD j 0 = (IL z).getD j 0 := fun j hj => by
        rw [IL_get (by simp; omega), IL_get hj, getD_app_l hj]
      rw [hg i hi, hg (i - 1) (by omega)]
    have hlast : errP xs.length (IL (z ++ [xs.length])) z.length = 2 := by
      unfold errP
      rw [IL_get (by simp), snoc_at, if_pos (by omega)]
    rw [firstE_at hz (by rw [hlast]; decide) (by omega), hlast]
  unfold errG
  rw [if_pos (by omega), hL]
theorem grd_mono {xs : List Int} {z w : List Nat} (h : ∀ p ∈ z, p ∈ w) (hg : grd xs z = true) : grd xs w = true := by
  rw [grd_iff] at hg ⊢
  intro i hi
  obtain ⟨p, h1, h2⟩ := hg i hi
  exact ⟨p, h p h1, h2⟩
attribute [local irreducible] gOK WS WC WR WD Ends FS YS OpV seqK blockK loopK midK retK rdK asgK rangeEnd sat Cell
section
variable {M : HL} {n0 : Nat} {H : Heap} {v w : Value}
set_option maxHeartbeats 8000000 in
theorem PostGuarded_fs (hH : hasH M n0 H) {x : List Nat} (hxl : x.length = 11) (hx : ∀ y ∈ x, y ≤ 255) {one_ : Nat} (h1 : one_ ≤ 65535) {two : Nat} (h2 : two ≤ 65535) :
    FS C 4 [.agg (numsK .u8 x).toArray, .int .u16 (one_ : Int), .int .u16 (two : Int)] H (fun e H' => e = .bool true) := by
  obtain ⟨x, by_, rfl⟩ : ∃ a l, x = a :: l := by
    cases x with
    | nil => simp at hxl
    | cons a l => exact ⟨a, l, rfl⟩
  have hbl : by_.length = 10 := by simpa using hxl
  have hx0 := hx x (by simp)
  have hb : ∀ y ∈ by_, y ≤ 255 := fun y hy => hx y (by simp [hy])
  have hsl : (numsK .u8 (x :: by_)).length = 11 := by simp [numsK, hbl]
  have hfin : ∀ {H' : Heap}, FS C 19 [] H' (fun e H'' => e = .bool true ∧ H'' = H') := fun {H'} => FS.works ⟨rfl, rfl⟩
  refine FS.intro (pf := pf4) rfl rfl rfl ?_
  refine WC.seq ?_
  refine WC.region ?_
  refine WR.boxA (cs := numsK .u8 (x :: by_)) (by first | exact gN | exact gS rfl) rfl hH rfl (numsK_one _) fun H1 hH1 => ?_
  clear hH
  repeat' (first | refine zP ?_ | refine zA ?_ | (refine zM ?_; intro _ _) | refine zX ?_ | (refine zC ?_; intro _ _ _ _) | (refine zS ?_; intro _ _) | (apply Ws <;> intro hg))
  refine WR.call (by first | exact gN | exact gS rfl) rfl rfl (made_fs (most := 10) hH1 hx0 hb hbl (by decide) (by decide)) ?_
  rintro _ H3 ⟨vs, vh, MS, MH, n3, rfl, hOs, hOh, hn3, hH3⟩
  have hmod := Nat.mod_lt x (show 0 < 10 by decide)
  obtain ⟨n, hn⟩ : ∃ n, 1 + x % 10 = n := ⟨_, rfl⟩
  rw [hn] at hOs hOh
  have hok := mkS_ok by_ (n := n) (by omega) (by omega)
  have hlen := mkS_len by_ n
  obtain ⟨X, hX⟩ : ∃ X, MS ++ (MH ++ ((n0, Ch.row 24 0 0 (numsK .u8 (x :: by_))) :: M)) = X := ⟨_, rfl⟩
  have hSs : Sl X 1 vs (ints (mkS by_ n)) := (hOs.sl []).mono fun q hq => by rw [List.append_nil] at hq; rw [← hX]; simp [hq]
  have hSh : Sl X 1 vh (numsK .u64 (hsL (mkS by_ n))) := (hOh.sl []).mono fun q hq => by rw [List.append_nil] at hq; rw [← hX]; simp [hq]
  rw [hX] at hH3
  clear hX hH1 hOs hOh hsl
  generalize mkS by_ n = xs at hok hlen hSs hSh
  have hvs := hSs.one_
  have hvh := hSh.one_
  have h10 : xs.length ≤ 10 := hok.most
  have h1x := hok.one
  have hpw : 2 ^ n ≤ 1024 := by show 2 ^ n ≤ 2 ^ 10; exact Nat.pow_le_pow_right (by omega) (by omega)
  have hpw1 : 1 ≤ 2 ^ n := Nat.pow_pos (by omega)
  have hE0 := errS_zero.2 hok
  subst hlen
  have hlp : 2 ^ xs.length < capK .u64 := Nat.lt_of_le_of_lt hpw (by decide)
  repeat' (first | refine zP ?_ | refine zA ?_ | (refine zM ?_; intro _ _) | refine zX ?_ | (refine zC ?_; intro _ _ _ _) | (refine zS ?_; intro _ _) | (apply Ws <;> intro hg))
  refine WR.op (by first | exact gN | exact gS rfl) rfl (OpV.shl1 rfl rfl (by show xs.length ≤ 64; omega) hlp) ?_
  refine WR.op (by first | exact gN | exact gS rfl) rfl (OpV.subK rfl rfl (c := ((2 ^ xs.length - 1 : Nat) : Int)) (by rw [wrapI]; omega)) ?_
  have hal : 2 ^ xs.length - 1 < 1024 := by omega
  repeat' (first | refine zP ?_ | refine zA ?_ | (refine zM ?_; intro _ _) | refine zX ?_ | (refine zC ?_; intro _ _ _ _) | (refine zS ?_; intro _ _) | (apply Ws <;> intro hg))
  have h1c : one_ < capK .u64 := Nat.lt_of_le_of_lt h1 (by decide)
  have h2c : two < capK .u64 := Nat.lt_of_le_of_lt h2 (by decide)
  refine WR.op (by first | exact gN | exact gS rfl) rfl (OpV.conv u16k uk rfl (c := (one_ : Int)) (wrap_cap h1c)) ?_
  repeat' (first | refine zP ?_ | refine zA ?_ | (refine zM ?_; intro _ _) | refine zX ?_ | (refine zC ?_; intro _ _ _ _) | (refine zS ?_; intro _ _) | (apply Ws <;> intro hg))
  refine WR.op (by first | exact gN | exact gS rfl) rfl (OpV.andN rfl rfl h1c (lt64 hal)) ?_
  repeat' (first | refine zP ?_ | refine zA ?_ | (refine zM ?_; intro _ _) | refine zX ?_ | (refine zC ?_; intro _ _ _ _) | (refine zS ?_; intro _ _) | (apply Ws <;> intro hg))
  refine WR.op (by first | exact gN | exact gS rfl) rfl (OpV.conv u16k uk rfl (c := (two : Int)) (wrap_cap h2c)) ?_
  repeat' (first | refine zP ?_ | refine zA ?_ | (refine zM ?_; intro _ _) | refine zX ?_ | (refine zC ?_; intro _ _ _ _) | (refine zS ?_; intro _ _) | (apply Ws <;> intro hg))
  refine WR.op (by first | exact gN | exact gS rfl) rfl (OpV.andN rfl rfl h2c (lt64 hal)) ?_
  have ha : one_ &&& (2 ^ xs.length - 1) < 2 ^ xs.length := by have := Nat.and_le_right (n := one_) (m := 2 ^ xs.length - 1); omega
  have hb2 : two &&& (2 ^ xs.length - 1) < 2 ^ xs.length := by have := Nat.and_le_right (n := two) (m := 2 ^ xs.length - 1); omega
  generalize one_ &&& (2 ^ xs.length - 1) = a at ha ⊢
  generalize two &&& (2 ^ xs.length - 1) = b at hb2 ⊢
  have ha10 : a < 1024 := by omega
  have hb10 : b < 1024 := by omega
  repeat' (first | refine zP ?_ | refine zA ?_ | (refine zM ?_; intro _ _) | refine zX ?_ | (refine zC ?_; intro _ _ _ _) | (refine zS ?_; intro _ _) | (apply Ws <;> intro hg))
  refine WC.loopX [(2, _), (7, vs), (8, vh), (10, _), (11, _), (35, vs), (36, _)] (fun z : KC => [(37, .int .i64 (z.k : Int))]) [] (fun z H' => z.k ≤ xs.length ∧ n3 ≤ z.n ∧ ∃ Z, (∀ q ∈ X, q ∈ Z) ∧ hasH Z z.n H') (fun z => xs.length - z.k) ⟨0, n3⟩ (by repeat' (first | exact .nil | refine .cons rfl ?_)) rfl ⟨Nat.zero_le _, Nat.le_refl _, X, fun q hq => hq, hH3⟩ ?_
  clear hH3
  rintro ⟨k, n4⟩ H4 ⟨hk, hn4, Z, hXZ, hH⟩
  simp only at hk hn4 hH
  have hSsZ := hSs.mono hXZ
  have hShZ := hSh.mono hXZ
  dsimp only [List.cons_append, List.nil_append]
  repeat' (first | refine zP ?_ | refine zA ?_ | (refine zM ?_; intro _ _) | refine zX ?_ | (refine zC ?_; intro _ _ _ _) | (refine zS ?_; intro _ _) | (apply Ws <;> intro hg))
  refine WC.condP rfl (fun hlt => ?_) (fun hlt => ?_)
  · have hk' : k < xs.length := by omega
    repeat' (first | refine zP ?_ | refine zA ?_ | (refine zM ?_; intro _ _) | refine zX ?_ | (refine zC ?_; intro _ _ _ _) | (refine zS ?_; intro _ _) | (apply Ws <;> intro hg))
    refine WR.call (by first | exact gN | exact gS rfl) rfl rfl (Hand_fs hH hSsZ (by omega) (k : Int)) ?_
    rintro _ H5 ⟨u5, M5, n5, rfl, hS5, hn5, hH5⟩
    have hEH : errH xs (k : Int) = 0 := by unfold errH; rw [if_neg (by omega), if_pos (by omega)]
    rw [hEH] at hS5 ⊢
    rw [if_pos rfl, Int.toNat_natCast] at hS5
    have hShY := hShZ.mono fun q hq => List.mem_append_right M5 hq
    have hXY : ∀ q ∈ X, q ∈ M5 ++ Z := fun q hq => List.mem_append_right _ (hXZ q hq)
    clear hH hSsZ hShZ hXZ
    generalize M5 ++ Z = Y at hH5 hS5 hShY hXY
    have hg := hsL_get hk'
    have hhl := hsL_len xs
    have hndl : (hndL xs k).length ≤ xs.length := by have := List.length_filter_le (adj xs k) (List.range xs.length); simpa [hndL] using this
    have hbm := hm_lt10 h10 k
    have hkh : k < (hsL xs).length := by omega
    repeat' (first | refine zP ?_ | refine zA ?_ | (refine zM ?_; intro _ _) | refine zX ?_ | (refine zC ?_; intro _ _ _ _) | (refine zS ?_; intro _ _) | refine zO ?_ | (apply Ws <;> intro hg))
    rw [hg]
    refine WR.call (by first | exact gN | exact gS rfl) rfl rfl (members_fs hH5 hbm) ?_
    rintro v54 H6 ⟨Mx, n6, hO6, hn6, hH6⟩
    rw [plcL_hm h10] at hO6
    refine WR.call (by first | exact gN | exact gS rfl) rfl rfl (same_fs hH6 (hS5.mono fun q hq => List.mem_append_right Mx hq) (hO6.sl Y) (by omega) (by omega)) ?_
    rintro _ H7 ⟨rfl, rfl⟩
    rw [decide_eq_true rfl]
    repeat' (first | refine zP ?_ | refine zA ?_ | (refine zM ?_; intro _ _) | refine zX ?_ | (refine zC ?_; intro _ _ _ _) | (refine zS ?_; intro _ _) | refine zO ?_ | (apply Ws <;> intro hg))
    exact Ends.loop ⟨k + 1, n6⟩ (by simp only; omega) (by repeat' (first | exact .nil | refine .cons rfl ?_)) rfl ⟨hk', by simp only; omega, Mx ++ Y, fun q hq => List.mem_append_right _ (hXY q hq), hH6⟩
  · clear hk hlt
    have hA := plcL_asc ha
    have hB := plcL_asc hb2
    have hAl := hA.len
    have hBl := hB.len
    have hgA := grdS_iff h10 ha
    have hEG := errG_set hok hA
    have hEA := errA_set hok hB
    have hEM := errG_more hok hA
    repeat' (first | refine zP ?_ | refine zA ?_ | (refine zM ?_; intro _ _) | refine zX ?_ | (refine zC ?_; intro _ _ _ _) | (refine zS ?_; intro _ _) | (apply Ws <;> intro hg))
    refine WR.call (by first | exact gN | exact gS rfl) rfl rfl (members_fs hH ha10) ?_
    rintro v61 H6 ⟨M6, n6, hO6, hn6, hH6⟩
    have hS6 := hO6.sl Z
    have hSsY := hSsZ.mono fun q hq => List.mem_append_right M6 hq
    have hShY := hShZ.mono fun q hq => List.mem_append_right M6 hq
    clear hH hSsZ hShZ hXZ hO6
    generalize M6 ++ Z = Y at hH6 hS6 hSsY hShY
    rw [nodes_IL] at hS6
    refine WR.call (by first | exact gN | exact gS rfl) rfl rfl (Guards_fs hH6 hSsY (by omega) hS6 (by rw [IL_len]; omega)) ?_
    rintro _ H7 ⟨rfl, n7, hn7, hH7⟩
    clear hH6 hS6
    repeat' (first | refine zP ?_ | refine zA ?_ | (refine zM ?_; intro _ _) | refine zX ?_ | (refine zC ?_; intro _ _ _ _) | (refine zS ?_; intro _ _) | (apply Ws <;> intro hg))
    refine WR.call (by first | exact gN | exact gS rfl) rfl rfl (members_fs hH7 hb10) ?_
    rintro v65 H8 ⟨M8, n8, hO8, hn8, hH8⟩
    have hS8 := hO8.sl Y
    replace hSsY := hSsY.mono fun q hq => List.mem_append_right M8 hq
    replace hShY := hShY.mono fun q hq => List.mem_append_right M8 hq
    clear hH7 hO8
    generalize M8 ++ Y = Y2 at hH8 hS8 hSsY hShY
    rw [nodes_IL] at hS8
    refine WR.call (by first | exact gN | exact gS rfl) rfl rfl (Proves_fs hH8 hSsY (by omega) hS8 (by rw [IL_len]; omega)) ?_
    rintro _ H9 ⟨rfl, n9, hn9, hH9⟩
    clear hH8 hS8
    rw [hEG, hEA]
    repeat' (first | refine zP ?_ | refine zA ?_ | (refine zM ?_; intro _ _) | refine zX ?_ | (refine zC ?_; intro _ _ _ _) | (refine zS ?_; intro _ _) | (apply Ws <;> intro hg))
    refine WR.call (by first | exact gN | exact gS rfl) rfl rfl (guardsS_fs hH9 h10 hShY ha10) ?_
    rintro _ H10 ⟨rfl, hH10⟩
    clear hH9
    rw [hgA]
    have hq := Nat.mod_lt two (show 0 < xs.length by omega)
    have hlc : xs.length < capK .u64 := Nat.lt_of_le_of_lt h10 (by decide)
    by_cases hg : grd xs (plcL a 10) = true
    · rw [hg, if_pos rfl]
      rw [if_pos hg] at hEG
      repeat' (first | refine zP ?_ | refine zA ?_ | (refine zM ?_; intro _ _) | refine zX ?_ | (refine zC ?_; intro _ _ _ _) | (refine zS ?_; intro _ _) | (apply Ws <;> intro hg))
      refine WR.op (by first | exact gN | exact gS rfl) rfl (neB' (a := true) (b := true) rfl rfl) ?_
      repeat' (first | refine zP ?_ | refine zA ?_ | (refine zM ?_; intro _ _) | refine zX ?_ | (refine zC ?_; intro _ _ _ _) | (refine zS ?_; intro _ _) | refine zO ?_ | (apply Ws <;> intro hg))
      refine WR.call (by first | exact gN | exact gS rfl) rfl rfl (apartS_fs hH10 h10 hShY hb2) ?_
      rintro _ H11 ⟨rfl, n11, hn11, hH11⟩
      clear hH10
      by_cases hp : apt xs (plcL b 10) = true
      · rw [hp]
        rw [if_pos rfl]
        refine WR.op (by first | exact gN | exact gS rfl) rfl (neB' (a := true) (b := true) rfl rfl) ?_
        repeat' (first | refine zP ?_ | refine zA ?_ | (refine zM ?_; intro _ _) | refine zX ?_ | (refine zC ?_; intro _ _ _ _) | (refine zS ?_; intro _ _) | refine zO ?_ | (apply Ws <;> intro hg))
        refine WR.call (by first | exact gN | exact gS rfl) rfl rfl (OnesCount_fs hb10 _) ?_
        rintro _ _ ⟨rfl, rfl⟩
        repeat' (first | refine zP ?_ | refine zA ?_ | (refine zM ?_; intro _ _) | refine zX ?_ | (refine zC ?_; intro _ _ _ _) | (refine zS ?_; intro _ _) | refine zO ?_ | (apply Ws <;> intro hg))
        refine WR.call (by first | exact gN | exact gS rfl) rfl rfl (OnesCount_fs ha10 _) ?_
        rintro _ _ ⟨rfl, rfl⟩
        have hwk := apt_le_grd hB hA hp hg
        repeat' (first | refine zP ?_ | refine zA ?_ | (refine zM ?_; intro _ _) | refine zX ?_ | (refine zC ?_; intro _ _ _ _) | (refine zS ?_; intro _ _) | refine zO ?_ | (apply Ws <;> intro hg))
        refine WR.op (by first | exact gN | exact gS rfl) rfl (OpV.conv u16k uk rfl (c := (two : Int)) (wrap_cap h2c)) ?_
        repeat' (first | refine zP ?_ | refine zA ?_ | (refine zM ?_; intro _ _) | refine zX ?_ | (refine zC ?_; intro _ _ _ _) | (refine zS ?_; intro _ _) | (apply Ws <;> intro hg))
        refine WR.op (by first | exact gN | exact gS rfl) rfl (OpV.conv i64k uk rfl (c := (xs.length : Int)) (wrap_cap hlc)) ?_
        refine WR.op (by first | exact gN | exact gS rfl) rfl (OpV.rem rfl rfl (by omega) (by omega)) ?_
        rw [show (two : Int) % ((xs.length : Nat) : Int) = ((two % xs.length : Nat) : Int) by simp]
        generalize two % xs.length = q at hq ⊢
        have hq2 : 2 ^ q < 1024 := by show 2 ^ q < 2 ^ 10; exact Nat.pow_lt_pow_right (by omega) (by omega)
        have hqn : 2 ^ q < 2 ^ xs.length := Nat.pow_lt_pow_right (by omega) hq
        refine WR.op (by first | exact gN | exact gS rfl) rfl (OpV.shl1 rfl rfl (by show q ≤ 64; omega) (lt64 hq2)) ?_
        refine WR.op (by first | exact gN | exact gS rfl) rfl (OpV.orN rfl rfl (lt64 ha10) (lt64 hq2)) ?_
        have hmo : a ||| 2 ^ q < 2 ^ xs.length := Nat.or_lt_two_pow ha hqn
        have hmo10 : a ||| 2 ^ q < 1024 := by omega
        have hMa := plcL_asc hmo
        have hMl := hMa.len
        have hgM : grd xs (plcL (a ||| 2 ^ q) 10) = true := grd_mono (fun p hp => (plcL_mem h10 hmo).2 (or_bit.2 (.inl ((plcL_mem h10 ha).1 hp)))) hg
        have hEM2 := errG_set hok hMa
        rw [if_pos hgM] at hEM2
        repeat' (first | refine zP ?_ | refine zA ?_ | (refine zM ?_; intro _ _) | refine zX ?_ | (refine zC ?_; intro _ _ _ _) | (refine zS ?_; intro _ _) | refine zO ?_ | (apply Ws <;> intro hg))
        refine WR.call (by first | exact gN | exact gS rfl) rfl rfl (members_fs hH11 hmo10) ?_
        rintro v124 H12 ⟨M12, n12, hO12, hn12, hH12⟩
        have hS12 := hO12.sl Y2
        replace hSsY := hSsY.mono fun q hq => List.mem_append_right M12 hq
        replace hShY := hShY.mono fun q hq => List.mem_append_right M12 hq
        clear hO12
        generalize M12 ++ Y2 = Y3 at hH12 hS12 hSsY hShY
        rw [nodes_IL] at hS12
        refine WR.call (by first | exact gN | exact gS rfl) rfl rfl (Guards_fs hH12 hSsY (by omega) hS12 (by rw [IL_len]; omega)) ?_
        rintro _ H13 ⟨rfl, n13, hn13, hH13⟩
        rw [hEM2]
        repeat' (first | refine zP ?_ | refine zA ?_ | (refine zM ?_; intro _ _) | refine zX ?_ | (refine zC ?_; intro _ _ _ _) | (refine zS ?_; intro _ _) | refine zO ?_ | (apply Ws <;> intro hg))
        refine WR.call (by first | exact gN | exact gS rfl) rfl rfl (members_fs hH13 ha10) ?_
        rintro v131 H14 ⟨M14, n14, hO14, hn14, hH14⟩
        repeat' (first | refine zP ?_ | refine zA ?_ | (refine zM ?_; intro _ _) | refine zX ?_ | (refine zC ?_; intro _ _ _ _) | (refine zS ?_; intro _ _) | refine zO ?_ | (apply Ws <;> intro hg))
        refine WR.bldS (by first | exact gN | exact gS rfl) rfl hH14 (vs := [(0, .int .i64 (xs.length : Int))]) rfl (cs := [.int .i64 (xs.length : Int)]) (by rfl) rfl fun H15 hH15 => ?_
        refine WR.append (M' := M14 ++ Y3) (k := 1) (new := [.int .i64 (xs.length : Int)]) (y := .slice (some ⟨n14, 0, some 0⟩) 1 (2 * 1 + 1)) (by first | exact gN | exact gS rfl) rfl rfl rfl hO14 hH15 (List.sublist_cons_self _ _) (List.Perm.refl _) rfl (by have := hH15.readN (b := n14) (u := 0) (lo := 0) (o := 0) (k := 1 * 1) (.head _) (.row _ _ _ _) (Nat.le_refl _) (by simp); simpa [srcCells] using this) rfl (Nat.le_refl _) rfl (Nat.le_refl _) (by decide) (by simp; omega) fun v135 M16 n16 H16 hO16 hH16 hn16 => ?_
        have hS16 : Sl (M16 ++ Y3) 1 v135 (ints (IL (plcL a 10 ++ [xs.length]))) := by
          rw [← nodes_IL, nodes_snoc]; exact hO16.sl _
        refine WR.call (by first | exact gN | exact gS rfl) rfl rfl (Guards_fs hH16 (hSsY.mono fun q hq => List.mem_append_right M16 hq) (by omega) hS16 (by rw [IL_len]; simp; omega)) ?_
        rintro _ H17 ⟨rfl, n17, hn17, hH17⟩
        rw [hEM]
        repeat' (first | refine zP ?_ | refine zA ?_ | (refine zM ?_; intro _ _) | refine zX ?_ | (refine zC ?_; intro _ _ _ _) | (refine zS ?_; intro _ _) | refine zO ?_ | (apply Ws <;> intro hg))
        refine WR.call (by first | exact gN | exact gS rfl) rfl rfl hfin ?_
        rintro _ _ ⟨rfl, rfl⟩
        repeat' (first | refine zP ?_ | refine zA ?_ | (refine zM ?_; intro _ _) | refine zX ?_ | (refine zC ?_; intro _ _ _ _) | (refine zS ?_; intro _ _) | refine zO ?_ | (apply Ws <;> intro hg))
        exact Ends.ret1 rfl rfl
      · have hpf : apt xs (plcL b 10) = false := by simpa using hp
        rw [hpf]
        rw [if_neg (by decide)]
        refine WR.op (by first | exact gN | exact gS rfl) rfl (neB' (a := false) (b := false) rfl rfl) ?_
        repeat' (first | refine zP ?_ | refine zA ?_ | (refine zM ?_; intro _ _) | refine zX ?_ | (refine zC ?_; intro _ _ _ _) | (refine zS ?_; intro _ _) | refine zO ?_ | (apply Ws <;> intro hg))
        refine WR.op (by first | exact gN | exact gS rfl) rfl (OpV.conv u16k uk rfl (c := (two : Int)) (wrap_cap h2c)) ?_
        repeat' (first | refine zP ?_ | refine zA ?_ | (refine zM ?_; intro _ _) | refine zX ?_ | (refine zC ?_; intro _ _ _ _) | (refine zS ?_; intro _ _) | (apply Ws <;> intro hg))
        refine WR.op (by first | exact gN | exact gS rfl) rfl (OpV.conv i64k uk rfl (c := (xs.length : Int)) (wrap_cap hlc)) ?_
        refine WR.op (by first | exact gN | exact gS rfl) rfl (OpV.rem rfl rfl (by omega) (by omega)) ?_
        rw [show (two : Int) % ((xs.length : Nat) : Int) = ((two % xs.length : Nat) : Int) by simp]
        generalize two % xs.length = q at hq ⊢
        have hq2 : 2 ^ q < 1024 := by show 2 ^ q < 2 ^ 10; exact Nat.pow_lt_pow_right (by omega) (by omega)
        have hqn : 2 ^ q < 2 ^ xs.length := Nat.pow_lt_pow_right (by omega) hq
        refine WR.op (by first | exact gN | exact gS rfl) rfl (OpV.shl1 rfl rfl (by show q ≤ 64; omega) (lt64 hq2)) ?_
        refine WR.op (by first | exact gN | exact gS rfl) rfl (OpV.orN rfl rfl (lt64 ha10) (lt64 hq2)) ?_
        have hmo : a ||| 2 ^ q < 2 ^ xs.length := Nat.or_lt_two_pow ha hqn
        have hmo10 : a ||| 2 ^ q < 1024 := by omega
        have hMa := plcL_asc hmo
        have hMl := hMa.len
        have hgM : grd xs (plcL (a ||| 2 ^ q) 10) = true := grd_mono (fun p hp => (plcL_mem h10 hmo).2 (or_bit.2 (.inl ((plcL_mem h10 ha).1 hp)))) hg
        have hEM2 := errG_set hok hMa
        rw [if_pos hgM] at hEM2
        repeat' (first | refine zP ?_ | refine zA ?_ | (refine zM ?_; intro _ _) | refine zX ?_ | (refine zC ?_; intro _ _ _ _) | (refine zS ?_; intro _ _) | refine zO ?_ | (apply Ws <;> intro hg))
        refine WR.call (by first | exact gN | exact gS rfl) rfl rfl (members_fs hH11 hmo10) ?_
        rintro v124 H12 ⟨M12, n12, hO12, hn12, hH12⟩
        have hS12 := hO12.sl Y2
        replace hSsY := hSsY.mono fun q hq => List.mem_append_right M12 hq
        replace hShY := hShY.mono fun q hq => List.mem_append_right M12 hq
        clear hO12
        generalize M12 ++ Y2 = Y3 at hH12 hS12 hSsY hShY
        rw [nodes_IL] at hS12
        refine WR.call (by first | exact gN | exact gS rfl) rfl rfl (Guards_fs hH12 hSsY (by omega) hS12 (by rw [IL_len]; omega)) ?_
        rintro _ H13 ⟨rfl, n13, hn13, hH13⟩
        rw [hEM2]
        repeat' (first | refine zP ?_ | refine zA ?_ | (refine zM ?_; intro _ _) | refine zX ?_ | (refine zC ?_; intro _ _ _ _) | (refine zS ?_; intro _ _) | refine zO ?_ | (apply Ws <;> intro hg))
        refine WR.call (by first | exact gN | exact gS rfl) rfl rfl (members_fs hH13 ha10) ?_
        rintro v131 H14 ⟨M14, n14, hO14, hn14, hH14⟩
        repeat' (first | refine zP ?_ | refine zA ?_ | (refine zM ?_; intro _ _) | refine zX ?_ | (refine zC ?_; intro _ _ _ _) | (refine zS ?_; intro _ _) | refine zO ?_ | (apply Ws <;> intro hg))
        refine WR.bldS (by first | exact gN | exact gS rfl) rfl hH14 (vs := [(0, .int .i64 (xs.length : Int))]) rfl (cs := [.int .i64 (xs.length : Int)]) (by rfl) rfl fun H15 hH15 => ?_
        refine WR.append (M' := M14 ++ Y3) (k := 1) (new := [.int .i64 (xs.length : Int)]) (y := .slice (some ⟨n14, 0, some 0⟩) 1 (2 * 1 + 1)) (by first | exact gN | exact gS rfl) rfl rfl rfl hO14 hH15 (List.sublist_cons_self _ _) (List.Perm.refl _) rfl (by have := hH15.readN (b := n14) (u := 0) (lo := 0) (o := 0) (k := 1 * 1) (.head _) (.row _ _ _ _) (Nat.le_refl _) (by simp); simpa [srcCells] using this) rfl (Nat.le_refl _) rfl (Nat.le_refl _) (by decide) (by simp; omega) fun v135 M16 n16 H16 hO16 hH16 hn16 => ?_
        have hS16 : Sl (M16 ++ Y3) 1 v135 (ints (IL (plcL a 10 ++ [xs.length]))) := by
          rw [← nodes_IL, nodes_snoc]; exact hO16.sl _
        refine WR.call (by first | exact gN | exact gS rfl) rfl rfl (Guards_fs hH16 (hSsY.mono fun q hq => List.mem_append_right M16 hq) (by omega) hS16 (by rw [IL_len]; simp; omega)) ?_
        rintro _ H17 ⟨rfl, n17, hn17, hH17⟩
        rw [hEM]
        repeat' (first | refine zP ?_ | refine zA ?_ | (refine zM ?_; intro _ _) | refine zX ?_ | (refine zC ?_; intro _ _ _ _) | (refine zS ?_; intro _ _) | refine zO ?_ | (apply Ws <;> intro hg))
        refine WR.call (by first | exact gN | exact gS rfl) rfl rfl hfin ?_
        rintro _ _ ⟨rfl, rfl⟩
        repeat' (first | refine zP ?_ | refine zA ?_ | (refine zM ?_; intro _ _) | refine zX ?_ | (refine zC ?_; intro _ _ _ _) | (refine zS ?_; intro _ _) | refine zO ?_ | (apply Ws <;> intro hg))
        exact Ends.ret1 rfl rfl
    · have hgf : grd xs (plcL a 10) = false := by simpa using hg
      rw [hgf, if_neg (by decide)]
      rw [if_neg hg] at hEG
      repeat' (first | refine zP ?_ | refine zA ?_ | (refine zM ?_; intro _ _) | refine zX ?_ | (refine zC ?_; intro _ _ _ _) | (refine zS ?_; intro _ _) | (apply Ws <;> intro hg))
      refine WR.op (by first | exact gN | exact gS rfl) rfl (neB' (a := false) (b := false) rfl rfl) ?_
      repeat' (first | refine zP ?_ | refine zA ?_ | (refine zM ?_; intro _ _) | refine zX ?_ | (refine zC ?_; intro _ _ _ _) | (refine zS ?_; intro _ _) | refine zO ?_ | (apply Ws <;> intro hg))
      refine WR.call (by first | exact gN | exact gS rfl) rfl rfl (apartS_fs hH10 h10 hShY hb2) ?_
      rintro _ H11 ⟨rfl, n11, hn11, hH11⟩
      clear hH10
      by_cases hp : apt xs (plcL b 10) = true
      · rw [hp]
        rw [if_pos rfl]
        refine WR.op (by first | exact gN | exact gS rfl) rfl (neB' (a := true) (b := true) rfl rfl) ?_
        repeat' (first | refine zP ?_ | refine zA ?_ | (refine zM ?_; intro _ _) | refine zX ?_ | (refine zC ?_; intro _ _ _ _) | (refine zS ?_; intro _ _) | refine zO ?_ | (apply Ws <;> intro hg))
        refine WR.op (by first | exact gN | exact gS rfl) rfl (OpV.conv u16k uk rfl (c := (two : Int)) (wrap_cap h2c)) ?_
        repeat' (first | refine zP ?_ | refine zA ?_ | (refine zM ?_; intro _ _) | refine zX ?_ | (refine zC ?_; intro _ _ _ _) | (refine zS ?_; intro _ _) | (apply Ws <;> intro hg))
        refine WR.op (by first | exact gN | exact gS rfl) rfl (OpV.conv i64k uk rfl (c := (xs.length : Int)) (wrap_cap hlc)) ?_
        refine WR.op (by first | exact gN | exact gS rfl) rfl (OpV.rem rfl rfl (by omega) (by omega)) ?_
        rw [show (two : Int) % ((xs.length : Nat) : Int) = ((two % xs.length : Nat) : Int) by simp]
        generalize two % xs.length = q at hq ⊢
        have hq2 : 2 ^ q < 1024 := by show 2 ^ q < 2 ^ 10; exact Nat.pow_lt_pow_right (by omega) (by omega)
        have hqn : 2 ^ q < 2 ^ xs.length := Nat.pow_lt_pow_right (by omega) hq
        refine WR.op (by first | exact gN | exact gS rfl) rfl (OpV.shl1 rfl rfl (by show q ≤ 64; omega) (lt64 hq2)) ?_
        refine WR.op (by first | exact gN | exact gS rfl) rfl (OpV.orN rfl rfl (lt64 ha10) (lt64 hq2)) ?_
        have hmo : a ||| 2 ^ q < 2 ^ xs.length := Nat.or_lt_two_pow ha hqn
        have hmo10 : a ||| 2 ^ q < 1024 := by omega
        repeat' (first | refine zP ?_ | refine zA ?_ | (refine zM ?_; intro _ _) | refine zX ?_ | (refine zC ?_; intro _ _ _ _) | (refine zS ?_; intro _ _) | refine zO ?_ | (apply Ws <;> intro hg))
        refine WR.call (by first | exact gN | exact gS rfl) rfl rfl (members_fs hH11 ha10) ?_
        rintro v131 H14 ⟨M14, n14, hO14, hn14, hH14⟩
        repeat' (first | refine zP ?_ | refine zA ?_ | (refine zM ?_; intro _ _) | refine zX ?_ | (refine zC ?_; intro _ _ _ _) | (refine zS ?_; intro _ _) | refine zO ?_ | (apply Ws <;> intro hg))
        refine WR.bldS (by first | exact gN | exact gS rfl) rfl hH14 (vs := [(0, .int .i64 (xs.length : Int))]) rfl (cs := [.int .i64 (xs.length : Int)]) (by rfl) rfl fun H15 hH15 => ?_
        refine WR.append (M' := M14 ++ Y2) (k := 1) (new := [.int .i64 (xs.length : Int)]) (y := .slice (some ⟨n14, 0, some 0⟩) 1 (2 * 1 + 1)) (by first | exact gN | exact gS rfl) rfl rfl rfl hO14 hH15 (List.sublist_cons_self _ _) (List.Perm.refl _) rfl (by have := hH15.readN (b := n14) (u := 0) (lo := 0) (o := 0) (k := 1 * 1) (.head _) (.row _ _ _ _) (Nat.le_refl _) (by simp); simpa [srcCells] using this) rfl (Nat.le_refl _) rfl (Nat.le_refl _) (by decide) (by simp; omega) fun v135 M16 n16 H16 hO16 hH16 hn16 => ?_
        have hS16 : Sl (M16 ++ Y2) 1 v135 (ints (IL (plcL a 10 ++ [xs.length]))) := by
          rw [← nodes_IL, nodes_snoc]; exact hO16.sl _
        refine WR.call (by first | exact gN | exact gS rfl) rfl rfl (Guards_fs hH16 (hSsY.mono fun q hq => List.mem_append_right M16 hq) (by omega) hS16 (by rw [IL_len]; simp; omega)) ?_
        rintro _ H17 ⟨rfl, n17, hn17, hH17⟩
        rw [hEM]
        repeat' (first | refine zP ?_ | refine zA ?_ | (refine zM ?_; intro _ _) | refine zX ?_ | (refine zC ?_; intro _ _ _ _) | (refine zS ?_; intro _ _) | refine zO ?_ | (apply Ws <;> intro hg))
        refine WR.call (by first | exact gN | exact gS rfl) rfl rfl hfin ?_
        rintro _ _ ⟨rfl, rfl⟩
        repeat' (first | refine zP ?_ | refine zA ?_ | (refine zM ?_; intro _ _) | refine zX ?_ | (refine zC ?_; intro _ _ _ _) | (refine zS ?_; intro _ _) | refine zO ?_ | (apply Ws <;> intro hg))
        exact Ends.ret1 rfl rfl
      · have hpf : apt xs (plcL b 10) = false := by simpa using hp
        rw [hpf]
        rw [if_neg (by decide)]
        refine WR.op (by first | exact gN | exact gS rfl) rfl (neB' (a := false) (b := false) rfl rfl) ?_
        repeat' (first | refine zP ?_ | refine zA ?_ | (refine zM ?_; intro _ _) | refine zX ?_ | (refine zC ?_; intro _ _ _ _) | (refine zS ?_; intro _ _) | refine zO ?_ | (apply Ws <;> intro hg))
        refine WR.op (by first | exact gN | exact gS rfl) rfl (OpV.conv u16k uk rfl (c := (two : Int)) (wrap_cap h2c)) ?_
        repeat' (first | refine zP ?_ | refine zA ?_ | (refine zM ?_; intro _ _) | refine zX ?_ | (refine zC ?_; intro _ _ _ _) | (refine zS ?_; intro _ _) | (apply Ws <;> intro hg))
        refine WR.op (by first | exact gN | exact gS rfl) rfl (OpV.conv i64k uk rfl (c := (xs.length : Int)) (wrap_cap hlc)) ?_
        refine WR.op (by first | exact gN | exact gS rfl) rfl (OpV.rem rfl rfl (by omega) (by omega)) ?_
        rw [show (two : Int) % ((xs.length : Nat) : Int) = ((two % xs.length : Nat) : Int) by simp]
        generalize two % xs.length = q at hq ⊢
        have hq2 : 2 ^ q < 1024 := by show 2 ^ q < 2 ^ 10; exact Nat.pow_lt_pow_right (by omega) (by omega)
        have hqn : 2 ^ q < 2 ^ xs.length := Nat.pow_lt_pow_right (by omega) hq
        refine WR.op (by first | exact gN | exact gS rfl) rfl (OpV.shl1 rfl rfl (by show q ≤ 64; omega) (lt64 hq2)) ?_
        refine WR.op (by first | exact gN | exact gS rfl) rfl (OpV.orN rfl rfl (lt64 ha10) (lt64 hq2)) ?_
        have hmo : a ||| 2 ^ q < 2 ^ xs.length := Nat.or_lt_two_pow ha hqn
        have hmo10 : a ||| 2 ^ q < 1024 := by omega
        repeat' (first | refine zP ?_ | refine zA ?_ | (refine zM ?_; intro _ _) | refine zX ?_ | (refine zC ?_; intro _ _ _ _) | (refine zS ?_; intro _ _) | refine zO ?_ | (apply Ws <;> intro hg))
        refine WR.call (by first | exact gN | exact gS rfl) rfl rfl (members_fs hH11 ha10) ?_
        rintro v131 H14 ⟨M14, n14, hO14, hn14, hH14⟩
        repeat' (first | refine zP ?_ | refine zA ?_ | (refine zM ?_; intro _ _) | refine zX ?_ | (refine zC ?_; intro _ _ _ _) | (refine zS ?_; intro _ _) | refine zO ?_ | (apply Ws <;> intro hg))
        refine WR.bldS (by first | exact gN | exact gS rfl) rfl hH14 (vs := [(0, .int .i64 (xs.length : Int))]) rfl (cs := [.int .i64 (xs.length : Int)]) (by rfl) rfl fun H15 hH15 => ?_
        refine WR.append (M' := M14 ++ Y2) (k := 1) (new := [.int .i64 (xs.length : Int)]) (y := .slice (some ⟨n14, 0, some 0⟩) 1 (2 * 1 + 1)) (by first | exact gN | exact gS rfl) rfl rfl rfl hO14 hH15 (List.sublist_cons_self _ _) (List.Perm.refl _) rfl (by have := hH15.readN (b := n14) (u := 0) (lo := 0) (o := 0) (k := 1 * 1) (.head _) (.row _ _ _ _) (Nat.le_refl _) (by simp); simpa [srcCells] using this) rfl (Nat.le_refl _) rfl (Nat.le_refl _) (by decide) (by simp; omega) fun v135 M16 n16 H16 hO16 hH16 hn16 => ?_
        have hS16 : Sl (M16 ++ Y2) 1 v135 (ints (IL (plcL a 10 ++ [xs.length]))) := by
          rw [← nodes_IL, nodes_snoc]; exact hO16.sl _
        refine WR.call (by first | exact gN | exact gS rfl) rfl rfl (Guards_fs hH16 (hSsY.mono fun q hq => List.mem_append_right M16 hq) (by omega) hS16 (by rw [IL_len]; simp; omega)) ?_
        rintro _ H17 ⟨rfl, n17, hn17, hH17⟩
        rw [hEM]
        repeat' (first | refine zP ?_ | refine zA ?_ | (refine zM ?_; intro _ _) | refine zX ?_ | (refine zC ?_; intro _ _ _ _) | (refine zS ?_; intro _ _) | refine zO ?_ | (apply Ws <;> intro hg))
        refine WR.call (by first | exact gN | exact gS rfl) rfl rfl hfin ?_
        rintro _ _ ⟨rfl, rfl⟩
        repeat' (first | refine zP ?_ | refine zA ?_ | (refine zM ?_; intro _ _) | refine zX ?_ | (refine zC ?_; intro _ _ _ _) | (refine zS ?_; intro _ _) | refine zO ?_ | (apply Ws <;> intro hg))
        exact Ends.ret1 rfl rfl
end
end Go.Proofs.YtcfffhkabhmkmaaDoor.Ps
