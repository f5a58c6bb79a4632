/- Texts of the law, joined. -/
import Derived.Test.YtnmlfjohoeebiaaJ2
import Derived.Test.YtnmlfjohoeebiaaJ1
/- How inspectors divide the stretches: the first list of the fewest. -/
namespace Go.Abs
set_option linter.unusedSectionVars false
variable [Globs]
open Go
section
variable {C : CW} {ro : Option Nat} {fn : FuncId} {nt : Nat} {L : Env} {D : List Nat} {H : Heap} {K : Ex → St → Prop}
/-- A body with labels to which nothing goes. -/
def scopeK (K : Ex → St → Prop) : Ex → St → Prop
  | .goto _, _ => False
  | e, s => K e s
theorem WC.scope {b : PC} (h : WC C ro fn nt b L D H (scopeK K)) : WC C ro fn nt (.scope b) L D H K := by
  intro t ht
  obtain ⟨n, e, s1, h1, h2⟩ := h t ht
  cases e with
  | goto l => exact h2.elim
  | normal => exact ⟨n, _, s1, by simp only [stepC, h1, scopeC], h2⟩
  | ret => exact ⟨n, _, s1, by simp only [stepC, h1, scopeC], h2⟩
  | exit j => exact ⟨n, _, s1, by simp only [stepC, h1, scopeC], h2⟩
theorem Ends.scope_ret (h : Ends K .ret L D H) : Ends (scopeK K) .ret L D H := h
theorem Ends.scope (h : Ends K .normal L D H) : Ends (scopeK K) .normal L D H := h
end
end Go.Abs
namespace Go.Proofs.Ytnmlfjohoeebiaa.Wk
open Go Go.Abs Go.Mth
set_option linter.unusedVariables false
set_option linter.unusedSimpArgs false
theorem pow_bd {g m : Nat} (hg : g ≤ 4) (hm : m ≤ 4) : g ^ m ≤ 256 :=
  Nat.le_trans (Nat.pow_le_pow_left hg m) (Nat.le_trans (Nat.pow_le_pow_right (by omega) hm) (by decide))
theorem not_full {T : List Int} (hT : TOK T) (h1 : 1 ≤ T.length) (h : ∀ i, i < T.length ^ T.length → validB T T.length (divK T.length T.length i) = false) : False := by
  obtain ⟨k, hk, he⟩ := divK_all (n := T.length) h1 T.length (o := List.range T.length) (by simp) (fun x hx => List.mem_range.1 hx)
  have := h k hk
  rw [he, valid_id hT (fun i hi => by rw [getD_eq (by simpa using hi)]; simp)] at this
  cases this
def grpE (T : List Int) : Int := errT T
attribute [local irreducible] gOK WS WC WR WD Ends FS YS OpV seqK blockK loopK midK retK rdK asgK rangeEnd sat Cell
section
variable {M : HL} {n0 : Nat} {H : Heap} {v w : Value}
set_option maxHeartbeats 1000000 in
theorem divide_fs (hH : hasH M n0 H) {T : List Int} (hS : Sl M 1 v (ints T)) (hT : TOK T) (h1 : 1 ≤ T.length) :
    FS C 71 [v] H (fun e H' => ∃ r g k n', e = .slice (some ⟨r, 0, some 0⟩) T.length (2 * T.length + 1) ∧ FirstG T g k ∧ n0 ≤ n' ∧ hasH ((r, .row 3 0 0 (nodes (divK g T.length k))) :: M) n' H') := by
  have hTl := hT.len
  refine FS.intro (pf := pf71) rfl rfl rfl ?_
  repeat' (first | refine zP ?_ | refine zA ?_ | (refine zM ?_; intro _ _) | refine zX ?_ | (refine zC ?_; intro _ _ _ _) | (refine zS ?_; intro _ _) | (apply Ws <;> intro hg))
  refine WC.scope ?_
  repeat' (first | refine zP ?_ | refine zA ?_ | (refine zM ?_; intro _ _) | refine zX ?_ | (refine zC ?_; intro _ _ _ _) | (refine zS ?_; intro _ _) | (apply Ws <;> intro hg))
  refine WR.mkS (m := T.length) (by first | exact gN | exact gS rfl) rfl hH rfl rfl (by omega) rfl fun H2 hH2 => ?_
  obtain ⟨m, hm⟩ : ∃ m, T.length = m := ⟨_, rfl⟩
  rw [hm] at h1 hTl
  have hz : divK 1 m 0 = List.replicate m 0 := divK_zero m
  replace hH2 : hasH ((n0, .row 3 0 0 (nodes (divK 1 m 0))) :: M) (n0 + 1) H2 := by rw [hz, nodes, List.map_replicate, ← hm]; exact hH2
  repeat' (first | refine zP ?_ | refine zA ?_ | (refine zM ?_; intro _ _) | refine zX ?_ | (refine zC ?_; intro _ _ _ _) | (refine zS ?_; intro _ _) | (apply Ws <;> intro hg))
  rw [hm]
  refine WC.loopX [(0, v), (3, .slice (some ⟨n0, 0, some 0⟩) m (2 * m + 1))] (fun s : GS => [(4, .int .i64 (s.g : Int))]) []
    (fun s H' => 1 ≤ s.g ∧ s.g ≤ m ∧ s.k < s.g ^ m ∧ (∀ i, i < s.k → validB T s.g (divK s.g m i) = false) ∧ (∀ f, 1 ≤ f → f < s.g → ∀ i, i < f ^ m → validB T f (divK f m i) = false) ∧ n0 + 1 ≤ s.n ∧ hasH ((n0, .row 3 0 0 (nodes (divK s.g m s.k))) :: M) s.n H')
    (fun s => (5 - s.g) * 300 + (300 - s.k)) ⟨1, 0, n0 + 1⟩ (by repeat' (first | exact .nil | refine .cons rfl ?_)) rfl ⟨Nat.le_refl _, h1, by simp, fun i h => absurd h (Nat.not_lt_zero _), fun f h1 h2 => absurd h2 (by simp only; omega), Nat.le_refl _, hH2⟩ ?_
  clear hH hH2 hz
  rintro ⟨g, k, n1⟩ H3 ⟨hg1, hgm, hk, hno, hfew, hn1, hH3⟩
  simp only at hg1 hgm hk hno hfew hn1 hH3
  have hpb := pow_bd (g := g) (m := m) (by omega) hTl
  have hdl := divK_len g m k
  have hSL : Sl ((n0, Ch.row 3 0 0 (nodes (divK g m k))) :: M) 1 (.slice (some ⟨n0, 0, some 0⟩) m (2 * m + 1)) (nodes (divK g m k)) :=
    .row (lo := 0) (cs := nodes (divK g m k)) (.head _) (.row _ _ _ _) (Nat.zero_le _) (by simp [hdl]) (by rw [Nat.sub_zero, List.drop_zero, List.take_length]) (by simp) (.inr ⟨m, rfl, Nat.le_refl _⟩)
  dsimp only [List.cons_append, List.nil_append]
  repeat' (first | refine zP ?_ | refine zA ?_ | (refine zM ?_; intro _ _) | refine zX ?_ | (refine zC ?_; intro _ _ _ _) | (refine zS ?_; intro _ _) | (apply Ws <;> intro hg))
  refine WR.call (by first | exact gN | exact gS rfl) rfl rfl (each_fs hH3 hS.cons hT hSL (by omega) (g := g) (by omega)) ?_
  rintro _ H4 ⟨n4, hn4, hH4, rfl⟩
  clear hH3
  cases hv : validB T g (divK g m k) with
  | true =>
    repeat' (first | refine zP ?_ | refine zA ?_ | (refine zM ?_; intro _ _) | refine zX ?_ | (refine zC ?_; intro _ _ _ _) | (refine zS ?_; intro _ _) | (apply Ws <;> intro hg))
    refine Ends.scope_ret (Ends.ret1 rfl ⟨n0, g, k, n4, rfl, ?_, by omega, hH4⟩)
    subst hm
    exact ⟨hg1, hgm, hk, hv, hno, hfew⟩
  | false =>
    have hno2 : ∀ i, i < k + 1 → validB T g (divK g m i) = false := fun i hi => by
      rcases Nat.lt_or_ge i k with h | h
      · exact hno i h
      · rw [show i = k by omega]; exact hv
    repeat' (first | refine zP ?_ | refine zA ?_ | (refine zM ?_; intro _ _) | refine zX ?_ | (refine zC ?_; intro _ _ _ _) | (refine zS ?_; intro _ _) | (apply Ws <;> intro hg))
    refine WC.loopX [(0, v), (3, .slice (some ⟨n0, 0, some 0⟩) m (2 * m + 1)), (4, .int .i64 (g : Int))] (fun s : TK => [(5, .int .i64 ((m : Int) - 1 - (s.t : Int)))]) []
      (fun s H' => Carry g m k s.t s.K ∧ hasH ((n0, .row 3 0 0 (nodes (carryL g m s.t s.K))) :: M) n4 H') (fun s => m - s.t) ⟨0, k⟩ (by refine .cons ?_ (by repeat' (first | exact .nil | refine .cons rfl ?_)); simp; rfl) rfl ⟨Carry.start g m k, by simpa [carryL] using hH4⟩ ?_
    clear hH4 hSL
    rintro ⟨t, K⟩ H5 ⟨hC, hH5⟩
    simp only at hC hH5
    have htm := hC.tm
    have hcl := carryL_len (n := g) (K := K) htm
    dsimp only [List.cons_append, List.nil_append]
    repeat' (first | refine zP ?_ | refine zA ?_ | (refine zM ?_; intro _ _) | refine zX ?_ | (refine zC ?_; intro _ _ _ _) | (refine zS ?_; intro _ _) | (apply Ws <;> intro hg))
    refine WC.condP rfl (fun hge => ?_) (fun hge => ?_)
    · have ht : t < m := by omega
      have hgd := carryL_get (n := g) (K := K) ht
      have hKm := Nat.mod_lt K (show 0 < g by omega)
      rw [show (m : Int) - 1 - (t : Int) = ((m - 1 - t : Nat) : Int) by omega]
      by_cases hc : K % g + 1 < g
      · have hset := carryL_set (n := g) (m := m) (t := t) (K := K) (x := K % g + 1) ht
        rw [← hC.done ht hc] at hset
        have hmore := hC.more ht hc hk
        generalize K % g = x at hc hgd hset hKm ⊢
        have hlI : (nodes (carryL g m t K)).length = m := by simp [hcl]
        repeat' (first | refine zP ?_ | refine zA ?_ | (refine zM ?_; intro _ _) | refine zX ?_ | (refine zC ?_; intro _ _ _ _) | (refine zS ?_; intro _ _) | refine zO ?_ | (apply Ws <;> intro hg))
        rename_i H8 hH8
        rw [hgd, hset] at hH8
        exact Ends.loop ⟨g, k + 1, n4⟩ (by simp only; omega) (by repeat' (first | exact .nil | refine .cons rfl ?_)) rfl ⟨hg1, hgm, hmore, hno2, hfew, by simp only; omega, hH8⟩
      · have hnext := carryL_next (n := g) (m := m) (t := t) (K := K) ht
        have hC2 := hC.step hg1 ht hc
        generalize K % g = x at hc hgd hKm ⊢
        have hlI : (nodes (carryL g m t K)).length = m := by simp [hcl]
        repeat' (first | refine zP ?_ | refine zA ?_ | (refine zM ?_; intro _ _) | refine zX ?_ | (refine zC ?_; intro _ _ _ _) | (refine zS ?_; intro _ _) | refine zO ?_ | (apply Ws <;> intro hg))
        rename_i H8 hH8
        rw [hnext] at hH8
        rw [show ((m - 1 - t : Nat) : Int) - 1 = (m : Int) - 1 - ((t + 1 : Nat) : Int) by omega]
        exact Ends.loop ⟨t + 1, K / g⟩ (by simp only; omega) (by repeat' (first | exact .nil | refine .cons rfl ?_)) rfl ⟨hC2, hH8⟩
    · have ht : t = m := by omega
      subst ht
      have hend := hC.end_ hk hg1
      have hgt : g ≠ t := fun e => by
        subst e
        rw [← hm] at hno2 hend
        exact not_full hT (by omega) fun i hi => hno2 i (by omega)
      have hp0 : 0 < (g + 1) ^ t := Nat.pow_pos (by omega)
      repeat' (first | refine zP ?_ | refine zA ?_ | (refine zM ?_; intro _ _) | refine zX ?_ | (refine zC ?_; intro _ _ _ _) | (refine zS ?_; intro _ _) | (apply Ws <;> intro hg))
      refine Ends.loop ⟨g + 1, 0, n4⟩ (by simp only; omega) (by repeat' (first | exact .nil | refine .cons rfl ?_)) rfl ⟨by simp only; omega, by simp only; omega, hp0, fun i h => absurd h (Nat.not_lt_zero _), fun f hf1 hf2 i hi => ?_, by simp only; omega, ?_⟩
      · simp only at hf2
        rcases Nat.lt_or_ge f g with h | h
        · exact hfew f hf1 h i hi
        · have : f = g := by omega
          subst this
          exact hno2 i (by omega)
      · show hasH ((n0, .row 3 0 0 (nodes (divK (g + 1) t 0))) :: M) n4 H5
        rw [divK_zero]
        have : carryL g t t K = List.replicate t 0 := by simp [carryL, divK]
        rw [this] at hH5
        exact hH5
theorem Groups_fs (hH : hasH M n0 H) {T : List Int} (hS : Sl M 1 v (ints T)) (hTl : T.length ≤ 1000) :
    FS C 36 [v] H (fun e H' => ∃ u l Mx n', e = .tuple #[u, .int .i64 (errT T)] ∧ Own 3 1 u (nodes l) Mx ∧ n0 ≤ n' ∧ hasH (Mx ++ M) n' H' ∧ ((errT T ≠ 0 ∧ l = []) ∨ (errT T = 0 ∧ ∃ g k, FirstG T g k ∧ l = divK g T.length k))) := by
  have hv := hS.one_
  refine FS.intro (pf := pf36) rfl rfl rfl ?_
  repeat' (first | refine zP ?_ | refine zA ?_ | (refine zM ?_; intro _ _) | refine zX ?_ | (refine zC ?_; intro _ _ _ _) | (refine zS ?_; intro _ _) | (apply Ws <;> intro hg))
  refine WR.call (by first | exact gN | exact gS rfl) rfl rfl (Check_fs hH hS hTl) ?_
  rintro _ _ ⟨rfl, rfl⟩
  by_cases h0 : errT T = 0
  · obtain ⟨hT, h1⟩ := errT_ok h0
    repeat' (first | refine zP ?_ | refine zA ?_ | (refine zM ?_; intro _ _) | refine zX ?_ | (refine zC ?_; intro _ _ _ _) | (refine zS ?_; intro _ _) | refine zO ?_ | (apply Ws <;> intro hg))
    refine WR.call (by first | exact gN | exact gS rfl) rfl rfl (divide_fs hH hS hT h1) ?_
    rintro _ H1 ⟨r, g, k, n1, rfl, hF, hn1, hH1⟩
    repeat' (first | refine zP ?_ | refine zA ?_ | (refine zM ?_; intro _ _) | refine zX ?_ | (refine zC ?_; intro _ _ _ _) | (refine zS ?_; intro _ _) | (apply Ws <;> intro hg))
    have hdl := divK_len g T.length k
    exact Ends.ret2 rfl rfl ⟨_, divK g T.length k, [(r, .inp 3 0 0 (nodes (divK g T.length k)))], n1, by rw [h0], .full (by simp [hdl]) (by rw [List.all_eq_true]; intro q hq; obtain ⟨z, _, rfl⟩ := List.mem_map.1 hq; rfl), hn1, hH1.asInp .here, .inr ⟨h0, g, k, hF, rfl⟩⟩
  · repeat' (first | refine zP ?_ | refine zA ?_ | (refine zM ?_; intro _ _) | refine zX ?_ | (refine zC ?_; intro _ _ _ _) | (refine zS ?_; intro _ _) | refine zO ?_ | (apply Ws <;> intro hg))
    exact Ends.ret2 rfl rfl ⟨_, [], [], n0, rfl, .nil, Nat.le_refl _, hH, .inl ⟨h0, rfl⟩⟩
end
end Go.Proofs.Ytnmlfjohoeebiaa.Wk

/- The law WalkEven. -/
namespace Go.Proofs.Ytnmlfjohoeebiaa.Wk
open Go Go.Abs Go.Mth
set_option linter.unusedVariables false
set_option linter.unusedSimpArgs false
def evF (r y : Nat) : Nat := if 4 < r then [1, 2, 6, 6].getD (y % 4) 0 else if r = 4 then [1, 3, 3, 6].getD (y % 4) 0 else 2 ^ (y % 4)
def evT (r : Nat) (ys : List Nat) (n : Nat) : List Nat := (List.range n).map fun i => evF r (ys.getD i 0)
attribute [local irreducible] gOK WS WC WR WD Ends FS YS OpV seqK blockK loopK midK retK rdK asgK rangeEnd sat Cell
section
variable {M : HL} {n0 : Nat} {H : Heap} {v w : Value}
end
end Go.Proofs.Ytnmlfjohoeebiaa.Wk

/- The law WalkWalked. -/
namespace Go.Proofs.Ytnmlfjohoeebiaa.Wk
open Go Go.Abs Go.Mth
set_option linter.unusedVariables false
set_option linter.unusedSimpArgs false
theorem bytes_nat {zs : List Int} (h : ∀ z ∈ zs, 0 ≤ z ∧ z ≤ 255) : ∃ ys : List Nat, zs.map (Value.int .u8) = numsK .u8 ys ∧ ys.length = zs.length ∧ ∀ y ∈ ys, y ≤ 255 := by
  refine ⟨zs.map Int.toNat, ?_, by simp, fun y hy => ?_⟩
  · rw [numsK, List.map_map]
    refine List.map_congr_left fun z hz => ?_
    show Value.int .u8 z = Value.int .u8 ((z.toNat : Nat) : Int)
    rw [Int.toNat_of_nonneg (h z hz).1]
  · obtain ⟨z, hz, rfl⟩ := List.mem_map.1 hy
    have := h z hz
    omega
def modF (N y : Nat) : Nat := y % N
theorem numsK_one (kk : IntKind) (l : List Nat) : (numsK kk l).all one = true := by
  rw [List.all_eq_true]; intro q hq; obtain ⟨z, _, rfl⟩ := List.mem_map.1 hq; rfl
theorem made_ok {ys : List Nat} {most n : Nat} (hn : n ≤ 4) (ho : 1 ≤ most ∧ most ≤ 8) : TOK (firstT (madeF most) ys n) :=
  firstT_ok hn fun y => by
    have := Nat.mod_lt y (show 0 < most by omega)
    unfold madeF; omega
attribute [local irreducible] gOK WS WC WR WD Ends FS YS OpV seqK blockK loopK midK retK rdK asgK rangeEnd sat Cell
section
variable {M : HL} {n0 : Nat} {H : Heap} {v w : Value}
end
end Go.Proofs.Ytnmlfjohoeebiaa.Wk

/- Other numbers of stretches, a greater number, a stretch less. -/
namespace Go.Proofs.Ytnmlfjohoeebiaa.Wk
open Go Go.Abs Go.Mth
set_option linter.unusedVariables false
set_option linter.unusedSimpArgs false
/-- Stretches with names. -/
abbrev NmT := List (Int × Int)
structure NmW (P : NmT) (W : List Int) : Prop where
  nd : (P.map (·.1)).Nodup
  mem : ∀ x ∈ W, x ∈ P.map (·.1)
  win : ∀ p ∈ P, ∀ f, f + p.2.toNat ≤ W.length → p.1 ∈ (W.drop f).take p.2.toNat
def canN (T : List Int) (k : Nat) : Prop := ∃ P W, P.map (·.2) = T ∧ W.length = k ∧ NmW P W
theorem canS_go {T : List Int} : ∀ {k : Nat} {s : List Int}, canS T k s ↔ ∃ W, W.length = k ∧ WOK T.length W ∧ goS T s W ≠ none
  | 0, s => ⟨fun _ => ⟨[], rfl, fun x hx => (by cases hx), by simp [goS]⟩, fun _ => trivial⟩
  | k + 1, s => by
    constructor
    · rintro ⟨j, h1, h2, h3⟩
      obtain ⟨W, h4, h5, h6⟩ := canS_go.1 h3
      refine ⟨(j : Int) :: W, by simp [h4], fun x hx => ?_, ?_⟩
      · rcases List.mem_cons.1 hx with rfl | hx
        · omega
        · exact h5 x hx
      · simp only [goS, Int.toNat_natCast]; rw [if_pos h2]; exact h6
    · rintro ⟨W, h4, h5, h6⟩
      cases W with
      | nil => simp at h4
      | cons x W =>
        have hx := h5 x (List.mem_cons_self ..)
        simp only [goS] at h6
        split at h6
        · rename_i hg
          exact ⟨x.toNat, by omega, hg, canS_go.2 ⟨W, by simpa using h4, fun y hy => h5 y (List.mem_cons_of_mem _ hy), h6⟩⟩
        · exact absurd rfl h6
theorem canS_good {T : List Int} (hT : TOK T) {k : Nat} : canS T k (startS T) ↔ ∃ W, W.length = k ∧ WOK T.length W ∧ GoodW T W := by
  rw [canS_go]
  constructor
  · rintro ⟨W, h1, h2, h3⟩
    refine ⟨W, h1, h2, ?_⟩
    rcases go_good hT h2 with ⟨h4, _⟩ | ⟨h4, _⟩
    · exact absurd h4 h3
    · exact h4
  · rintro ⟨W, h1, h2, h3⟩
    refine ⟨W, h1, h2, ?_⟩
    rcases go_good hT h2 with ⟨_, h4⟩ | ⟨_, s, h4, _⟩
    · exact absurd h3 h4
    · rw [h4]; simp
def zipI : Nat → List Int → NmT
  | _, [] => []
  | i, t :: T => ((i : Int), t) :: zipI (i + 1) T
theorem zipI_snd : ∀ (T : List Int) (i : Nat), (zipI i T).map (·.2) = T
  | [], _ => rfl
  | t :: T, i => by simp [zipI, zipI_snd T]
theorem zipI_mem : ∀ {T : List Int} {i : Nat} {p : Int × Int}, p ∈ zipI i T ↔ ∃ k, k < T.length ∧ p = (((i + k : Nat) : Int), T.getD k 0)
  | [], i, p => by simp [zipI]
  | t :: T, i, p => by
    simp only [zipI, List.mem_cons, zipI_mem]
    constructor
    · rintro (h | ⟨k, h1, h2⟩)
      · exact ⟨0, by simp, by simpa using h⟩
      · exact ⟨k + 1, by simpa using h1, by rw [h2, show i + 1 + k = i + (k + 1) by omega]; rfl⟩
    · rintro ⟨k, h1, h2⟩
      cases k with
      | zero => exact .inl (by simpa using h2)
      | succ k => exact .inr ⟨k, by simpa using h1, by rw [h2, show i + 1 + k = i + (k + 1) by omega]; rfl⟩
theorem zipI_nd : ∀ (T : List Int) (i : Nat), ((zipI i T).map (·.1)).Nodup
  | [], _ => by simp [zipI]
  | t :: T, i => by
    simp only [zipI, List.map_cons, List.nodup_cons]
    refine ⟨fun h => ?_, zipI_nd T _⟩
    obtain ⟨p, hp, he⟩ := List.mem_map.1 h
    obtain ⟨k, _, rfl⟩ := zipI_mem.1 hp
    simp only at he
    omega
theorem canN_of {T : List Int} (hT : TOK T) {k : Nat} (h : canS T k (startS T)) : canN T k := by
  obtain ⟨W, h1, h2, h3⟩ := (canS_good hT).1 h
  refine ⟨zipI 0 T, W, zipI_snd T 0, h1, zipI_nd T 0, fun x hx => ?_, fun p hp f hf => ?_⟩
  · have := h2 x hx
    exact List.mem_map.2 ⟨_, zipI_mem.2 ⟨x.toNat, by omega, rfl⟩, by simp only; omega⟩
  · obtain ⟨i, hi, rfl⟩ := zipI_mem.1 hp
    have := h3 i hi f hf
    simpa using this
/-- Names become places. -/
theorem canN_to {T : List Int} (hT : TOK T) {k : Nat} (h : canN T k) : canS T k (startS T) := by
  obtain ⟨P, W, hP, hk, hN⟩ := h
  have hl : P.length = T.length := by rw [← hP, List.length_map]
  let pos : Int → Int := fun x => (((P.map (·.1)).idxOf x : Nat) : Int)
  refine (canS_good hT).2 ⟨W.map pos, by simp [hk], fun x hx => ?_, fun i hi f hf => ?_⟩
  · obtain ⟨y, hy, rfl⟩ := List.mem_map.1 hx
    have := List.idxOf_lt_length_of_mem (hN.mem y hy)
    simp only [pos, List.length_map] at this ⊢
    omega
  · have hiP : i < P.length := by omega
    have hti : T.getD i 0 = (P[i]).2 := by rw [← hP, getD_eq (by simpa using hiP), List.getElem_map]
    rw [hti] at hf ⊢
    rw [List.length_map] at hf
    have := hN.win P[i] (List.getElem_mem hiP) f hf
    rw [← List.map_drop, ← List.map_take]
    refine List.mem_map.2 ⟨_, this, ?_⟩
    simp only [pos]
    have h9 := hN.nd.idxOf_getElem i (by simpa using hiP)
    rw [List.getElem_map] at h9
    rw [h9]
theorem map_perm {T T' : List Int} (h : T.Perm T') : ∀ {P : NmT}, P.map (·.2) = T → ∃ P', P.Perm P' ∧ P'.map (·.2) = T' := by
  induction h with
  | nil => intro P hP; exact ⟨P, List.Perm.refl _, hP⟩
  | @cons x l l' _ ih =>
    intro P hP
    cases P with
    | nil => cases hP
    | cons p P =>
      simp only [List.map_cons, List.cons.injEq] at hP
      obtain ⟨P', h1, h2⟩ := ih hP.2
      exact ⟨p :: P', h1.cons p, by simp [h2, hP.1]⟩
  | swap x y l =>
    intro P hP
    match P, hP with
    | [], hP => cases hP
    | [_], hP => simp at hP
    | p :: q :: P, hP =>
      simp only [List.map_cons, List.cons.injEq] at hP
      exact ⟨q :: p :: P, List.Perm.swap _ _ _, by simp [hP.1, hP.2.1, hP.2.2]⟩
  | trans _ _ ih1 ih2 =>
    intro P hP
    obtain ⟨P1, h1, h2⟩ := ih1 hP
    obtain ⟨P2, h3, h4⟩ := ih2 h2
    exact ⟨P2, h1.trans h3, h4⟩
theorem NmW.perm {P P' : NmT} {W : List Int} (h : NmW P W) (k : P.Perm P') : NmW P' W :=
  ⟨(k.map _).nodup_iff.1 h.nd, fun x hx => (k.map _).mem_iff.1 (h.mem x hx), fun p hp => h.win p (k.mem_iff.2 hp)⟩
theorem can_perm {T T' : List Int} (hT : TOK T) (hT' : TOK T') (h : T.Perm T') {k : Nat} (hc : canS T k (startS T)) : canS T' k (startS T') := by
  obtain ⟨P, W, hP, hk, hN⟩ := canN_of hT hc
  obtain ⟨P', h1, h2⟩ := map_perm h hP
  exact canN_to hT' ⟨P', W, h2, hk, hN.perm h1⟩
theorem can_perm_iff {T T' : List Int} (hT : TOK T) (hT' : TOK T') (h : T.Perm T') (k : Nat) : canS T k (startS T) ↔ canS T' k (startS T') := ⟨can_perm hT hT' h, can_perm hT' hT h.symm⟩
theorem ever_perm {T T' : List Int} (hT : TOK T) (hT' : TOK T') (h : T.Perm T') : everB T (startS T) = everB T' (startS T') := by
  rw [Bool.eq_iff_iff, everB_true, everB_true]
  exact ⟨fun h2 k => (can_perm_iff hT hT' h k).1 (h2 k), fun h2 k => (can_perm_iff hT hT' h k).2 (h2 k)⟩
/-- Greater numbers. -/
theorem can_more {T T' : List Int} (hT : TOK T) (hT' : TOK T') (hl : T.length = T'.length) (h : ∀ i, i < T.length → T.getD i 0 ≤ T'.getD i 0) {k : Nat} (hc : canS T k (startS T)) : canS T' k (startS T') := by
  obtain ⟨W, h1, h2, h3⟩ := (canS_good hT).1 hc
  refine (canS_good hT').2 ⟨W, h1, by rw [← hl]; exact h2, fun i hi f hf => ?_⟩
  have hle := h i (by omega)
  have h0 := hT.lo i (by omega)
  obtain ⟨j, h4, h5, h6⟩ := (mem_cut (by omega)).1 (h3 i (by omega) f (by omega))
  exact (mem_cut hf).2 ⟨j, h4, by omega, h6⟩
/-- A stretch less. -/
theorem can_less {t : Int} {T : List Int} (hT : TOK (t :: T)) (hT' : TOK T) (h1 : 1 ≤ T.length) {k : Nat} (hc : canS (t :: T) k (startS (t :: T))) : canS T k (startS T) := by
  obtain ⟨P, W, hP, hk, hN⟩ := canN_of hT hc
  cases P with
  | nil => cases hP
  | cons p P =>
    simp only [List.map_cons, List.cons.injEq] at hP
    have hnd := hN.nd
    simp only [List.map_cons, List.nodup_cons] at hnd
    obtain ⟨q, hq⟩ : ∃ q, q ∈ P := List.exists_mem_of_length_pos (by rw [← List.length_map (f := (·.2)), hP.2]; exact h1)
    refine canN_to hT' ⟨P, W.map fun x => if x = p.1 then q.1 else x, hP.2, by simp [hk], hnd.2, fun x hx => ?_, fun r hr f hf => ?_⟩
    · obtain ⟨y, hy, rfl⟩ := List.mem_map.1 hx
      have := hN.mem y hy
      simp only [List.map_cons, List.mem_cons] at this
      split
      · exact List.mem_map.2 ⟨q, hq, rfl⟩
      · rcases this with h | h
        · rename_i hne; exact absurd h hne
        · exact h
    · rw [List.length_map] at hf
      have := hN.win r (List.mem_cons_of_mem _ hr) f hf
      rw [← List.map_drop, ← List.map_take]
      refine List.mem_map.2 ⟨r.1, this, ?_⟩
      rw [if_neg]
      intro h
      exact hnd.1 (h ▸ List.mem_map.2 ⟨r, hr, rfl⟩)
theorem ever_less {t : Int} {T : List Int} (hT : TOK (t :: T)) (hT' : TOK T) (h1 : 1 ≤ T.length) (h : everB (t :: T) (startS (t :: T)) = true) : everB T (startS T) = true :=
  everB_true.2 fun k => can_less hT hT' h1 (everB_true.1 h k)
end Go.Proofs.Ytnmlfjohoeebiaa.Wk

/- As few inspectors: other numbers of stretches, and a stretch less. -/
namespace Go.Proofs.Ytnmlfjohoeebiaa.Wk
open Go Go.Abs Go.Mth
set_option linter.unusedVariables false
set_option linter.unusedSimpArgs false
/-- Stretches with inspectors. -/
abbrev InQ := List (Nat × Int)
def ownQ (Q : InQ) (j : Nat) : List Int := (Q.filter fun q => decide (q.1 = j)).map (·.2)
def validQ (Q : InQ) (g : Nat) : Prop := ∀ j, j < g → everB (ownQ Q j) (startS (ownQ Q j)) = true
def HasG (T : List Int) (g : Nat) : Prop := ∃ Q : InQ, Q.map (·.2) = T ∧ (∀ q ∈ Q, q.1 < g) ∧ validQ Q g
theorem ownQ_mem {Q : InQ} {j : Nat} {x : Int} (h : x ∈ ownQ Q j) : x ∈ Q.map (·.2) := by
  obtain ⟨q, hq, rfl⟩ := List.mem_map.1 h
  exact List.mem_map.2 ⟨q, (List.mem_filter.1 hq).1, rfl⟩
theorem ownQ_len (Q : InQ) (j : Nat) : (ownQ Q j).length ≤ Q.length := by
  unfold ownQ; rw [List.length_map]; exact List.length_filter_le _ _
theorem tok_mem {T : List Int} (hT : TOK T) : ∀ x ∈ T, 1 ≤ x ∧ x ≤ 8 := fun x hx => by
  obtain ⟨i, hi, rfl⟩ := List.mem_iff_getElem.1 hx
  have := hT.mem hi
  rwa [getD_eq hi] at this
theorem ownQ_ok {T : List Int} {Q : InQ} (hT : TOK T) (hQ : Q.map (·.2) = T) (j : Nat) : TOK (ownQ Q j) := by
  have h1 := ownQ_len Q j
  have h2 : Q.length = T.length := by rw [← hQ, List.length_map]
  have h3 := hT.len
  exact tok_of (by omega) fun x hx => tok_mem hT x (by rw [← hQ]; exact ownQ_mem hx)
theorem ownK_zip {T : List Int} {l : List Nat} (hl : l.length = T.length) (j : Nat) : ∀ k, k ≤ T.length → ownK T l j k = ownQ ((l.take k).zip (T.take k)) j
  | 0, _ => by simp [ownK, ownQ]
  | k + 1, hk => by
    have hkT : k < T.length := by omega
    have hkl : k < l.length := by omega
    rw [List.take_succ_eq_append_getElem hkT, List.take_succ_eq_append_getElem hkl, List.zip_append (by simp; omega)]
    simp only [ownK, ownQ, List.filter_append, List.map_append]
    rw [ownK_zip hl j k (by omega), getD_eq hkl, getD_eq hkT]
    by_cases h : l[k] = j
    · rw [if_pos h]; simp [ownQ, h]
    · rw [if_neg h]; simp [ownQ, h]
theorem zip_snd {T : List Int} {l : List Nat} (hl : l.length = T.length) : (l.zip T).map (·.2) = T := by
  have := List.map_snd_zip (l₁ := l) (l₂ := T) (by omega)
  exact this
theorem goJ_zip {T : List Int} {l : List Nat} (hl : l.length = T.length) (j : Nat) : goJ T l j = everB (ownQ (l.zip T) j) (startS (ownQ (l.zip T) j)) := by
  unfold goJ
  rw [ownK_zip hl j _ (Nat.le_refl _), List.take_length, ← hl, List.take_length]
theorem valid_zip {T : List Int} {l : List Nat} (hl : l.length = T.length) (g : Nat) : validB T g l = true ↔ validQ (l.zip T) g := by
  rw [valid_iff]
  exact ⟨fun h j hj => by rw [← goJ_zip hl]; exact h j hj, fun h j hj => by rw [goJ_zip hl]; exact h j hj⟩
theorem FirstG.has {T : List Int} {g k : Nat} (h : FirstG T g k) : HasG T g := by
  have hl := divK_len g T.length k
  refine ⟨(divK g T.length k).zip T, zip_snd hl, fun q hq => ?_, (valid_zip hl g).1 h.ok⟩
  exact divK_lt h.g1 _ _ _ (List.of_mem_zip hq).1
theorem zip_of {Q : InQ} : (Q.map (·.1)).zip (Q.map (·.2)) = Q := by
  induction Q with
  | nil => rfl
  | cons q Q ih => simp [ih]
theorem FirstG.least {T : List Int} {g k f : Nat} (h : FirstG T g k) (hf : 1 ≤ f) (hG : HasG T f) : g ≤ f := by
  refine Nat.le_of_not_lt fun hlt => ?_
  obtain ⟨Q, hQ, hb, hv⟩ := hG
  have hl : (Q.map (·.1)).length = T.length := by rw [← hQ]; simp
  obtain ⟨i, hi, he⟩ := divK_all hf T.length hl fun x hx => by
    obtain ⟨q, hq, rfl⟩ := List.mem_map.1 hx
    exact hb q hq
  have h1 := h.few f hf hlt i hi
  have h2 : validB T f (Q.map (·.1)) = true := (valid_zip hl f).2 (by rw [← hQ, zip_of]; exact hv)
  rw [he, h2] at h1
  cases h1
theorem mapQ_perm {T T' : List Int} (h : T.Perm T') : ∀ {P : InQ}, P.map (·.2) = T → ∃ P', P.Perm P' ∧ P'.map (·.2) = T' := by
  induction h with
  | nil => intro P hP; exact ⟨P, List.Perm.refl _, hP⟩
  | @cons x l l' _ ih =>
    intro P hP
    cases P with
    | nil => cases hP
    | cons p P =>
      simp only [List.map_cons, List.cons.injEq] at hP
      obtain ⟨P', h1, h2⟩ := ih hP.2
      exact ⟨p :: P', h1.cons p, by simp [h2, hP.1]⟩
  | swap x y l =>
    intro P hP
    match P, hP with
    | [], hP => cases hP
    | [_], hP => simp at hP
    | p :: q :: P, hP =>
      simp only [List.map_cons, List.cons.injEq] at hP
      exact ⟨q :: p :: P, List.Perm.swap _ _ _, by simp [hP.1, hP.2.1, hP.2.2]⟩
  | trans _ _ ih1 ih2 =>
    intro P hP
    obtain ⟨P1, h1, h2⟩ := ih1 hP
    obtain ⟨P2, h3, h4⟩ := ih2 h2
    exact ⟨P2, h1.trans h3, h4⟩
theorem has_perm {T T' : List Int} (hT : TOK T) (hT' : TOK T') (h : T.Perm T') {g : Nat} (hg : HasG T g) : HasG T' g := by
  obtain ⟨Q, hQ, hb, hv⟩ := hg
  obtain ⟨Q', h1, h2⟩ := mapQ_perm h hQ
  refine ⟨Q', h2, fun q hq => hb q (h1.mem_iff.2 hq), fun j hj => ?_⟩
  have hp : (ownQ Q j).Perm (ownQ Q' j) := (h1.filter _).map _
  rw [← ever_perm (ownQ_ok hT hQ j) (ownQ_ok hT' h2 j) hp]
  exact hv j hj
theorem first_perm {T T' : List Int} (hT : TOK T) (hT' : TOK T') (h : T.Perm T') {g g' k k' : Nat} (h1 : FirstG T g k) (h2 : FirstG T' g' k') : g = g' :=
  Nat.le_antisymm (h1.least h2.g1 (has_perm hT' hT h.symm h2.has)) (h2.least h1.g1 (has_perm hT hT' h h1.has))
theorem ever_nil : everB [] (startS []) = false := by
  cases h : everB [] (startS []) with
  | false => rfl
  | true =>
    obtain ⟨j, hj, _⟩ := everB_true.1 h 1
    simp at hj
/-- A stretch goes: no more inspectors. -/
theorem has_less {t : Int} {T : List Int} (hT : TOK (t :: T)) (hT' : TOK T) (h1 : 1 ≤ T.length) {g : Nat} (hg : HasG (t :: T) g) : ∃ f, 1 ≤ f ∧ f ≤ g ∧ HasG T f := by
  obtain ⟨Q, hQ, hb, hv⟩ := hg
  cases Q with
  | nil => cases hQ
  | cons q Q =>
    have hQ0 := hQ
    simp only [List.map_cons, List.cons.injEq] at hQ
    obtain ⟨a, t'⟩ := q
    simp only at hQ
    obtain ⟨rfl, hQT⟩ := hQ
    have hag : a < g := hb _ (List.mem_cons_self ..)
    have hne : ∀ j, j ≠ a → ownQ ((a, t') :: Q) j = ownQ Q j := fun j hj => by
      unfold ownQ
      rw [List.filter_cons_of_neg (by simp; exact fun h => hj h.symm)]
    have heq : ownQ ((a, t') :: Q) a = t' :: ownQ Q a := by
      unfold ownQ
      rw [List.filter_cons_of_pos (by simp), List.map_cons]
    by_cases h0 : ownQ Q a = []
    · have hal : ∀ q ∈ Q, q.1 ≠ a := fun q hq e => by
        have : q.2 ∈ ownQ Q a := List.mem_map.2 ⟨q, List.mem_filter.2 ⟨hq, by simpa using e⟩, rfl⟩
        rw [h0] at this; cases this
      let r : Nat × Int → Nat × Int := fun q => (if a < q.1 then q.1 - 1 else q.1, q.2)
      have hown : ∀ j, ownQ (Q.map r) j = ownQ Q (if j < a then j else j + 1) := fun j => by
        unfold ownQ
        rw [List.filter_map, List.map_map]
        have : (Q.filter ((fun q => decide (q.1 = j)) ∘ r)) = Q.filter (fun q => decide (q.1 = if j < a then j else j + 1)) := by
          refine List.filter_congr fun q hq => ?_
          have := hal q hq
          simp only [Function.comp, r]
          rw [decide_eq_decide]
          by_cases h5 : a < q.1
          · rw [if_pos h5]
            by_cases h6 : j < a
            · rw [if_pos h6]; omega
            · rw [if_neg h6]; omega
          · rw [if_neg h5]
            by_cases h6 : j < a
            · rw [if_pos h6]
            · rw [if_neg h6]; omega
        rw [this]; rfl
      have hg1 : 1 ≤ g - 1 := by
        rcases Nat.lt_or_ge 1 g with h | h
        · omega
        · exfalso
          have hg0 : g = 1 := by omega
          obtain ⟨q, hq⟩ : ∃ q, q ∈ Q := List.exists_mem_of_length_pos (by rw [← List.length_map (f := (·.2)), hQT]; exact h1)
          have h7 := hb q (List.mem_cons_of_mem _ hq)
          exact hal q hq (by omega)
      refine ⟨g - 1, hg1, by omega, Q.map r, by rw [List.map_map]; exact hQT, fun q hq => ?_, fun j hj => ?_⟩
      · obtain ⟨p, hp, rfl⟩ := List.mem_map.1 hq
        have h7 := hb p (List.mem_cons_of_mem _ hp)
        have h8 := hal p hp
        simp only [r]
        split <;> omega
      · rw [hown]
        have hj2 : (if j < a then j else j + 1) < g := by split <;> omega
        have hj3 : (if j < a then j else j + 1) ≠ a := by split <;> omega
        rw [← hne _ hj3]
        exact hv _ hj2
    · refine ⟨g, by omega, Nat.le_refl _, Q, hQT, fun q hq => hb q (List.mem_cons_of_mem _ hq), fun j hj => ?_⟩
      by_cases hja : j = a
      · subst hja
        have h9 := hv j hj
        rw [heq] at h9
        have hTo := ownQ_ok hT hQ0 j
        rw [heq] at hTo
        exact ever_less hTo (ownQ_ok hT' hQT j) (List.length_pos_iff.2 h0) h9
      · rw [← hne j hja]; exact hv j hj
theorem first_less {t : Int} {T U : List Int} (hT : TOK U) (hT' : TOK T) (h1 : 1 ≤ T.length) (hp : U.Perm (t :: T)) {g g' k k' : Nat} (hU : FirstG U g k) (hL : FirstG T g' k') : g' ≤ g := by
  have hTt : TOK (t :: T) := tok_of (by rw [← hp.length_eq]; exact hT.len) fun x hx => tok_mem hT x (hp.mem_iff.2 hx)
  obtain ⟨f, h2, h3, h4⟩ := has_less hTt hT' h1 (has_perm hT hTt hp hU.has)
  exact Nat.le_trans (hL.least h2 h4) h3
/-- The last inspector has a stretch. -/
theorem FirstG.max {T : List Int} {g k : Nat} (h : FirstG T g k) : g - 1 ∈ divK g T.length k := by
  have hl := divK_len g T.length k
  have := valid_iff.1 h.ok (g - 1) (by have := h.g1; omega)
  rw [goJ_zip hl] at this
  refine Classical.byContradiction fun hn => ?_
  have h0 : ownQ ((divK g T.length k).zip T) (g - 1) = [] := by
    unfold ownQ
    rw [List.map_eq_nil_iff, List.filter_eq_nil_iff]
    intro q hq
    simp only [decide_eq_true_eq]
    intro e
    exact hn (e ▸ (List.of_mem_zip hq).1)
  rw [h0, ever_nil] at this
  cases this
end Go.Proofs.Ytnmlfjohoeebiaa.Wk

/- The law WalkNamed. -/
namespace Go.Proofs.Ytnmlfjohoeebiaa.Wk
open Go Go.Abs Go.Mth
set_option linter.unusedVariables false
set_option linter.unusedSimpArgs false
theorem swap_perm {ys : List Int} {i k : Nat} (hi : i < ys.length) (hk : k < ys.length) : ((ys.set i (ys.getD k 0)).set k (ys.getD i 0)).Perm ys := by
  rw [getD_eq hk, getD_eq hi]
  exact List.set_set_perm hi hk
theorem erase_perm {T : List Int} {i : Nat} (hi : i < T.length) : T.Perm (T.getD i 0 :: (T.take i ++ T.drop (i + 1))) := by
  have h : T = T.take i ++ T.getD i 0 :: T.drop (i + 1) := by
    rw [getD_eq hi, ← List.drop_eq_getElem_cons hi, List.take_append_drop]
  have h2 : (T.take i ++ T.getD i 0 :: T.drop (i + 1)).Perm (T.getD i 0 :: (T.take i ++ T.drop (i + 1))) := List.perm_middle
  exact (List.Perm.of_eq h).trans h2
structure SW where
  k : Nat
  ys : List Int
attribute [local irreducible] gOK WS WC WR WD Ends FS YS OpV seqK blockK loopK midK retK rdK asgK rangeEnd sat Cell
section
variable {M : HL} {n0 : Nat} {H : Heap} {v w : Value}
theorem Delete_fs {b u o len cp R i j : Nat} {ys : List Int} (hH : hasH ((b, .row 3 u o (ints ys)) :: M) n0 H) (hc : capR cp len R) (hly : len ≤ ys.length) (hij : i < j) (hjl : j ≤ len) (hyl : ys.length ≤ 100000) :
    FS C 49 [.slice (some ⟨b, o, some u⟩) len cp, .int .i64 (i : Int), .int .i64 (j : Int)] H (fun e H' => ∃ zs, e = .slice (some ⟨b, o, some u⟩) (len - (j - i)) (roomCode 1 R) ∧ hasH ((b, .row 3 u o (ints zs)) :: M) n0 H' ∧
      zs.length = ys.length ∧ zs.take (len - (j - i)) = ys.take i ++ (ys.take len).drop j) := by
  have hR := hc.le
  refine FS.intro (pf := pf49) rfl rfl rfl ?_
  repeat' (first | refine zP ?_ | refine zA ?_ | (refine zM ?_; intro _ _) | refine zX ?_ | (refine zC ?_; intro _ _ _ _) | (refine zS ?_; intro _ _) | (apply Ws <;> intro hg))
  refine WR.cutMax (by first | exact gN | exact gS rfl) rfl rfl hc rfl rfl rfl (Nat.le_of_lt hij) hjl (Nat.le_refl _) (by omega) fun v13 => ?_
  repeat' (first | refine zP ?_ | refine zA ?_ | (refine zM ?_; intro _ _) | refine zX ?_ | (refine zC ?_; intro _ _ _ _) | (refine zS ?_; intro _ _) | refine zO ?_ | (apply Ws <;> intro hg))
  refine WR.op (by first | exact gN | exact gS rfl) rfl (OpV.cutPre rfl hc rfl (by omega) (by omega)) ?_
  repeat' (first | refine zP ?_ | refine zA ?_ | (refine zM ?_; intro _ _) | refine zX ?_ | (refine zC ?_; intro _ _ _ _) | (refine zS ?_; intro _ _) | (apply Ws <;> intro hg))
  refine WR.cutSuf (by first | exact gN | exact gS rfl) rfl rfl hc rfl hjl fun cp' => ?_
  refine WR.appendR (M' := (b, .row 3 u o (ints (ys.take i ++ (ys.drop j).take (len - j) ++ ys.drop (i + (len - j))))) :: M) (by first | exact gN | exact gS rfl) rfl rfl rfl hH .here (by omega) (by omega) (by omega) fun H1 hH1 => ?_
  have hl2 : i + (len - j) = len - (j - i) := by omega
  rw [hl2] at hH1 ⊢
  obtain ⟨zs, hzs⟩ : ∃ zs, ys.take i ++ (ys.drop j).take (len - j) ++ ys.drop (len - (j - i)) = zs := ⟨_, rfl⟩
  rw [hzs] at hH1
  have hzl : zs.length = ys.length := by rw [← hzs]; simp; omega
  have hzt : zs.take (len - (j - i)) = ys.take i ++ (ys.take len).drop j := by
    rw [← hzs, List.take_append_of_le_length (by simp; omega), List.take_of_length_le (by simp; omega), List.drop_take]
  repeat' (first | refine zP ?_ | refine zA ?_ | (refine zM ?_; intro _ _) | refine zX ?_ | (refine zC ?_; intro _ _ _ _) | (refine zS ?_; intro _ _) | (apply Ws <;> intro hg))
  refine WR.cutOver (by first | exact gN | exact gS rfl) rfl rfl (by omega) rfl rfl (by omega) (by omega) fun cp2 => ?_
  refine WR.clrI (M' := (b, .row 3 u o (ints (zs.take (len - (j - i)) ++ List.replicate (len - (len - (j - i))) 0 ++ zs.drop (len - (j - i) + (len - (len - (j - i))))))) :: M) (by first | exact gN | exact gS rfl) rfl hH1 .here (by omega) (by omega) fun H2 hH2 => ?_
  repeat' (first | refine zP ?_ | refine zA ?_ | (refine zM ?_; intro _ _) | refine zX ?_ | (refine zC ?_; intro _ _ _ _) | (refine zS ?_; intro _ _) | (apply Ws <;> intro hg))
  refine Ends.ret1 rfl ⟨_, rfl, hH2, by simp; omega, ?_⟩
  rw [List.append_assoc, List.take_append_of_le_length (by simp; omega), List.take_of_length_le (by simp; omega), hzt]

theorem CloneX_fs (hH : hasH M n0 H) {o : List Int} (hS : Sl M 1 v (ints o)) (hx : o.length ≤ 1000) (hx1 : 1 ≤ o.length) :
    FS C 43 [v] H (fun e H' => ∃ b n', e = .slice (some ⟨b, 0, some 0⟩) o.length (2 * 1) ∧ n0 ≤ n' ∧ hasH ((b, .row 3 0 0 (ints o)) :: M) n' H') := by
  have hne : ints o ≠ [] := fun h => by have := List.map_eq_nil_iff.1 h; subst this; simp at hx1
  have hsm : ∃ a len cap, v = .slice (some a) len cap := by
    generalize ints o = cs at hS hne
    cases hS with
    | nil c => exact absurd rfl hne
    | emp a => exact ⟨_, _, _, rfl⟩
    | row => exact ⟨_, _, _, rfl⟩
  obtain ⟨a, len, cap, rfl⟩ := hsm
  refine FS.intro (pf := pf43) rfl rfl rfl ?_
  repeat' (first | refine zP ?_ | refine zA ?_ | (refine zM ?_; intro _ _) | refine zX ?_ | (refine zC ?_; intro _ _ _ _) | (refine zS ?_; intro _ _) | (apply Ws <;> intro hg))
  refine WR.bldS (by first | exact gN | exact gS rfl) rfl hH (vs := []) rfl (cs := []) (by rfl) rfl fun H3 hH3 => ?_
  repeat' (first | refine zP ?_ | refine zA ?_ | (refine zM ?_; intro _ _) | refine zX ?_ | (refine zC ?_; intro _ _ _ _) | (refine zS ?_; intro _ _) | (apply Ws <;> intro hg))
  obtain ⟨hk, hsr⟩ := (hS.cons (p := (n0, .row 3 0 0 []))).src hH3 hne
  rw [show (ints o).length = o.length by simp] at hk
  refine WR.appendNew (by first | exact gN | exact gS rfl) rfl rfl rfl hH3 (.head _) (.row _ _ _ _) (Nat.zero_le _) (Nat.zero_le _) hk (by have := hsr _ (Nat.le_refl _); rw [List.take_length, show (ints o).length = o.length by simp] at this; exact this) (by simp) hx1 (ints_one _) (by omega) (by omega) (by omega) fun H' hH' => ?_
  repeat' (first | refine zP ?_ | refine zA ?_ | (refine zM ?_; intro _ _) | refine zX ?_ | (refine zC ?_; intro _ _ _ _) | (refine zS ?_; intro _ _) | (apply Ws <;> intro hg))
  exact Ends.ret1 rfl ⟨n0 + 1, n0 + 2, rfl, by omega, hH'.sub (.cons_cons _ (List.sublist_cons_self _ _))⟩
theorem Max_fs (hH : hasH M n0 H) {xs : List Int} (hS : Sl M 1 v (ints xs)) (hx : xs.length ≤ 1000) (h1 : 1 ≤ xs.length) :
    FS C 48 [v] H (fun e H' => ∃ m, e = .int .i64 m ∧ m ∈ xs ∧ (∀ x ∈ xs, x ≤ m) ∧ H' = H) := by
  refine FS.intro (pf := pf48) rfl rfl rfl ?_
  repeat' (first | refine zP ?_ | refine zA ?_ | (refine zM ?_; intro _ _) | refine zX ?_ | (refine zC ?_; intro _ _ _ _) | (refine zS ?_; intro _ _) | refine zO ?_ | (apply Ws <;> intro hg))
  refine WC.loopX [(0, v)] (fun s : Nat × Int => [(3, .int .i64 s.2), (4, .int .i64 (s.1 : Int))]) [] (fun s H' => H' = H ∧ 1 ≤ s.1 ∧ s.1 ≤ xs.length ∧ (∃ i, i < s.1 ∧ s.2 = xs.getD i 0) ∧ ∀ j, j < s.1 → xs.getD j 0 ≤ s.2) (fun s => xs.length - s.1) (1, xs.getD 0 0) (by repeat' (first | exact .nil | refine .cons rfl ?_)) rfl
    ⟨rfl, Nat.le_refl _, h1, ⟨0, by simp, rfl⟩, fun j hj => by rw [show j = 0 by simp only at hj; omega]; exact Int.le_refl _⟩ ?_
  rintro ⟨k, m⟩ H' ⟨rfl, hk1, hk, ⟨i, hi, hm⟩, hall⟩
  simp only at hk1 hk hi hm hall
  dsimp only [List.cons_append, List.nil_append]
  repeat' (first | refine zP ?_ | refine zA ?_ | (refine zM ?_; intro _ _) | refine zX ?_ | (refine zC ?_; intro _ _ _ _) | (refine zS ?_; intro _ _) | (apply Ws <;> intro hg))
  refine WC.condP rfl (fun hlt => ?_) (fun hlt => ?_)
  · have hk' : k < xs.length := by omega
    repeat' (first | refine zP ?_ | refine zA ?_ | (refine zM ?_; intro _ _) | refine zX ?_ | (refine zC ?_; intro _ _ _ _) | (refine zS ?_; intro _ _) | (apply Ws <;> intro hg))
    refine Ends.loop (k + 1, max m (xs.getD k 0)) (by simp only; omega) (by repeat' (first | exact .nil | refine .cons rfl ?_)) rfl ⟨rfl, by simp only; omega, hk', ?_, fun j hj => ?_⟩
    · rcases Int.le_total m (xs.getD k 0) with h | h
      · exact ⟨k, by simp only; omega, by simp only; omega⟩
      · exact ⟨i, by simp only; omega, by simp only; omega⟩
    · simp only at hj ⊢
      rcases Nat.lt_or_ge j k with h | h
      · have := hall j h; omega
      · rw [show j = k by omega]; omega
  · have hkn : k = xs.length := by omega
    subst hkn
    repeat' (first | refine zP ?_ | refine zA ?_ | (refine zM ?_; intro _ _) | refine zX ?_ | (refine zC ?_; intro _ _ _ _) | (refine zS ?_; intro _ _) | (apply Ws <;> intro hg))
    refine Ends.ret1 rfl ⟨m, rfl, by rw [hm]; exact getD_mem hi, fun x hx => ?_, rfl⟩
    obtain ⟨j, hj, rfl⟩ := List.mem_iff_getElem.1 hx
    rw [← getD_eq (a := 0) hj]; exact hall j hj
end
/-- The greatest of what is returned. -/
theorem max_first {T : List Int} {g k : Nat} (h : FirstG T g k) {m : Int} (h1 : m ∈ (divK g T.length k).map fun (x : Nat) => (x : Int)) (h2 : ∀ x ∈ (divK g T.length k).map fun (x : Nat) => (x : Int), x ≤ m) : m = (g : Int) - 1 := by
  obtain ⟨x, hx, rfl⟩ := List.mem_map.1 h1
  have h3 := divK_lt h.g1 _ _ x hx
  have h4 := h2 _ (List.mem_map.2 ⟨g - 1, h.max, rfl⟩)
  have := h.g1
  omega
end Go.Proofs.Ytnmlfjohoeebiaa.Wk

/- Rows of elements of several cells each. -/
namespace Go.Abs
set_option linter.unusedSectionVars false
variable [Globs]
open Go Go.Mth
set_option linter.unusedVariables false
def cellsF {α : Type} (F : α → List Value) (l : List α) : List Value := (l.map F).flatten
section
variable {α : Type} {F : α → List Value} {K : Nat}
/-- Several cells, one behind another. -/
def KCell (M : HL) (b o u : Nat) (vs : List Value) : Prop := ∃ ch lo cs, (b, ch) ∈ M ∧ ch.cellsAre u lo cs ∧ lo ≤ o ∧ o - lo + vs.length ≤ cs.length ∧ (cs.drop (o - lo)).take vs.length = vs
theorem KCell.at {M : HL} {b o u j : Nat} {vs : List Value} {v : Value} (h : KCell M b o u vs) (hv : vs[j]? = some v) : Cell M b (o + j) u v := by
  obtain ⟨ch, lo, cs, h1, h2, h3, h4, h5⟩ := h
  have hj : j < vs.length := (List.getElem?_eq_some_iff.1 hv).1
  refine ⟨ch, lo, cs, h1, h2, by omega, ?_⟩
  rw [← h5, List.getElem?_take_of_lt hj, List.getElem?_drop] at hv
  rw [← hv]; congr 1; omega
theorem KCell.mono {M M' : HL} {b o u : Nat} {vs : List Value} (h : KCell M b o u vs) (k : ∀ p ∈ M, p ∈ M') : KCell M' b o u vs := by
  obtain ⟨ch, lo, cs, h1, h2⟩ := h
  exact ⟨ch, lo, cs, k _ h1, h2⟩
end
section
variable {C : CW} {nt : Nat} {L : Env} {D : List Nat} {H : Heap} {K : St → Prop} {M M' : HL} {n i d : Nat} {gd : Option (Tmp × Bool)} {lo : List Nat} {l : List POp} {rs : List Rd}
variable {α : Type} {F : α → List Value} {z : Nat}
end
end Go.Abs

/- The mathematics of the law's search: all that can be left, by numbers; and its helpers. -/
namespace Go.Proofs.Ytnmlfjohoeebiaa.Wk
open Go Go.Abs Go.Mth
set_option linter.unusedVariables false
set_option linter.unusedSimpArgs false
abbrev St4 := {s : List Int // s.length = 4}
def F4 (a : St4) : List Value := ints a.1
/-- What was found: each with its number. -/
structure Bfs (T : List Int) (A : List St4) (m : MapI) : Prop where
  ok : ∀ i (h : i < A.length), SOK T (A[i]).1
  num : ∀ i (h : i < A.length), findI m (A[i]).1 = some (i : Int)
  inv : ∀ s r, findI m s = some r → ∃ i, ∃ h : i < A.length, r = (i : Int) ∧ (A[i]).1 = s
  cnt : A.length + restM m ≤ 6561
  keys : KeysN 4 m
  first : ∃ h : 0 < A.length, (A[0]).1 = startS T
/-- What comes behind something, by the first stretches. -/
structure SuccR (T : List Int) (A : List St4) (s : List Int) (k : Nat) (own : List Int) : Prop where
  sound : ∀ x ∈ own, ∃ i j, ∃ h : i < A.length, x = (i : Int) ∧ j < k ∧ goodS T.length (metS T s j) ∧ (A[i]).1 = metS T s j
  full : ∀ j, j < k → goodS T.length (metS T s j) → ∃ i, ∃ h : i < A.length, (i : Int) ∈ own ∧ (A[i]).1 = metS T s j
theorem SuccR.mono {T : List Int} {A : List St4} {s : List Int} {k : Nat} {own : List Int} (h : SuccR T A s k own) (X : List St4) : SuccR T (A ++ X) s k own where
  sound x hx := by
    obtain ⟨i, j, hi, h1, h2, h3, h4⟩ := h.sound x hx
    exact ⟨i, j, by simp; omega, h1, h2, h3, by rw [List.getElem_append_left hi]; exact h4⟩
  full j hj hg := by
    obtain ⟨i, hi, h1, h2⟩ := h.full j hj hg
    exact ⟨i, by simp; omega, h1, by rw [List.getElem_append_left hi]; exact h2⟩
theorem SuccR.bad {T : List Int} {A : List St4} {s : List Int} {k : Nat} {own : List Int} (h : SuccR T A s k own) (hb : ¬ goodS T.length (metS T s k)) : SuccR T A s (k + 1) own where
  sound x hx := by
    obtain ⟨i, j, hi, h1, h2, h3, h4⟩ := h.sound x hx
    exact ⟨i, j, hi, h1, by omega, h3, h4⟩
  full j hj hg := by
    rcases Nat.lt_or_ge j k with h1 | h1
    · exact h.full j h1 hg
    · rw [show j = k by omega] at hg; exact absurd hg hb
theorem SuccR.good {T : List Int} {A : List St4} {s : List Int} {k : Nat} {own : List Int} (h : SuccR T A s k own) (hb : goodS T.length (metS T s k)) {i : Nat} (hi : i < A.length) (he : (A[i]).1 = metS T s k) : SuccR T A s (k + 1) (own ++ [(i : Int)]) where
  sound x hx := by
    rcases List.mem_append.1 hx with hx | hx
    · obtain ⟨i, j, hi, h1, h2, h3, h4⟩ := h.sound x hx
      exact ⟨i, j, hi, h1, by omega, h3, h4⟩
    · rw [List.mem_singleton] at hx
      exact ⟨i, k, hi, hx, by omega, hb, he⟩
  full j hj hg := by
    rcases Nat.lt_or_ge j k with h1 | h1
    · obtain ⟨i, hi, h2, h3⟩ := h.full j h1 hg
      exact ⟨i, hi, List.mem_append_left _ h2, h3⟩
    · have : j = k := by omega
      subst this
      exact ⟨i, hi, by simp, he⟩
def BehR (T : List Int) (A : List St4) (B : List (List Int)) : Prop := ∀ i (h : i < A.length), i < B.length → SuccR T A (A[i]).1 T.length (B.getD i [])
theorem BehR.mono {T : List Int} {A : List St4} {B : List (List Int)} (h : BehR T A B) (hl : B.length ≤ A.length) (X : List St4) : BehR T (A ++ X) B := fun i hi hb => by
  rw [List.getElem_append_left (show i < A.length by omega)]
  exact (h i (by omega) hb).mono X
theorem BehR.snoc {T : List Int} {A : List St4} {B : List (List Int)} {own : List Int} (h : BehR T A B) (hl : B.length < A.length) (hn : SuccR T A (A[B.length]).1 T.length own) : BehR T A (B ++ [own]) := fun i hi hb => by
  by_cases e : i < B.length
  · rw [getD_app_l e]; exact h i hi e
  · have : i = B.length := by simp at hb; omega
    subst this
    rw [getD_snoc]; exact hn
open Classical in
/-- What is gone after so many rounds. -/
noncomputable def goneB (T : List Int) (k : Nat) (s : List Int) : Bool := !decide (canS T k s)
def GoneR (T : List Int) (A : List St4) (k : Nat) (G : List Bool) : Prop := G.length = A.length ∧ ∀ i (h : i < A.length), G.getD i false = goneB T k (A[i]).1
theorem neqB : ∀ a b : Bool, pureRun C.c.P (binOp .neq 4 (.bool a) (.bool b)) = some (.bool (a != b)) := by
  intro a b
  cases a <;> cases b <;> kernel_rfl
attribute [local irreducible] gOK WS WC WR WD Ends FS YS OpV seqK blockK loopK midK retK rdK asgK rangeEnd sat Cell
section
variable {M : HL} {n0 : Nat} {H : Heap} {v w : Value}
end
end Go.Proofs.Ytnmlfjohoeebiaa.Wk

/- The law WalkNamed. -/
namespace Go.Proofs.Ytnmlfjohoeebiaa.Wk
open Go Go.Abs Go.Mth
set_option linter.unusedVariables false
set_option linter.unusedSimpArgs false
theorem long_eq {T U : List Int} (h : ∀ k, canS T k (startS T) ↔ canS U k (startS U)) (hT : errT T = 0) (hU : errT U = 0) {r e r' e' : Int} (h1 : LongR T r e) (h2 : LongR U r' e') : r = r' ∧ e = e' := by
  rcases h1 with ⟨h3, _⟩ | ⟨_, h3, rfl, rfl⟩ | ⟨_, rfl, m, rfl, _, h3, h4⟩
  · exact absurd hT h3
  · rcases h2 with ⟨h5, _⟩ | ⟨_, h5, rfl, rfl⟩ | ⟨_, rfl, m, rfl, _, h5, h6⟩
    · exact absurd hU h5
    · exact ⟨rfl, rfl⟩
    · exact absurd ((h _).1 (h3 _)) h6
  · rcases h2 with ⟨h5, _⟩ | ⟨_, h5, rfl, rfl⟩ | ⟨_, rfl, m', rfl, _, h5, h6⟩
    · exact absurd hU h5
    · exact absurd ((h _).2 (h5 _)) h4
    · refine ⟨?_, rfl⟩
      rcases Nat.lt_trichotomy m m' with h7 | h7 | h7
      · exact absurd ((h _).2 (canS_le h5 h7)) h4
      · rw [h7]
      · exact absurd ((h _).1 (canS_le h3 h7)) h6
theorem first_list {T : List Int} {g k : Nat} (h : FirstG T g k) : ((divK g T.length k).map fun (x : Nat) => (x : Int)).length = T.length := by rw [List.length_map, divK_len]
attribute [local irreducible] gOK WS WC WR WD Ends FS YS OpV seqK blockK loopK midK retK rdK asgK rangeEnd sat Cell
section
variable {M : HL} {n0 : Nat} {H : Heap} {v w : Value}
set_option maxHeartbeats 4000000 in
theorem WalkNamed_fs (hH : hasH M n0 H) {a b c : Int} {hs : List Int} (ha : 0 ≤ a ∧ a ≤ 255) (hb : 0 ≤ b ∧ b ≤ 255) (hc : 0 ≤ c ∧ c ≤ 255) (hl : hs.length = 2) (hu : ∀ x ∈ hs, 0 ≤ x ∧ x ≤ 255) {by' : List Int} (hbl : by'.length = 4) (hbu : ∀ x ∈ by', 0 ≤ x ∧ x ≤ 255) {which : Int} (hm : 0 ≤ which ∧ which ≤ 255) :
    FS C 14 [.agg (trayV a b c hs).toArray, .agg (by'.map (Value.int .u8)).toArray, .int .u8 which] H (fun e H' => e = .bool true) := by
  obtain ⟨x, ys, hE, hx, hyl, hy⟩ := tray_beach ha hb hc hl hu
  obtain ⟨zs, hZ, hzl, hz⟩ := bytes_nat hbu
  obtain ⟨wn, rfl⟩ : ∃ wn : Nat, which = wn := ⟨which.toNat, by omega⟩
  rw [hE, hZ]
  rw [hbl] at hzl
  clear hE ha hb hc hl hu hZ hbu hbl
  have hone := beach_one x ys
  have hone2 := numsK_one .u8 zs
  have hbl : (beachC x ys).length = 5 := by simp [beachC, hyl]
  have hzl2 : (numsK .u8 zs).length = 4 := by simp [hzl]
  refine FS.intro (pf := pf14) rfl rfl rfl ?_
  repeat' (first | refine zP ?_ | refine zA ?_ | (refine zM ?_; intro _ _) | refine zX ?_ | (refine zC ?_; intro _ _ _ _) | (refine zS ?_; intro _ _) | (apply Ws <;> intro hg))
  rename_i H1 hH1 H1' hH1'
  refine WR.call (by first | exact gN | exact gS rfl) rfl rfl (made_fs (many := 4) (most := 7) hH1' hx hyl hy (by omega) (by omega)) ?_
  rintro tv H2 ⟨MT, n2, hOT, hn2, hH2⟩
  have hST := hOT.sl ((n0 + 1, .row 43 0 0 (numsK .u8 zs)) :: (n0, .row 45 0 0 (beachC x ys)) :: M)
  have hmem : (n0 + 1, Ch.row 43 0 0 (numsK .u8 zs)) ∈ MT ++ ((n0 + 1, .row 43 0 0 (numsK .u8 zs)) :: (n0, .row 45 0 0 (beachC x ys)) :: M) := List.mem_append_right _ (.head _)
  clear hOT hH1 hH1'
  generalize MT ++ ((n0 + 1, .row 43 0 0 (numsK .u8 zs)) :: (n0, .row 45 0 0 (beachC x ys)) :: M) = T0 at hH2 hST hmem
  obtain ⟨N, hN⟩ : ∃ N, 1 + x % 4 = N := ⟨_, rfl⟩
  have hN4 : 1 ≤ N ∧ N ≤ 4 := by omega
  rw [hN] at hST
  have hTok := made_ok (ys := ys) (most := 7) hN4.2 (by omega)
  have hT7 : ∀ t ∈ firstT (madeF 7) ys N, t ≤ 7 := fun t ht => by
    obtain ⟨i, _, rfl⟩ := List.mem_map.1 ht
    have := Nat.mod_lt (ys.getD i 0) (show 0 < 7 by decide)
    simp only [madeF]; omega
  have hTl : (firstT (madeF 7) ys N).length = N := firstT_len _ _ _
  generalize firstT (madeF 7) ys N = T at hST hTok hTl hT7
  generalize n0 + 1 = nb at *
  subst hTl
  have hE := errT_of hTok hN4.1
  repeat' (first | refine zP ?_ | refine zA ?_ | (refine zM ?_; intro _ _) | refine zX ?_ | (refine zC ?_; intro _ _ _ _) | (refine zS ?_; intro _ _) | (apply Ws <;> intro hg))
  refine WR.call (by first | exact gN | exact gS rfl) rfl rfl (CloneX_fs hH2 hST (by omega) hN4.1) ?_
  rintro _ H3 ⟨ob, n3, rfl, hn3, hH3⟩
  repeat' (first | refine zP ?_ | refine zA ?_ | (refine zM ?_; intro _ _) | refine zX ?_ | (refine zC ?_; intro _ _ _ _) | (refine zS ?_; intro _ _) | (apply Ws <;> intro hg))
  refine WC.loopX [(2, _), (4, .pointer (some ⟨nb, 0, some 0⟩)), (7, tv), (8, .slice (some ⟨ob, 0, some 0⟩) T.length (2 * 1)), (32, .int .i64 (T.length : Int))] (fun s : SW => [(33, .int .i64 (s.k : Int))]) []
    (fun s H' => s.k ≤ T.length ∧ s.ys.Perm T ∧ hasH ((ob, .row 3 0 0 (ints s.ys)) :: T0) n3 H') (fun s => T.length - s.k) ⟨0, T⟩ (by repeat' (first | exact .nil | refine .cons rfl ?_)) rfl ⟨Nat.zero_le _, List.Perm.refl _, hH3⟩ ?_
  clear hH2 hH3
  rintro ⟨k, os⟩ H4 ⟨hk, hp, hH4⟩
  simp only at hk hp hH4
  have hol := hp.length_eq
  dsimp only [List.cons_append, List.nil_append]
  repeat' (first | refine zP ?_ | refine zA ?_ | (refine zM ?_; intro _ _) | refine zX ?_ | (refine zC ?_; intro _ _ _ _) | (refine zS ?_; intro _ _) | (apply Ws <;> intro hg))
  refine WC.condP rfl (fun hlt => ?_) (fun hlt => ?_)
  · have hk' : k < T.length := by omega
    have hzk : zs.getD k 0 ≤ 255 := hz _ (getD_mem (by omega))
    have hcell : (numsK .u8 zs)[k - 0]? = some (.int .u8 ((zs.getD k 0 : Nat) : Int)) := nodes_get (by omega)
    repeat' (first | refine zP ?_ | refine zA ?_ | (refine zM ?_; intro _ _) | refine zX ?_ | (refine zC ?_; intro _ _ _ _) | (refine zS ?_; intro _ _) | (apply Ws <;> intro hg))
    refine WR.op (by first | exact gN | exact gS rfl) rfl (OpV.conv u8k i64k rfl (c := ((zs.getD k 0 : Nat) : Int)) (IntWalk.i64_in _ (by omega))) ?_
    repeat' (first | refine zP ?_ | refine zA ?_ | (refine zM ?_; intro _ _) | refine zX ?_ | (refine zC ?_; intro _ _ _ _) | (refine zS ?_; intro _ _) | (apply Ws <;> intro hg))
    rw [show ((zs.getD k 0 : Nat) : Int) % ((k : Int) + 1) = ((zs.getD k 0 % (k + 1) : Nat) : Int) by simp]
    have hmm := Nat.mod_lt (zs.getD k 0) (show 0 < k + 1 by omega)
    generalize zs.getD k 0 % (k + 1) = j at hmm
    have hset := swap_perm (ys := os) (i := k) (k := j) (by omega) (by omega)
    have hsl1 : (os.set k (os.getD j 0)).length = T.length := by simp [hol]
    repeat' (first | refine zP ?_ | refine zA ?_ | (refine zM ?_; intro _ _) | refine zX ?_ | (refine zC ?_; intro _ _ _ _) | (refine zS ?_; intro _ _) | (apply Ws <;> intro hg))
    rename_i H5 hH5
    refine Ends.loop ⟨k + 1, (os.set k (os.getD j 0)).set j (os.getD k 0)⟩ (by simp only; omega) (by repeat' (first | exact .nil | refine .cons rfl ?_)) rfl ⟨hk', hset.trans hp, ?_⟩
    exact hH5
  · have hSO : Sl ((ob, Ch.row 3 0 0 (ints os)) :: T0) 1 (.slice (some ⟨ob, 0, some 0⟩) T.length (2 * 1)) (ints os) :=
      .row (lo := 0) (cs := ints os) (.head _) (.row _ _ _ _) (Nat.zero_le _) (by simp [hol]) (by rw [Nat.sub_zero, List.drop_zero, List.take_length]) (by simp) (.inl (.inl rfl))
    have hTokO : TOK os := tok_of (by omega) fun x hx => tok_mem hTok x (hp.mem_iff.1 hx)
    have hEO := errT_of hTokO (by omega)
    have hST4 := hST.cons (p := (ob, Ch.row 3 0 0 (ints os)))
    generalize (ob, Ch.row 3 0 0 (ints os)) :: T0 = T1 at hH4 hSO hST4
    generalize Value.slice (some ⟨ob, 0, some 0⟩) T.length (2 * 1) = ov at hSO ⊢
    clear hST hmem
    have hmod := Nat.mod_lt wn (show 0 < T.length by omega)
    repeat' (first | refine zP ?_ | refine zA ?_ | (refine zM ?_; intro _ _) | refine zX ?_ | (refine zC ?_; intro _ _ _ _) | (refine zS ?_; intro _ _) | (apply Ws <;> intro hg))
    refine WR.op (by first | exact gN | exact gS rfl) rfl (OpV.conv u8k i64k rfl (c := (wn : Int)) (IntWalk.i64_in _ (by omega))) ?_
    repeat' (first | refine zP ?_ | refine zA ?_ | (refine zM ?_; intro _ _) | refine zX ?_ | (refine zC ?_; intro _ _ _ _) | (refine zS ?_; intro _ _) | (apply Ws <;> intro hg))
    rw [show (wn : Int) % (T.length : Int) = ((wn % T.length : Nat) : Int) by simp]
    obtain ⟨i, hi⟩ : ∃ i, wn % T.length = i := ⟨_, rfl⟩
    rw [hi] at hmod ⊢
    have hti := hTok.mem hmod
    have ht7 := hT7 _ (getD_mem (a := 0) hmod)
    repeat' (first | refine zP ?_ | refine zA ?_ | (refine zM ?_; intro _ _) | refine zX ?_ | (refine zC ?_; intro _ _ _ _) | (refine zS ?_; intro _ _) | (apply Ws <;> intro hg))
    refine WR.call (by first | exact gN | exact gS rfl) rfl rfl (CloneX_fs hH4 hST4 (by omega) hN4.1) ?_
    rintro _ H5 ⟨mb, n5, rfl, hn5, hH5⟩
    repeat' (first | refine zP ?_ | refine zA ?_ | (refine zM ?_; intro _ _) | refine zX ?_ | (refine zC ?_; intro _ _ _ _) | (refine zS ?_; intro _ _) | (apply Ws <;> intro hg))
    rename_i H6 hH6
    clear hH5
    obtain ⟨Tm, hTm⟩ : ∃ Tm, T.set i (T.getD i 0 + 1) = Tm := ⟨_, rfl⟩
    replace hH6 : hasH ((mb, .row 3 0 0 (ints Tm)) :: T1) n5 H6 := by rw [← hTm]; exact hH6
    have hTml : Tm.length = T.length := by rw [← hTm, List.length_set]
    have hTmg : ∀ j, j < T.length → Tm.getD j 0 = if j = i then T.getD i 0 + 1 else T.getD j 0 := fun j hj => by rw [← hTm, getD_set' hmod]
    have hTokM : TOK Tm := ⟨by omega, fun j hj => by
      have := hTok.mem (show j < T.length by omega)
      rw [hTmg j (by omega)]; split <;> omega, fun j hj => by
      have := hTok.mem (show j < T.length by omega)
      rw [hTmg j (by omega)]; split <;> omega⟩
    have hEM := errT_of hTokM (by omega)
    have hSM : Sl ((mb, Ch.row 3 0 0 (ints Tm)) :: T1) 1 (.slice (some ⟨mb, 0, some 0⟩) T.length (2 * 1)) (ints Tm) :=
      .row (lo := 0) (cs := ints Tm) (.head _) (.row _ _ _ _) (Nat.zero_le _) (by simp [hTml]) (by rw [Nat.sub_zero, List.drop_zero, List.take_length]) (by simp) (.inl (.inl rfl))
    have hST6 := hST4.cons (p := (mb, Ch.row 3 0 0 (ints Tm)))
    have hSO6 := hSO.cons (p := (mb, Ch.row 3 0 0 (ints Tm)))
    clear hST4 hSO
    generalize (mb, Ch.row 3 0 0 (ints Tm)) :: T1 = T2 at hH6 hST6 hSO6 hSM
    refine WR.call (by first | exact gN | exact gS rfl) rfl rfl (Can_fs hH6 hST6 (by omega)) ?_
    rintro _ H7 ⟨n7, hn7, hH7, rfl⟩
    repeat' (first | refine zP ?_ | refine zA ?_ | (refine zM ?_; intro _ _) | refine zX ?_ | (refine zC ?_; intro _ _ _ _) | (refine zS ?_; intro _ _) | (apply Ws <;> intro hg))
    refine WR.call (by first | exact gN | exact gS rfl) rfl rfl (Can_fs hH7 hSO6 (by omega)) ?_
    rintro _ H8 ⟨n8, hn8, hH8, rfl⟩
    repeat' (first | refine zP ?_ | refine zA ?_ | (refine zM ?_; intro _ _) | refine zX ?_ | (refine zC ?_; intro _ _ _ _) | (refine zS ?_; intro _ _) | (apply Ws <;> intro hg))
    refine WR.call (by first | exact gN | exact gS rfl) rfl rfl (Can_fs hH8 hSM (by omega)) ?_
    rintro _ H9 ⟨n9, hn9, hH9, rfl⟩
    have heO : everB os (startS os) = everB T (startS T) := ever_perm hTokO hTok hp
    have heM : everB T (startS T) = true → everB Tm (startS Tm) = true := fun h => everB_true.2 fun k => can_more hTok hTokM hTml.symm (fun j hj => by
      rw [hTmg j hj]
      split
      · rename_i e; subst e; omega
      · exact Int.le_refl _) (everB_true.1 h k)
    rw [hE, hEO, hEM, heO]
    clear hH6 hH7 hH8
    have hand : ∀ B : Bool, (decide ((0 : Int) = 0) && B) = B := fun B => by simp
    rw [hand, hand]
    have hlong := fun k => can_perm_iff hTok hTokO hp.symm k
    have hfp := fun {g g' k k' : Nat} => first_perm (g := g) (g' := g') (k := k) (k' := k') hTok hTokO hp.symm
    clear hSM heO
    cases hB1 : everB T (startS T) <;> cases hB2 : everB Tm (startS Tm)
    case true.false => rw [heM hB1] at hB2; cases hB2
    all_goals
      repeat' (first | refine zP ?_ | refine zA ?_ | (refine zM ?_; intro _ _) | refine zX ?_ | (refine zC ?_; intro _ _ _ _) | (refine zS ?_; intro _ _) | refine zO ?_ | (apply Ws <;> intro hg))
      refine WR.op (by first | exact gN | exact gS rfl) rfl (OpV.neB (neqB _ _) rfl rfl) ?_
      repeat' (first | refine zP ?_ | refine zA ?_ | (refine zM ?_; intro _ _) | refine zX ?_ | (refine zC ?_; intro _ _ _ _) | (refine zS ?_; intro _ _) | refine zO ?_ | (apply Ws <;> intro hg))
      refine WR.call (by first | exact gN | exact gS rfl) rfl rfl (Longest_fs hH9 hST6 (by omega)) ?_
      rintro _ H10 ⟨n10, r1, e1, hn10, hH10, rfl, hL1⟩
      repeat' (first | refine zP ?_ | refine zA ?_ | (refine zM ?_; intro _ _) | refine zX ?_ | (refine zC ?_; intro _ _ _ _) | (refine zS ?_; intro _ _) | refine zO ?_ | (apply Ws <;> intro hg))
      refine WR.call (by first | exact gN | exact gS rfl) rfl rfl (Longest_fs hH10 hSO6 (by omega)) ?_
      rintro _ H11 ⟨n11, r2, e2, hn11, hH11, rfl, hL2⟩
      obtain ⟨rfl, rfl⟩ := long_eq hlong hE hEO hL1 hL2
      clear hH9 hH10
      repeat' (first | refine zP ?_ | refine zA ?_ | (refine zM ?_; intro _ _) | refine zX ?_ | (refine zC ?_; intro _ _ _ _) | (refine zS ?_; intro _ _) | refine zO ?_ | (apply Ws <;> intro hg))
      refine WR.call (by first | exact gN | exact gS rfl) rfl rfl (Groups_fs hH11 hST6 (by omega)) ?_
      rintro _ H12 ⟨mv, ml, MM, n12, rfl, hOm, hn12, hH12, hcm⟩
      rcases hcm with ⟨h, _⟩ | ⟨_, g1, k1, hF1, rfl⟩
      · exact absurd hE h
      have hSm := hOm.sl T2
      rw [nodesI] at hSm
      have hml := first_list hF1
      have hmax1 := fun {m : Int} => max_first hF1 (m := m)
      generalize (divK g1 T.length k1).map (fun (x : Nat) => (x : Int)) = L1 at hSm hml hmax1
      have hST7 : Sl (MM ++ T2) 1 tv (ints T) := hST6.mono fun q hq => List.mem_append_right _ hq
      have hSO7 : Sl (MM ++ T2) 1 ov (ints os) := hSO6.mono fun q hq => List.mem_append_right _ hq
      clear hOm hH11
      generalize MM ++ T2 = T3 at hH12 hSm hST7 hSO7
      rw [hE]
      repeat' (first | refine zP ?_ | refine zA ?_ | (refine zM ?_; intro _ _) | refine zX ?_ | (refine zC ?_; intro _ _ _ _) | (refine zS ?_; intro _ _) | refine zO ?_ | (apply Ws <;> intro hg))
      refine WR.call (by first | exact gN | exact gS rfl) rfl rfl (Groups_fs hH12 hSO7 (by omega)) ?_
      rintro _ H13 ⟨nv, nl, MN, n13, rfl, hOn, hn13, hH13, hcn⟩
      rcases hcn with ⟨h, _⟩ | ⟨_, g2, k2, hF2, rfl⟩
      · exact absurd hEO h
      have hg12 := hfp hF1 hF2
      have hSn := hOn.sl T3
      rw [nodesI] at hSn
      have hnl := first_list hF2
      have hmax2 := fun {m : Int} => max_first hF2 (m := m)
      generalize (divK g2 os.length k2).map (fun (x : Nat) => (x : Int)) = L2 at hSn hnl hmax2
      have hST8 : Sl (MN ++ T3) 1 tv (ints T) := hST7.mono fun q hq => List.mem_append_right _ hq
      have hSm8 : Sl (MN ++ T3) 1 mv (ints L1) := hSm.mono fun q hq => List.mem_append_right _ hq
      clear hOn hH12 hSm
      generalize MN ++ T3 = T4 at hH13 hSn hST8 hSm8
      rw [hEO]
      repeat' (first | refine zP ?_ | refine zA ?_ | (refine zM ?_; intro _ _) | refine zX ?_ | (refine zC ?_; intro _ _ _ _) | (refine zS ?_; intro _ _) | refine zO ?_ | (apply Ws <;> intro hg))
      refine WR.call (by first | exact gN | exact gS rfl) rfl rfl (Max_fs hH13 hSm8 (by omega) (by omega)) ?_
      rintro _ _ ⟨x1, rfl, hx1, hx1', rfl⟩
      have hv1 := hmax1 hx1 hx1'
      repeat' (first | refine zP ?_ | refine zA ?_ | (refine zM ?_; intro _ _) | refine zX ?_ | (refine zC ?_; intro _ _ _ _) | (refine zS ?_; intro _ _) | refine zO ?_ | (apply Ws <;> intro hg))
      refine WR.call (by first | exact gN | exact gS rfl) rfl rfl (Max_fs hH13 hSn (by omega) (by omega)) ?_
      rintro _ _ ⟨x2, rfl, hx2, hx2', rfl⟩
      have hv2 := hmax2 hx2 hx2'
      repeat' (first | refine zP ?_ | refine zA ?_ | (refine zM ?_; intro _ _) | refine zX ?_ | (refine zC ?_; intro _ _ _ _) | (refine zS ?_; intro _ _) | refine zO ?_ | (apply Ws <;> intro hg))
      refine WR.call (by first | exact gN | exact gS rfl) rfl rfl (CloneX_fs hH13 hST8 (by omega) hN4.1) ?_
      rintro _ H14 ⟨lb, n14, rfl, hn14, hH14⟩
      repeat' (first | refine zP ?_ | refine zA ?_ | (refine zM ?_; intro _ _) | refine zX ?_ | (refine zC ?_; intro _ _ _ _) | (refine zS ?_; intro _ _) | (apply Ws <;> intro hg))
      rw [show (i : Int) + 1 = ((i + 1 : Nat) : Int) by omega]
      refine WR.call (by first | exact gN | exact gS rfl) rfl rfl (Delete_fs (R := T.length) (i := i) (j := i + 1) hH14 (.inl ⟨rfl, rfl⟩) (Nat.le_refl _) (by omega) (by omega) (by omega)) ?_
      rintro _ H15 ⟨ds, rfl, hH15, hdl, hdt⟩
      rw [show T.length - (i + 1 - i) = T.length - 1 by omega] at hdt ⊢
      rw [List.take_length] at hdt
      have hll : (ds.take (T.length - 1)).length = T.length - 1 := by rw [List.length_take]; omega
      have hSd : Sl ((lb, Ch.row 3 0 0 (ints ds)) :: T4) 1 (.slice (some ⟨lb, 0, some 0⟩) (T.length - 1) (roomCode 1 T.length)) (ints (ds.take (T.length - 1))) :=
        .row (lo := 0) (cs := ints ds) (.head _) (.row _ _ _ _) (Nat.zero_le _) (by rw [List.length_map, hll, Nat.mul_one]) (by rw [List.length_map, hll, Nat.sub_zero, List.drop_zero, ints, ints, List.map_take]) (by rw [List.length_map, List.length_map, hll]; omega) (.inl (.inr ⟨T.length, rfl, by omega⟩))
      have hTl1 : TOK (ds.take (T.length - 1)) := tok_of (by omega) fun x hx => by
        rw [hdt] at hx
        refine tok_mem hTok x ?_
        rcases List.mem_append.1 hx with h | h
        · exact List.mem_of_mem_take h
        · exact List.mem_of_mem_drop h
      have hep := erase_perm hmod
      rw [← hdt] at hep
      have hSm9 := hSm8.cons (p := (lb, Ch.row 3 0 0 (ints ds)))
      generalize ds.take (T.length - 1) = Lt at hll hSd hTl1 hep
      generalize Value.slice (some ⟨lb, 0, some 0⟩) (T.length - 1) (roomCode 1 T.length) = lv at hSd ⊢
      clear hH13 hH14
      generalize (lb, Ch.row 3 0 0 (ints ds)) :: T4 = T5 at hH15 hSd hSm9
      by_cases hL0 : Lt.length = 0
      · repeat' (first | refine zP ?_ | refine zA ?_ | (refine zM ?_; intro _ _) | refine zX ?_ | (refine zC ?_; intro _ _ _ _) | (refine zS ?_; intro _ _) | refine zO ?_ | (apply Ws <;> intro hg))
        refine WR.call (by first | exact gN | exact gS rfl) rfl rfl (FS.works (C := C) (R := fun v H' => v = .bool true) rfl) ?_
        rintro _ _ rfl
        repeat' (first | refine zP ?_ | refine zA ?_ | (refine zM ?_; intro _ _) | refine zX ?_ | (refine zC ?_; intro _ _ _ _) | (refine zS ?_; intro _ _) | (apply Ws <;> intro hg))
        exact Ends.ret1 rfl rfl
      have hEL := errT_of hTl1 (by omega)
      have hTtL : TOK (T.getD i 0 :: Lt) := tok_of (by rw [List.length_cons]; omega) fun x hx => tok_mem hTok x (hep.mem_iff.2 hx)
      have hless : everB T (startS T) = true → everB Lt (startS Lt) = true := fun h => by
        rw [ever_perm hTok hTtL hep] at h
        exact ever_less hTtL hTl1 (by omega) h
      rw [hB1] at hless
      repeat' (first | refine zP ?_ | refine zA ?_ | (refine zM ?_; intro _ _) | refine zX ?_ | (refine zC ?_; intro _ _ _ _) | (refine zS ?_; intro _ _) | refine zO ?_ | (apply Ws <;> intro hg))
      refine WR.call (by first | exact gN | exact gS rfl) rfl rfl (Can_fs hH15 hSd (by omega)) ?_
      rintro _ H16 ⟨n16, hn16, hH16, rfl⟩
      repeat' (first | refine zP ?_ | refine zA ?_ | (refine zM ?_; intro _ _) | refine zX ?_ | (refine zC ?_; intro _ _ _ _) | (refine zS ?_; intro _ _) | refine zO ?_ | (apply Ws <;> intro hg))
      refine WR.call (by first | exact gN | exact gS rfl) rfl rfl (Groups_fs hH16 hSd (by omega)) ?_
      rintro _ H17 ⟨gv, gl, MG, n17, rfl, hOg, hn17, hH17, hcg⟩
      rcases hcg with ⟨h, _⟩ | ⟨_, g3, k3, hF3, rfl⟩
      · exact absurd hEL h
      have hle := first_less hTok hTl1 (by omega) hep hF1 hF3
      have hSg := hOg.sl T5
      rw [nodesI] at hSg
      have hgl := first_list hF3
      have hmax3 := fun {m : Int} => max_first hF3 (m := m)
      generalize (divK g3 Lt.length k3).map (fun (x : Nat) => (x : Int)) = L3 at hSg hgl hmax3
      have hSm10 : Sl (MG ++ T5) 1 mv (ints L1) := hSm9.mono fun q hq => List.mem_append_right _ hq
      have hSd10 : Sl (MG ++ T5) 1 lv (ints Lt) := hSd.mono fun q hq => List.mem_append_right _ hq
      clear hOg hH15 hH16 hSd hSm9
      generalize MG ++ T5 = T6 at hH17 hSg hSm10 hSd10
      rw [hEL, hand]
      try rw [hless rfl]
      repeat' (first | refine zP ?_ | refine zA ?_ | (refine zM ?_; intro _ _) | refine zX ?_ | (refine zC ?_; intro _ _ _ _) | (refine zS ?_; intro _ _) | refine zO ?_ | (apply Ws <;> intro hg))
      refine WR.call (by first | exact gN | exact gS rfl) rfl rfl (Max_fs hH17 hSg (by omega) (by omega)) ?_
      rintro _ _ ⟨x3, rfl, hx3, hx3', rfl⟩
      have hv3 := hmax3 hx3 hx3'
      repeat' (first | refine zP ?_ | refine zA ?_ | (refine zM ?_; intro _ _) | refine zX ?_ | (refine zC ?_; intro _ _ _ _) | (refine zS ?_; intro _ _) | refine zO ?_ | (apply Ws <;> intro hg))
      refine WR.call (by first | exact gN | exact gS rfl) rfl rfl (Max_fs hH17 hSm10 (by omega) (by omega)) ?_
      rintro _ _ ⟨x4, rfl, hx4, hx4', rfl⟩
      have hv4 := hmax1 hx4 hx4'
      repeat' (first | refine zP ?_ | refine zA ?_ | (refine zM ?_; intro _ _) | refine zX ?_ | (refine zC ?_; intro _ _ _ _) | (refine zS ?_; intro _ _) | refine zO ?_ | (apply Ws <;> intro hg))
      refine WR.call (by first | exact gN | exact gS rfl) rfl rfl (FS.works (C := C) (R := fun v H' => v = .bool true) rfl) ?_
      rintro _ _ rfl
      repeat' (first | refine zP ?_ | refine zA ?_ | (refine zM ?_; intro _ _) | refine zX ?_ | (refine zC ?_; intro _ _ _ _) | (refine zS ?_; intro _ _) | (apply Ws <;> intro hg))
      exact Ends.ret1 rfl rfl
end
end Go.Proofs.Ytnmlfjohoeebiaa.Wk
