/- Texts of the law, joined. -/
import Derived.Test.YtnmlfjohoeebiaaJ2
/- The law WalkFirst. -/
namespace Go.Proofs.Ytnmlfjohoeebiaa.Wk
open Go Go.Abs Go.Mth
set_option linter.unusedVariables false
set_option linter.unusedSimpArgs false
theorem leftE_val {T W : List Int} (hE : errT T = 0) (hW : walkE T.length W = 0) : leftE T W = if goS T (startS T) W = none then 12 else 0 := by unfold leftE; rw [if_neg (by omega), if_neg (by omega)]
theorem everB_false {T s : List Int} (h : ¬ everS T s) : everB T s = false := by
  cases hb : everB T s with
  | false => rfl
  | true => exact absurd (everB_true.1 hb) h
theorem WalkR.good {T W t : List Int} (hT : TOK T) (h : WalkR T (startS T) W t) : GoodW T W := by
  rcases go_good hT h.go.2 with ⟨h1, _⟩ | ⟨h1, _⟩
  · rw [h.go.1] at h1; cases h1
  · exact h1
attribute [local irreducible] gOK WS WC WR WD Ends FS YS OpV seqK blockK loopK midK retK rdK asgK rangeEnd sat Cell
section
variable {M : HL} {n0 : Nat} {H : Heap} {v w : Value}
end
end Go.Proofs.Ytnmlfjohoeebiaa.Wk

/- The reference's states: numbers of what is left. -/
namespace Go.Proofs.Ytnmlfjohoeebiaa.Wk
open Go Go.Abs Go.Mth
set_option linter.unusedVariables false
set_option linter.unusedSimpArgs false
/-- Something that can be left, as a list of just so many numbers. -/
structure LOK (T l : List Int) : Prop where
  len : l.length = T.length
  lo : ∀ i, i < T.length → 1 ≤ l.getD i 0
  hi : ∀ i, i < T.length → l.getD i 0 ≤ T.getD i 0
theorem lok_self {T : List Int} (hT : TOK T) : LOK T T := ⟨rfl, hT.lo, fun _ _ => Int.le_refl _⟩
theorem LOK.sok {T l : List Int} (hT : TOK T) (h : LOK T l) : SOK T (startS l) where
  len := startS_len (by rw [h.len]; exact hT.len)
  lo i hi := by rw [start_get (by rw [h.len]; exact hT.len), if_pos (by rw [h.len]; exact hi)]; exact h.lo i hi
  hi i hi := by rw [start_get (by rw [h.len]; exact hT.len), if_pos (by rw [h.len]; exact hi)]; exact h.hi i hi
  out i hi := by rw [start_get (by rw [h.len]; exact hT.len), if_neg (by rw [h.len]; omega)]
def aftL (T l : List Int) (s k : Nat) : List Int := (List.range k).map fun i => if i = s then T.getD i 0 else l.getD i 0 - 1
theorem aftL_len (T l : List Int) (s k : Nat) : (aftL T l s k).length = k := by simp [aftL]
theorem aftL_succ (T l : List Int) (s k : Nat) : aftL T l s (k + 1) = aftL T l s k ++ [if k = s then T.getD k 0 else l.getD k 0 - 1] := by simp [aftL, List.range_succ]
theorem aftL_get {T l : List Int} {s k i : Nat} (h : i < k) : (aftL T l s k).getD i 0 = if i = s then T.getD i 0 else l.getD i 0 - 1 := by
  rw [getD_eq (by rw [aftL_len]; exact h)]; simp [aftL]
theorem aft_met {T l : List Int} (hT : TOK T) (h : LOK T l) {s : Nat} (hs : s < T.length) : metS T (startS l) s = startS (aftL T l s T.length) := by
  have hl := h.len
  have h4 := hT.len
  have hL := startS_len (T := l) (by omega)
  have hA := aftL_len T l s T.length
  refine ext_getD (a := 0) (by rw [metS_len, hL, startS_len (by omega)]) fun i hi => ?_
  rw [metS_get (by rw [hL]; exact h4) hs, start_get (by omega), start_get (by omega), hA, hl]
  by_cases e : i = s
  · subst e; rw [if_pos rfl, if_pos hs, aftL_get hs, if_pos rfl]
  · rw [if_neg e]
    by_cases e2 : i < T.length
    · rw [if_pos e2, if_pos e2, if_pos e2, aftL_get e2, if_neg e]
    · rw [if_neg e2, if_neg e2, if_neg e2]
theorem aft_good {T l : List Int} (hT : TOK T) (h : LOK T l) {s : Nat} (hs : s < T.length) : goodS T.length (metS T (startS l) s) ↔ ∀ i, i < T.length → i ≠ s → l.getD i 0 ≠ 1 := by
  rw [goodS_dec hT (h.sok hT) hs]
  have h4 := hT.len
  have hl := h.len
  constructor
  · intro hg i hi hne
    have := hg i hi hne
    rw [start_get (by omega), if_pos (by omega)] at this
    omega
  · intro hg i hi hne
    have := hg i hi hne
    rw [start_get (by omega), if_pos (by omega)]
    omega
theorem aft_ok {T l : List Int} (hT : TOK T) (h : LOK T l) {s : Nat} (hg : ∀ i, i < T.length → i ≠ s → l.getD i 0 ≠ 1) : LOK T (aftL T l s T.length) where
  len := aftL_len _ _ _ _
  lo i hi := by
    rw [aftL_get hi]
    have := h.lo i hi
    have := hT.lo i hi
    split
    · omega
    · rename_i e; have := hg i hi e; omega
  hi i hi := by
    rw [aftL_get hi]
    have := h.hi i hi
    split <;> omega
/-- The number of something that can be left. -/
def idxK (T l : List Int) : Nat → Nat
  | 0 => 0
  | k + 1 => idxK T l k * (T.getD k 0).toNat + ((l.getD k 0).toNat - 1)
def prodK (T : List Int) : Nat → Nat
  | 0 => 1
  | k + 1 => prodK T k * (T.getD k 0).toNat
theorem prodK_le {T : List Int} (hT : TOK T) : ∀ k, k ≤ T.length → prodK T k ≤ 8 ^ k ∧ 1 ≤ prodK T k
  | 0, _ => by simp [prodK]
  | k + 1, hk => by
    obtain ⟨h1, h2⟩ := prodK_le hT k (by omega)
    have := hT.lo k (by omega)
    have := hT.hi k (by omega)
    simp only [prodK]
    exact ⟨by rw [Nat.pow_succ]; exact Nat.mul_le_mul h1 (by omega), Nat.mul_pos h2 (by omega)⟩
theorem prodK_bd {T : List Int} (hT : TOK T) {k : Nat} (hk : k ≤ T.length) : prodK T k ≤ 4096 :=
  Nat.le_trans (prodK_le hT k hk).1 (Nat.le_trans (Nat.pow_le_pow_right (by omega) (show k ≤ 4 by have := hT.len; omega)) (by decide))
theorem idxK_lt {T l : List Int} (hT : TOK T) (h : LOK T l) : ∀ k, k ≤ T.length → idxK T l k < prodK T k
  | 0, _ => by simp [idxK, prodK]
  | k + 1, hk => by
    have ih := idxK_lt hT h k (by omega)
    have h1 := h.lo k (by omega)
    have h2 := h.hi k (by omega)
    simp only [idxK, prodK]
    have h3 := Nat.mul_le_mul_right (T.getD k 0).toNat (show idxK T l k + 1 ≤ prodK T k from ih)
    rw [Nat.add_mul, Nat.one_mul] at h3
    omega
/-- Everything that can be left. -/
def stK (T : List Int) : Nat → List (List Int)
  | 0 => [[]]
  | k + 1 => (stK T k).flatMap fun l => (List.range (T.getD k 0).toNat).map fun t => l ++ [((t + 1 : Nat) : Int)]
theorem flat_len {α β : Type} {f : α → List β} {c : Nat} : ∀ {L : List α}, (∀ x ∈ L, (f x).length = c) → (L.flatMap f).length = L.length * c
  | [], _ => by simp
  | x :: L, h => by
    rw [List.flatMap_cons, List.length_append, h x (by simp), flat_len fun y hy => h y (by simp [hy]), List.length_cons, Nat.succ_mul]
    omega
theorem flat_get {α β : Type} {f : α → List β} {c : Nat} {a : α} {b : β} : ∀ {L : List α} {i j : Nat}, (∀ x ∈ L, (f x).length = c) → i < L.length → j < c → (L.flatMap f).getD (i * c + j) b = (f (L.getD i a)).getD j b
  | x :: L, 0, j, h, hi, hj => by
    rw [Nat.zero_mul, Nat.zero_add, List.flatMap_cons, getD_app_l (by rw [h x (by simp)]; exact hj)]; rfl
  | x :: L, i + 1, j, h, hi, hj => by
    rw [List.flatMap_cons, Nat.succ_mul, List.getD_eq_getElem?_getD, List.getElem?_append_right (by rw [h x (by simp)]; omega), h x (by simp), show i * c + c + j - c = i * c + j by omega, ← List.getD_eq_getElem?_getD, flat_get (a := a) (fun y hy => h y (by simp [hy])) (by simpa using hi) hj]
    rfl
theorem stK_len {T : List Int} : ∀ k, (stK T k).length = prodK T k
  | 0 => rfl
  | k + 1 => by
    simp only [stK, prodK]
    rw [flat_len (c := (T.getD k 0).toNat) fun x _ => by simp, stK_len k]
theorem stK_get {T l : List Int} (hT : TOK T) (h : LOK T l) : ∀ k, k ≤ T.length → (stK T k).getD (idxK T l k) [] = l.take k
  | 0, _ => by simp [stK, idxK]
  | k + 1, hk => by
    have hl := h.len
    have h1 := h.lo k (by omega)
    have h2 := h.hi k (by omega)
    simp only [stK, idxK]
    rw [flat_get (a := []) (c := (T.getD k 0).toNat) (fun x _ => by simp) (by rw [stK_len]; exact idxK_lt hT h k (by omega)) (by omega), stK_get hT h k (by omega)]
    have hj : (l.getD k 0).toNat - 1 < (T.getD k 0).toNat := by omega
    rw [getD_eq (by simpa using hj), List.getElem_map, List.getElem_range, List.take_succ_eq_append_getElem (by omega), ← getD_eq (a := (0 : Int)) (by omega), show (((l.getD k 0).toNat - 1 + 1 : Nat) : Int) = l.getD k 0 by omega]
theorem stK_mem {T : List Int} : ∀ {k : Nat} {l : List Int}, l ∈ stK T k → l.length = k ∧ ∀ i, i < k → 1 ≤ l.getD i 0 ∧ l.getD i 0 ≤ T.getD i 0
  | 0, l, h => by
    have : l = [] := by simpa [stK] using h
    subst this
    exact ⟨rfl, fun i hi => absurd hi (Nat.not_lt_zero _)⟩
  | k + 1, l, h => by
    simp only [stK, List.mem_flatMap, List.mem_map, List.mem_range] at h
    obtain ⟨p, hp, t, ht, rfl⟩ := h
    obtain ⟨h1, h2⟩ := stK_mem hp
    refine ⟨by simp [h1], fun i hi => ?_⟩
    by_cases e : i < k
    · rw [getD_app_l (by omega)]; exact h2 i e
    · have : i = k := by omega
      subst this
      have e2 : (p ++ [((t + 1 : Nat) : Int)]).getD i 0 = ((t + 1 : Nat) : Int) := by rw [← h1]; exact getD_snoc
      rw [e2]
      omega
theorem stK_ok {T l : List Int} (h : l ∈ stK T T.length) : LOK T l := ⟨(stK_mem h).1, fun i hi => ((stK_mem h).2 i hi).1, fun i hi => ((stK_mem h).2 i hi).2⟩
attribute [local irreducible] gOK WS WC WR WD Ends FS YS OpV seqK blockK loopK midK retK rdK asgK rangeEnd sat Cell
section
variable {M : HL} {n0 : Nat} {H : Heap} {v w : Value}
theorem index_fs (hH : hasH M n0 H) {T l : List Int} (hS : Sl M 1 v (ints T)) (hT : TOK T) (hW : Sl M 1 w (ints l)) (hl : LOK T l) :
    FS C 64 [v, w] H (fun e H' => e = .int .i64 ((idxK T l T.length : Nat) : Int) ∧ H' = H) := by
  have hTl := hT.len
  have hll := hl.len
  refine FS.intro (pf := pf64) rfl rfl rfl ?_
  repeat' (first | refine zP ?_ | refine zA ?_ | (refine zM ?_; intro _ _) | refine zX ?_ | (refine zC ?_; intro _ _ _ _) | (refine zS ?_; intro _ _) | (apply Ws <;> intro hg))
  refine WC.loopX [(0, v), (1, w)] (fun k : Nat => [(5, .int .i64 ((idxK T l k : Nat) : Int)), (6, .int .i64 (k : Int))]) []
    (fun k H' => H' = H ∧ k ≤ T.length) (fun k => T.length - k) 0 (by repeat' (first | exact .nil | refine .cons rfl ?_)) rfl ⟨rfl, Nat.zero_le _⟩ ?_
  rintro k H1 ⟨rfl, hk⟩
  have hb := idxK_lt hT hl k hk
  have hb2 := prodK_bd hT hk
  dsimp only [List.cons_append, List.nil_append]
  repeat' (first | refine zP ?_ | refine zA ?_ | (refine zM ?_; intro _ _) | refine zX ?_ | (refine zC ?_; intro _ _ _ _) | (refine zS ?_; intro _ _) | (apply Ws <;> intro hg))
  refine WC.condP rfl (fun hlt => ?_) (fun hlt => ?_)
  · have hk' : k < T.length := by omega
    have t1 := hT.lo k hk'
    have t8 := hT.hi k hk'
    have l1 := hl.lo k hk'
    have l8 := hl.hi k hk'
    have hsucc : idxK T l (k + 1) = idxK T l k * (T.getD k 0).toNat + ((l.getD k 0).toNat - 1) := rfl
    obtain ⟨t, ht⟩ : ∃ t : Nat, T.getD k 0 = (t : Int) := ⟨(T.getD k 0).toNat, by omega⟩
    rw [ht] at t1 t8 l8 hsucc
    rw [Int.toNat_natCast] at hsucc
    have hm : idxK T l k * t ≤ 4096 * 8 := Nat.mul_le_mul (by omega) (by omega)
    have hmI : ((idxK T l k : Nat) : Int) * (t : Int) = ((idxK T l k * t : Nat) : Int) := by simp
    generalize idxK T l k = ix at *
    generalize ix * t = p at *
    have hpb : 0 ≤ (ix : Int) * (t : Int) ∧ (ix : Int) * (t : Int) ≤ 40000 := by omega
    repeat' (first | refine zP ?_ | refine zA ?_ | (refine zM ?_; intro _ _) | refine zX ?_ | (refine zC ?_; intro _ _ _ _) | (refine zS ?_; intro _ _) | (apply Ws <;> intro hg))
    rw [ht]
    repeat' (first | refine zP ?_ | refine zA ?_ | (refine zM ?_; intro _ _) | refine zX ?_ | (refine zC ?_; intro _ _ _ _) | (refine zS ?_; intro _ _) | (apply Ws <;> intro hg))
    rw [show (ix : Int) * (t : Int) + l.getD k 0 - 1 = ((idxK T l (k + 1) : Nat) : Int) by omega]
    exact Ends.loop (k + 1) (by omega) (by repeat' (first | exact .nil | refine .cons rfl ?_)) rfl ⟨rfl, hk'⟩
  · have hkn : k = T.length := by omega
    subst hkn
    repeat' (first | refine zP ?_ | refine zA ?_ | (refine zM ?_; intro _ _) | refine zX ?_ | (refine zC ?_; intro _ _ _ _) | (refine zS ?_; intro _ _) | (apply Ws <;> intro hg))
    exact Ends.ret1 rfl ⟨rfl, rfl⟩
structure FV where
  k : Nat
  v : Value
  Mx : HL
  n : Nat
theorem after_fs (hH : hasH M n0 H) {T l : List Int} (hS : Sl M 1 v (ints T)) (hT : TOK T) (hW : Sl M 1 w (ints l)) (hl : LOK T l) {s : Nat} (hs : s < T.length) :
    FS C 81 [v, w, .int .i64 (s : Int)] H (fun e H' => ∃ n', n0 ≤ n' ∧ ((goodS T.length (metS T (startS l) s) ∧ ∃ u Mx, e = .tuple #[u, .bool true] ∧ Own 3 1 u (ints (aftL T l s T.length)) Mx ∧ hasH (Mx ++ M) n' H') ∨ (¬ goodS T.length (metS T (startS l) s) ∧ e = .tuple #[.slice none 0 0, .bool false] ∧ hasH M n' H'))) := by
  have hTl := hT.len
  have hll := hl.len
  rw [aft_good hT hl hs]
  refine FS.intro (pf := pf81) rfl rfl rfl ?_
  repeat' (first | refine zP ?_ | refine zA ?_ | (refine zM ?_; intro _ _) | refine zX ?_ | (refine zC ?_; intro _ _ _ _) | (refine zS ?_; intro _ _) | (apply Ws <;> intro hg))
  refine WC.loopX [(0, v), (1, w), (2, .int .i64 (s : Int))] (fun z : FV => [(8, z.v), (9, .int .i64 (z.k : Int))]) []
    (fun z H' => z.k ≤ T.length ∧ n0 ≤ z.n ∧ (∀ i, i < z.k → i ≠ s → l.getD i 0 ≠ 1) ∧ Own 3 1 z.v (ints (aftL T l s z.k)) z.Mx ∧ hasH (z.Mx ++ M) z.n H') (fun z => T.length - z.k) ⟨0, .slice none 0 0, [], n0⟩ (by repeat' (first | exact .nil | refine .cons rfl ?_)) rfl ⟨Nat.zero_le _, Nat.le_refl _, fun i h => absurd h (Nat.not_lt_zero _), .nil, hH⟩ ?_
  clear hH
  rintro ⟨k, ov, Mx, n1⟩ H1 ⟨hk, hn1, hno, hO, hH1⟩
  simp only at hk hn1 hno hO hH1
  have hST : Sl (Mx ++ M) 1 v (ints T) := hS.mono fun q hq => List.mem_append_right _ hq
  have hSW : Sl (Mx ++ M) 1 w (ints l) := hW.mono fun q hq => List.mem_append_right _ hq
  have hsucc := aftL_succ T l s k
  have hal := aftL_len T l s k
  dsimp only [List.cons_append, List.nil_append]
  repeat' (first | refine zP ?_ | refine zA ?_ | (refine zM ?_; intro _ _) | refine zX ?_ | (refine zC ?_; intro _ _ _ _) | (refine zS ?_; intro _ _) | (apply Ws <;> intro hg))
  refine WC.condP rfl (fun hlt => ?_) (fun hlt => ?_)
  · have hk' : k < T.length := by omega
    by_cases e : k = s
    · rw [if_pos e] at hsucc
      repeat' (first | refine zP ?_ | refine zA ?_ | (refine zM ?_; intro _ _) | refine zX ?_ | (refine zC ?_; intro _ _ _ _) | (refine zS ?_; intro _ _) | refine zO ?_ | (apply Ws <;> intro hg))
      refine WR.append1F [] Mx M rfl rfl rfl rfl hO hH1 (new := [.int .i64 (T.getD k 0)]) (by rfl) rfl rfl (Nat.le_refl _) (by omega) (by simp; omega) fun v3 M3 n3 H3 hO3 hH3 hn3 => ?_
      replace hH3 : hasH (M3 ++ M) n3 H3 := hH3
      repeat' (first | refine zP ?_ | refine zA ?_ | (refine zM ?_; intro _ _) | refine zX ?_ | (refine zC ?_; intro _ _ _ _) | (refine zS ?_; intro _ _) | (apply Ws <;> intro hg))
      refine Ends.loop ⟨k + 1, v3, M3, n3⟩ (by simp only; omega) (by repeat' (first | exact .nil | refine .cons rfl ?_)) rfl ⟨hk', by simp only; omega, fun i hi hne => hno i (by simp only at hi; omega) hne, ?_, hH3⟩
      show Own _ 1 v3 (ints (aftL T l s (k + 1))) M3
      rw [hsucc, ints, List.map_append]; exact hO3
    · rw [if_neg e] at hsucc
      have l1 := hl.lo k hk'
      have l8 := hl.hi k hk'
      have t8 := hT.hi k hk'
      by_cases e1 : l.getD k 0 = 1
      · repeat' (first | refine zP ?_ | refine zA ?_ | (refine zM ?_; intro _ _) | refine zX ?_ | (refine zC ?_; intro _ _ _ _) | (refine zS ?_; intro _ _) | refine zO ?_ | (apply Ws <;> intro hg))
        exact Ends.ret2 rfl rfl ⟨n1, hn1, .inr ⟨fun h => h k hk' e e1, rfl, hH1.sub (List.sublist_append_right _ _)⟩⟩
      · repeat' (first | refine zP ?_ | refine zA ?_ | (refine zM ?_; intro _ _) | refine zX ?_ | (refine zC ?_; intro _ _ _ _) | (refine zS ?_; intro _ _) | refine zO ?_ | (apply Ws <;> intro hg))
        refine WR.append1F [] Mx M rfl rfl rfl rfl hO hH1 (new := [.int .i64 (l.getD k 0 - 1)]) (by rfl) rfl rfl (Nat.le_refl _) (by omega) (by simp; omega) fun v3 M3 n3 H3 hO3 hH3 hn3 => ?_
        replace hH3 : hasH (M3 ++ M) n3 H3 := hH3
        repeat' (first | refine zP ?_ | refine zA ?_ | (refine zM ?_; intro _ _) | refine zX ?_ | (refine zC ?_; intro _ _ _ _) | (refine zS ?_; intro _ _) | (apply Ws <;> intro hg))
        refine Ends.loop ⟨k + 1, v3, M3, n3⟩ (by simp only; omega) (by repeat' (first | exact .nil | refine .cons rfl ?_)) rfl ⟨hk', by simp only; omega, fun i hi hne => ?_, ?_, hH3⟩
        · by_cases h : i = k
          · rw [h]; exact e1
          · exact hno i (by simp only at hi; omega) hne
        · show Own _ 1 v3 (ints (aftL T l s (k + 1))) M3
          rw [hsucc, ints, List.map_append]; exact hO3
  · have hkn : k = T.length := by omega
    subst hkn
    repeat' (first | refine zP ?_ | refine zA ?_ | (refine zM ?_; intro _ _) | refine zX ?_ | (refine zC ?_; intro _ _ _ _) | (refine zS ?_; intro _ _) | (apply Ws <;> intro hg))
    exact Ends.ret2 rfl rfl ⟨n1, hn1, .inl ⟨hno, ov, Mx, rfl, hO, hH1⟩⟩
end
end Go.Proofs.Ytnmlfjohoeebiaa.Wk

/- The reference's states, in memory. -/
namespace Go.Proofs.Ytnmlfjohoeebiaa.Wk
open Go Go.Abs Go.Mth
set_option linter.unusedVariables false
set_option linter.unusedSimpArgs false
def extL (T : List Int) (k : Nat) (l : List Int) : List (List Int) := (List.range (T.getD k 0).toNat).map fun t => l ++ [((t + 1 : Nat) : Int)]
theorem stK_succ (T : List Int) (k : Nat) : stK T (k + 1) = (stK T k).flatMap (extL T k) := rfl
/-- What is there so far. -/
def outL (T : List Int) (k i t : Nat) : List (List Int) := ((stK T k).take i).flatMap (extL T k) ++ (List.range t).map fun t => (stK T k).getD i [] ++ [((t + 1 : Nat) : Int)]
theorem outL_t (T : List Int) (k i t : Nat) : outL T k i (t + 1) = outL T k i t ++ [(stK T k).getD i [] ++ [((t + 1 : Nat) : Int)]] := by
  simp [outL, List.range_succ]
theorem outL_i {T : List Int} {k i : Nat} (hi : i < (stK T k).length) : outL T k (i + 1) 0 = outL T k i (T.getD k 0).toNat := by
  unfold outL
  rw [List.take_succ_eq_append_getElem hi, List.flatMap_append, getD_eq hi]
  simp [extL]
theorem outL_len {T : List Int} {k i t : Nat} (hi : i < (stK T k).length) (ht : t ≤ (T.getD k 0).toNat) : (outL T k i t).length = i * (T.getD k 0).toNat + t := by
  unfold outL
  rw [List.length_append, flat_len (c := (T.getD k 0).toNat) fun x _ => by simp [extL], List.length_take, Nat.min_eq_left (by omega)]
  simp
theorem outL_all {T : List Int} {k : Nat} : outL T k (stK T k).length 0 = stK T (k + 1) := by
  unfold outL
  rw [List.take_length, stK_succ]; simp
structure RV where
  k : Nat
  vb : Value
  ws : List Value
  MB : HL
  Mi : HL
  n : Nat
attribute [local irreducible] gOK WS WC WR WD Ends FS YS OpV seqK blockK loopK midK retK rdK asgK rangeEnd sat Cell
section
set_option maxHeartbeats 1000000 in
theorem states_fs {T : List Int} (hT : TOK T) : ∀ (k : Nat), k ≤ T.length → ∀ {M : HL} {n0 : Nat} {H : Heap} {v : Value} (hH : hasH M n0 H) (hS : Sl M 1 v (ints (T.take k))),
    FS C 80 [v] H (fun e H' => ∃ ws MB Mi n', Own 22 1 e ws MB ∧ RowsB (Mi ++ M) ws (stK T k) ∧ (k = 0 → ws = [.slice none 0 0]) ∧ n0 ≤ n' ∧ hasH (MB ++ (Mi ++ M)) n' H') := by
  intro k
  induction k with
  | zero =>
    intro _ M n0 H v hH hS
    refine FS.intro (pf := pf80) rfl rfl rfl ?_
    rw [List.take_zero] at hS
    repeat' (first | refine zP ?_ | refine zA ?_ | (refine zM ?_; intro _ _) | refine zX ?_ | (refine zC ?_; intro _ _ _ _) | (refine zS ?_; intro _ _) | refine zO ?_ | (apply Ws <;> intro hg))
    refine WR.bldS (by first | exact gN | exact gS rfl) rfl hH (vs := [(0, .slice none 0 0)]) rfl (cs := [.slice none 0 0]) (by rfl) rfl fun H2 hH2 => ?_
    repeat' (first | refine zP ?_ | refine zA ?_ | (refine zM ?_; intro _ _) | refine zX ?_ | (refine zC ?_; intro _ _ _ _) | (refine zS ?_; intro _ _) | (apply Ws <;> intro hg))
    refine Ends.ret1 rfl ⟨[.slice none 0 0], [(n0, .inp 22 0 0 [.slice none 0 0])], [], n0 + 1, .full (len := 1) rfl rfl, ⟨rfl, fun i hi => ?_⟩, fun _ => rfl, by omega, hH2.asInp .here⟩
    have : i = 0 := by simpa [stK] using hi
    subst this
    exact .nil 0
  | succ k ih =>
    intro hk M n0 H v hH hS
    have hTl := hT.len
    have htl : (T.take (k + 1)).length = k + 1 := by rw [List.length_take]; omega
    have htk : (T.take (k + 1)).take k = T.take k := by rw [List.take_take, Nat.min_eq_left (by omega)]
    have hget : (T.take (k + 1)).getD k 0 = T.getD k 0 := getD_take (by omega)
    refine FS.intro (pf := pf80) rfl rfl rfl ?_
    repeat' (first | refine zP ?_ | refine zA ?_ | (refine zM ?_; intro _ _) | refine zX ?_ | (refine zC ?_; intro _ _ _ _) | (refine zS ?_; intro _ _) | refine zO ?_ | (apply Ws <;> intro hg))
    rw [show ((T.take (k + 1)).length : Int) - 1 = (k : Int) by omega]
    refine WR.cutHi (by first | exact gN | exact gS rfl) rfl rfl hS rfl (by omega) fun v2 hS2 => ?_
    rw [htk] at hS2
    refine WR.call (by first | exact gN | exact gS rfl) rfl rfl (ih (by omega) hH hS2) ?_
    rintro sv H1 ⟨ws, MB, Mi, n1, hO, hR, hw0, hn1, hH1⟩
    have hSW := hO.sl (Mi ++ M)
    have hRW : RowsB (MB ++ (Mi ++ M)) ws (stK T k) := ⟨hR.1, fun i hi => (hR.2 i hi).mono fun q hq => List.mem_append_right _ hq⟩
    have hSV : Sl (MB ++ (Mi ++ M)) 1 v (ints (T.take (k + 1))) := hS.mono fun q hq => List.mem_append_right _ (List.mem_append_right _ hq)
    have eM : MB ++ (Mi ++ M) = (MB ++ Mi) ++ M := by simp
    obtain ⟨X, hX⟩ : ∃ X, MB ++ (Mi ++ M) = X := ⟨_, rfl⟩
    rw [hX] at hH1 hSW hRW hSV eM
    clear hX hO hR hS2 hH
    have hwl := hRW.1
    have hsl := stK_len (T := T) k
    have hpb := prodK_bd hT (show k ≤ T.length by omega)
    have hpb2 := prodK_bd hT hk
    have hps : prodK T (k + 1) = prodK T k * (T.getD k 0).toNat := rfl
    have t1 := hT.lo k (by omega)
    have t8 := hT.hi k (by omega)
    obtain ⟨tk, htt⟩ : ∃ tk : Nat, T.getD k 0 = (tk : Int) := ⟨(T.getD k 0).toNat, by omega⟩
    rw [htt] at hget t1 t8 hps
    rw [Int.toNat_natCast] at hps
    repeat' (first | refine zP ?_ | refine zA ?_ | (refine zM ?_; intro _ _) | refine zX ?_ | (refine zC ?_; intro _ _ _ _) | (refine zS ?_; intro _ _) | (apply Ws <;> intro hg))
    refine WC.loopX [(0, v), (4, sv)] (fun z : RV => [(3, z.vb), (5, .int .i64 (z.k : Int))]) []
      (fun z H' => z.k ≤ (stK T k).length ∧ n1 ≤ z.n ∧ Own 22 1 z.vb z.ws z.MB ∧ RowsB (z.Mi ++ X) z.ws (outL T k z.k 0) ∧ hasH (z.MB ++ (z.Mi ++ X)) z.n H')
      (fun z => (stK T k).length - z.k) ⟨0, .slice none 0 0, [], [], [], n1⟩ (by repeat' (first | exact .nil | refine .cons rfl ?_)) rfl ⟨Nat.zero_le _, Nat.le_refl _, .nil, ⟨by simp [outL], fun i hi => by simp [outL] at hi⟩, hH1⟩ ?_
    clear hH1
    rintro ⟨i, vb, wo, MO, Mj, n2⟩ H2 ⟨hi, hn2, hOo, hRo, hH2⟩
    simp only at hi hn2 hOo hRo hH2
    have hSW2 : Sl (MO ++ (Mj ++ X)) 1 sv ws := hSW.mono fun q hq => List.mem_append_right _ (List.mem_append_right _ hq)
    dsimp only [List.cons_append, List.nil_append]
    repeat' (first | refine zP ?_ | refine zA ?_ | (refine zM ?_; intro _ _) | refine zX ?_ | (refine zC ?_; intro _ _ _ _) | (refine zS ?_; intro _ _) | (apply Ws <;> intro hg))
    refine WC.condP rfl (fun hlt => ?_) (fun hlt => ?_)
    · have hi' : i < (stK T k).length := by omega
      repeat' (first | refine zP ?_ | refine zA ?_ | (refine zM ?_; intro _ _) | refine zX ?_ | (refine zC ?_; intro _ _ _ _) | (refine zS ?_; intro _ _) | (apply Ws <;> intro hg))
      clear hSW2
      refine WC.loopX [(0, v), (4, sv), (5, .int .i64 (i : Int))] (fun z : RV => [(3, z.vb), (6, .int .i64 ((z.k + 1 : Nat) : Int))]) []
        (fun z H' => z.k ≤ tk ∧ n2 ≤ z.n ∧ Own 22 1 z.vb z.ws z.MB ∧ RowsB (z.Mi ++ X) z.ws (outL T k i z.k) ∧ hasH (z.MB ++ (z.Mi ++ X)) z.n H')
        (fun z => tk - z.k) ⟨0, vb, wo, MO, Mj, n2⟩ (by repeat' (first | exact .nil | refine .cons rfl ?_)) rfl ⟨Nat.zero_le _, Nat.le_refl _, hOo, hRo, hH2⟩ ?_
      clear hH2 hOo hRo
      rintro ⟨t, vb2, wo2, MO2, Mj2, n3⟩ H3 ⟨ht, hn3, hOo, hRo, hH3⟩
      simp only at ht hn3 hOo hRo hH3
      have hSV3 : Sl (MO2 ++ (Mj2 ++ X)) 1 v (ints (T.take (k + 1))) := hSV.mono fun q hq => List.mem_append_right _ (List.mem_append_right _ hq)
      have hSW3 : Sl (MO2 ++ (Mj2 ++ X)) 1 sv ws := hSW.mono fun q hq => List.mem_append_right _ (List.mem_append_right _ hq)
      have hol := outL_len (t := t) hi' (by rw [htt, Int.toNat_natCast]; exact ht)
      dsimp only [List.cons_append, List.nil_append]
      repeat' (first | refine zP ?_ | refine zA ?_ | (refine zM ?_; intro _ _) | refine zX ?_ | (refine zC ?_; intro _ _ _ _) | (refine zS ?_; intro _ _) | (apply Ws <;> intro hg))
      rw [show (T.take (k + 1)).length - 1 = k by omega, hget]
      refine WC.condP rfl (fun hle => ?_) (fun hle => ?_)
      · have ht' : t < tk := by omega
        have hm1 : (i + 1) * tk ≤ prodK T k * tk := Nat.mul_le_mul_right _ (by omega)
        rw [Nat.succ_mul] at hm1
        have hwi : i < ws.length := by omega
        rw [htt, Int.toNat_natCast] at hol
        have hot := outL_t T k i t
        have hpl : ((stK T k).getD i []).length = k := (stK_mem (getD_mem hi')).1
        have hp0 : Sl (MO2 ++ (Mj2 ++ X)) 1 (ws.getD i undef) (ints ((stK T k).getD i [])) := (hRW.2 i hi').mono fun q hq => List.mem_append_right _ (List.mem_append_right _ hq)
        have hwn : k = 0 → ws.getD i undef = .slice none 0 0 := fun h => by
          have hw := hw0 h
          subst h
          have : i = 0 := by simpa [stK] using hi'
          rw [hw, this]; rfl
        have hwo := hRo.1
        generalize (stK T k).getD i [] = p at hp0 hpl hot
        repeat' (first | refine zP ?_ | refine zA ?_ | (refine zM ?_; intro _ _) | refine zX ?_ | (refine zC ?_; intro _ _ _ _) | (refine zS ?_; intro _ _) | (apply Ws <;> intro hg))
        refine WR.bldS (by first | exact gN | exact gS rfl) rfl hH3 (vs := []) rfl (cs := []) (by rfl) rfl fun H4 hH4 => ?_
        have hp1 := hp0.cons (p := (n3, Ch.row 3 0 0 []))
        have hSW4 := hSW3.cons (p := (n3, Ch.row 3 0 0 []))
        have hr1 := hp0.one_
        clear hp0 hSW3 hSV3
        repeat' (first | refine zP ?_ | refine zA ?_ | (refine zM ?_; intro _ _) | refine zX ?_ | (refine zC ?_; intro _ _ _ _) | (refine zS ?_; intro _ _) | (apply Ws <;> intro hg))
        by_cases hk0 : k = 0
        case' pos =>
          have hpe : p = [] := List.eq_nil_of_length_eq_zero (by omega)
          rw [hwn hk0] at *
          refine WR.appNil (by first | exact gN | exact gS rfl) rfl rfl rfl hH4 (.head _) fun H5 hH5 => ?_
          have hOw : Own 3 1 (.slice (some ⟨n3, 0, some 0⟩) 0 1) (ints p) [(n3, .inp 3 0 0 [])] := by rw [hpe]; exact .full (len := 0) rfl rfl
          have hHw : hasH ([(n3, .inp 3 0 0 [])] ++ ([] ++ (MO2 ++ (Mj2 ++ X)))) (n3 + 1) H5 := hH5.asInp .here
          obtain ⟨n4, hn4⟩ : ∃ n4, n3 + 1 = n4 := ⟨_, rfl⟩
          rw [hn4] at hHw
          generalize [(n3, Ch.inp 3 0 0 [])] = Mx at hOw hHw
          obtain ⟨R, hR0⟩ : ∃ R : HL, ([] : HL) = R := ⟨_, rfl⟩
          rw [hR0] at hHw
        case' neg =>
          have hne : ints p ≠ [] := fun h => by have h9 := congrArg List.length h; rw [List.length_map, List.length_nil] at h9; omega
          obtain ⟨hks, hsr⟩ := hp1.src hH4 hne
          rw [show (ints p).length = p.length by simp] at hks
          refine WR.appendNew (by first | exact gN | exact gS rfl) rfl rfl rfl hH4 (.head _) (.row _ _ _ _) (Nat.zero_le _) (Nat.zero_le _) hks (by have := hsr _ (Nat.le_refl _); rw [List.take_length, show (ints p).length = p.length by simp] at this; exact this) (by simp) (by omega) (ints_one _) (by omega) (by omega) (by omega) fun H5 hH5 => ?_
          have hOw : Own 3 1 (.slice (some ⟨n3 + 1, 0, some 0⟩) p.length (2 * 1)) (ints p) [(n3 + 1, .row 3 0 0 (ints p))] := .row (by simp)
          have hHw : hasH ([(n3 + 1, .row 3 0 0 (ints p))] ++ ([(n3, .row 3 0 0 [])] ++ (MO2 ++ (Mj2 ++ X)))) (n3 + 1 + 1) H5 := hH5
          obtain ⟨n4, hn4⟩ : ∃ n4, n3 + 1 + 1 = n4 := ⟨_, rfl⟩
          rw [hn4] at hHw
          generalize [(n3 + 1, Ch.row 3 0 0 (ints p))] = Mx at hOw hHw
          obtain ⟨R, hR0⟩ : ∃ R : HL, [(n3, Ch.row 3 0 0 [])] = R := ⟨_, rfl⟩
          rw [hR0] at hHw
        all_goals
          clear hH3 hH4 hH5 hp1 hSW4
          repeat' (first | refine zP ?_ | refine zA ?_ | (refine zM ?_; intro _ _) | refine zX ?_ | (refine zC ?_; intro _ _ _ _) | (refine zS ?_; intro _ _) | (apply Ws <;> intro hg))
          refine WR.append1F [] Mx (R ++ (MO2 ++ (Mj2 ++ X))) rfl rfl rfl rfl hOw hHw (new := [.int .i64 ((t + 1 : Nat) : Int)]) (by rfl) rfl rfl (Nat.le_refl _) (by omega) (by simp; omega) fun v3 M3 n5 H6 hO3 hH6 hn5 => ?_
          replace hH6 : hasH ((M3 ++ R) ++ (MO2 ++ (Mj2 ++ X))) n5 H6 := by rw [List.append_assoc]; exact hH6
          have hSv3 : Sl ((M3 ++ R) ++ X) 1 v3 (ints (p ++ [((t + 1 : Nat) : Int)])) := by
            rw [List.append_assoc, ints, List.map_append]; exact hO3.sl _
          have hv31 := hSv3.one_
          have hRn := rowsB_snoc hRo hSv3
          rw [← hot] at hRn
          clear hO3 hOw hHw
          repeat' (first | refine zP ?_ | refine zA ?_ | (refine zM ?_; intro _ _) | refine zX ?_ | (refine zC ?_; intro _ _ _ _) | (refine zS ?_; intro _ _) | (apply Ws <;> intro hg))
          refine WR.append1F (M3 ++ R) MO2 (Mj2 ++ X) rfl rfl rfl rfl hOo hH6 (new := [v3]) (fill1 hv31) (by simp [hv31]) rfl (Nat.le_refl _) (by omega) (by simp; omega) fun v4 M4 n6 H7 hO4 hH7 hn6 => ?_
          have hH8 : hasH (M4 ++ (((M3 ++ R) ++ Mj2) ++ X)) n6 H7 := hH7.perm (by
            have := List.perm_append_comm_assoc (M3 ++ R) M4 (Mj2 ++ X)
            rwa [← List.append_assoc (M3 ++ R) Mj2 X] at this)
          repeat' (first | refine zP ?_ | refine zA ?_ | (refine zM ?_; intro _ _) | refine zX ?_ | (refine zC ?_; intro _ _ _ _) | (refine zS ?_; intro _ _) | (apply Ws <;> intro hg))
          rw [show ((t + 1 : Nat) : Int) + 1 = ((t + 1 + 1 : Nat) : Int) by omega]
          exact Ends.loop ⟨t + 1, v4, wo2 ++ [v3], M4, (M3 ++ R) ++ Mj2, n6⟩ (by simp only; omega) (by repeat' (first | exact .nil | refine .cons rfl ?_)) rfl ⟨ht', by simp only; omega, hO4, hRn, hH8⟩
      · have htn : t = tk := by omega
        subst htn
        have hoi := outL_i hi'
        rw [htt, Int.toNat_natCast] at hoi
        rw [← hoi] at hRo
        repeat' (first | refine zP ?_ | refine zA ?_ | (refine zM ?_; intro _ _) | refine zX ?_ | (refine zC ?_; intro _ _ _ _) | (refine zS ?_; intro _ _) | (apply Ws <;> intro hg))
        exact Ends.loop ⟨i + 1, vb2, wo2, MO2, Mj2, n3⟩ (by simp only; omega) (by repeat' (first | exact .nil | refine .cons rfl ?_)) rfl ⟨hi', by simp only; omega, hOo, hRo, hH3⟩
    · have hin : i = (stK T k).length := by omega
      subst hin
      rw [outL_all] at hRo
      repeat' (first | refine zP ?_ | refine zA ?_ | (refine zM ?_; intro _ _) | refine zX ?_ | (refine zC ?_; intro _ _ _ _) | (refine zS ?_; intro _ _) | (apply Ws <;> intro hg))
      refine Ends.ret1 rfl ⟨wo, MO, Mj ++ (MB ++ Mi), n2, hOo, ?_, fun h => absurd h (Nat.succ_ne_zero _), by omega, ?_⟩
      · rw [List.append_assoc, ← eM]; exact hRo
      · rw [List.append_assoc, ← eM]; exact hH2
end
end Go.Proofs.Ytnmlfjohoeebiaa.Wk

/- The reference's search: from where a walk can go on for ever. -/
namespace Go.Proofs.Ytnmlfjohoeebiaa.Wk
open Go Go.Abs Go.Mth
set_option linter.unusedVariables false
set_option linter.unusedSimpArgs false
theorem sok_lok {T s : List Int} (hT : TOK T) (h : SOK T s) : ∃ l, LOK T l ∧ s = startS l := by
  have h4 := hT.len
  have hl := h.len
  have hg : ∀ i, i < T.length → (s.take T.length).getD i 0 = s.getD i 0 := fun i hi => getD_take hi
  refine ⟨s.take T.length, ⟨by rw [List.length_take]; omega, fun i hi => by rw [hg i hi]; exact h.lo i hi, fun i hi => by rw [hg i hi]; exact h.hi i hi⟩, ?_⟩
  have hll : (s.take T.length).length = T.length := by rw [List.length_take]; omega
  refine ext_getD (a := 0) (by rw [hl, startS_len (by omega)]) fun i hi => ?_
  rw [start_get (by omega), hll]
  by_cases e : i < T.length
  · rw [if_pos e, hg i e]
  · rw [if_neg e, h.out i (by omega)]
/-- From where so many tides can be walked. -/
noncomputable def livB (T : List Int) (k : Nat) (l : List Int) : Bool := !(goneB T k (startS l))
theorem livB_true {T : List Int} {k : Nat} {l : List Int} : livB T k l = true ↔ canS T k (startS l) := by
  unfold livB; rw [Bool.not_eq_true', goneB_false]
theorem livB_false {T : List Int} {k : Nat} {l : List Int} : livB T k l = false ↔ ¬ canS T k (startS l) := by
  unfold livB; rw [Bool.not_eq_false', goneB_true]
/-- The first so many of a list of Booleans, the others false. -/
def cutB (G : List Bool) (i : Nat) : List Bool := (List.range G.length).map fun j => decide (j < i) && G.getD j false
theorem cutB_len (G : List Bool) (i : Nat) : (cutB G i).length = G.length := by simp [cutB]
theorem cutB_get {G : List Bool} {i j : Nat} (h : j < G.length) : (cutB G i).getD j false = (decide (j < i) && G.getD j false) := by
  rw [getD_eq (by rw [cutB_len]; exact h)]; simp [cutB]
theorem cutB_zero (G : List Bool) : cutB G 0 = List.replicate G.length false := by
  refine List.eq_replicate_iff.2 ⟨cutB_len _ _, fun b hb => ?_⟩
  obtain ⟨s, _, rfl⟩ := List.mem_map.1 hb
  rw [decide_eq_false (Nat.not_lt_zero _), Bool.false_and]
theorem cutB_set {G : List Bool} {i : Nat} (h : i < G.length) : (cutB G i).set i (G.getD i false) = cutB G (i + 1) := by
  refine List.ext_getElem (by simp [cutB_len]) fun j h1 h2 => ?_
  rw [List.getElem_set]
  simp only [cutB, List.getElem_map, List.getElem_range]
  split
  · rename_i e; subst e; rw [decide_eq_true (Nat.lt_succ_self _), Bool.true_and]
  · congr 1
    rw [decide_eq_decide]; omega
theorem cutB_all (G : List Bool) : cutB G G.length = G := by
  refine ext_getD (a := false) (cutB_len _ _) fun j hj => ?_
  rw [cutB_len] at hj
  rw [cutB_get hj, decide_eq_true hj, Bool.true_and]
noncomputable def livL (T : List Int) (k : Nat) : List Bool := (stK T T.length).map (livB T k)
theorem livL_len (T : List Int) (k : Nat) : (livL T k).length = (stK T T.length).length := by simp [livL]
theorem livL_get {T : List Int} {k i : Nat} (h : i < (stK T T.length).length) : (livL T k).getD i false = livB T k ((stK T T.length).getD i []) := by
  rw [getD_eq (by rw [livL_len]; exact h), getD_eq h]; simp [livL]
theorem livL_idx {T l : List Int} {k : Nat} (hT : TOK T) (h : LOK T l) : (livL T k).getD (idxK T l T.length) false = livB T k l := by
  rw [livL_get (by rw [stK_len]; exact idxK_lt hT h _ (Nat.le_refl _)), stK_get hT h _ (Nat.le_refl _), List.take_of_length_le (by rw [h.len]; exact Nat.le_refl _)]
theorem livL_zero (T : List Int) : livL T 0 = List.replicate (stK T T.length).length true := by
  refine List.eq_replicate_iff.2 ⟨livL_len _ _, fun b hb => ?_⟩
  obtain ⟨l, _, rfl⟩ := List.mem_map.1 hb
  exact livB_true.2 trivial
/-- A stretch after which so many more can be walked, among the first ones. -/
noncomputable def nxtB (T : List Int) (k : Nat) (l : List Int) (s : Nat) : Bool := by
  classical
  exact (List.range s).any fun j => decide (goodS T.length (metS T (startS l) j)) && livB T k (aftL T l j T.length)
theorem nxtB_succ (T : List Int) (k : Nat) (l : List Int) (s : Nat) [Decidable (goodS T.length (metS T (startS l) s))] : nxtB T k l (s + 1) = (nxtB T k l s || (decide (goodS T.length (metS T (startS l) s)) && livB T k (aftL T l s T.length))) := by
  unfold nxtB
  rw [List.range_succ, List.any_append]
  simp
theorem nxtB_all {T l : List Int} {k : Nat} (hT : TOK T) (h : LOK T l) : nxtB T k l T.length = livB T (k + 1) l := by
  rw [Bool.eq_iff_iff, livB_true]
  unfold nxtB
  rw [List.any_eq_true]
  constructor
  · rintro ⟨j, hj, h1⟩
    have hj' := List.mem_range.1 hj
    rw [Bool.and_eq_true, decide_eq_true_eq, livB_true] at h1
    exact ⟨j, hj', h1.1, by rw [aft_met hT h hj']; exact h1.2⟩
  · rintro ⟨j, hj, h1, h2⟩
    refine ⟨j, List.mem_range.2 hj, ?_⟩
    rw [Bool.and_eq_true, decide_eq_true_eq, livB_true, ← aft_met hT h hj]
    exact ⟨h1, h2⟩
theorem liv_stop {T : List Int} {k : Nat} (hT : TOK T) (h : livL T (k + 1) = livL T k) {s : List Int} (hs : SOK T s) (hk : canS T k s) : everS T s :=
  ever_stab hT (fun s hs hk => by
    obtain ⟨l, hl, rfl⟩ := sok_lok hT hs
    have h1 := livL_idx (k := k + 1) hT hl
    rw [h, livL_idx hT hl, livB_true.2 hk] at h1
    exact livB_true.1 h1.symm) hs hk
theorem liv_stab {T : List Int} (hT : TOK T) {k : Nat} (h : ∀ s, SOK T s → canS T k s → canS T (k + 1) s) : livL T (k + 1) = livL T k := by
  unfold livL
  refine List.map_congr_left fun l hl => ?_
  have hs := (stK_ok hl).sok hT
  rw [Bool.eq_iff_iff, livB_true, livB_true]
  exact ⟨canS_less, h _ hs⟩
def sameK (G N : List Bool) (i : Nat) : Bool := (List.range i).all fun j => N.getD j false == G.getD j false
theorem sameK_succ (G N : List Bool) (i : Nat) : sameK G N (i + 1) = (sameK G N i && (N.getD i false == G.getD i false)) := by
  simp [sameK, List.range_succ]
theorem sameK_all {G N : List Bool} (h : N.length = G.length) : sameK G N G.length = true ↔ N = G := by
  unfold sameK
  rw [List.all_eq_true]
  constructor
  · intro hh
    refine ext_getD (a := false) h fun j hj => ?_
    have := hh j (List.mem_range.2 (by omega))
    simpa using this
  · rintro rfl j _
    simp
theorem eqB : ∀ a b : Bool, pureRun C.c.P (binOp .eql 4 (.bool a) (.bool b)) = some (.bool (a == b)) := by
  intro a b
  cases a <;> cases b <;> kernel_rfl
theorem fill_next {m i : Nat} (h : i < m) : (List.replicate i true ++ List.replicate (m - i) false).set i true = List.replicate (i + 1) true ++ List.replicate (m - (i + 1)) false := by
  rw [show m - i = (m - (i + 1)) + 1 by omega, List.replicate_succ, List.set_append_right _ _ (by simp), List.replicate_succ']
  simp
theorem cutB_self {G : List Bool} {i : Nat} (h : i < G.length) : (cutB G i).set i false = cutB G i := by
  refine ext_getD (a := false) (by simp) fun j hj => ?_
  rw [getD_set' (by rw [cutB_len]; exact h)]
  split
  · rename_i e; subst e; rw [cutB_get h, decide_eq_false (Nat.lt_irrefl _), Bool.false_and]
  · rfl
structure LW where
  k : Nat
  gb : Nat
  n : Nat
structure GK2 where
  k : Nat
  n : Nat
structure LI where
  i : Nat
  g : Bool
  n : Nat
attribute [local irreducible] gOK WS WC WR WD Ends FS YS OpV seqK blockK loopK midK retK rdK asgK rangeEnd sat Cell
section
variable {M : HL} {n0 : Nat} {H : Heap} {v w : Value}
set_option maxHeartbeats 2000000 in
theorem alive_fs (hH : hasH M n0 H) {T : List Int} (hS : Sl M 1 v (ints T)) (hT : TOK T) (h1 : 1 ≤ T.length) :
    FS C 59 [v] H (fun e H' => ∃ gb k r n', e = .tuple #[.slice (some ⟨gb, 0, some 0⟩) (stK T T.length).length (2 * (stK T T.length).length + 1), .int .i64 r] ∧ MoreR T (startS T) r ∧ (r = -1 → ∀ s, SOK T s → canS T k s → everS T s) ∧ n0 ≤ n' ∧ hasH ((gb, .row 4 0 0 (bools (livL T k))) :: M) n' H') := by
  obtain ⟨k0, hk0, hst⟩ := stab hT
  have hTl := hT.len
  refine FS.intro (pf := pf59) rfl rfl rfl ?_
  repeat' (first | refine zP ?_ | refine zA ?_ | (refine zM ?_; intro _ _) | refine zX ?_ | (refine zC ?_; intro _ _ _ _) | (refine zS ?_; intro _ _) | (apply Ws <;> intro hg))
  refine WR.call (by first | exact gN | exact gS rfl) rfl rfl (states_fs hT T.length (Nat.le_refl _) hH (by rw [List.take_length]; exact hS)) ?_
  rintro sv H1 ⟨ws, MB, Mi, n1, hO, hR, _, hn1, hH1⟩
  have hSW := hO.sl (Mi ++ M)
  have hRW : RowsB (MB ++ (Mi ++ M)) ws (stK T T.length) := ⟨hR.1, fun i hi => (hR.2 i hi).mono fun q hq => List.mem_append_right _ hq⟩
  have hSV : Sl (MB ++ (Mi ++ M)) 1 v (ints T) := hS.mono fun q hq => List.mem_append_right _ (List.mem_append_right _ hq)
  have hYM : M.Sublist (MB ++ (Mi ++ M)) := (List.sublist_append_right _ _).trans (List.sublist_append_right _ _)
  generalize MB ++ (Mi ++ M) = Y at hH1 hSW hRW hSV hYM
  clear hO hR hH
  obtain ⟨m, hm⟩ : ∃ m, (stK T T.length).length = m := ⟨_, rfl⟩
  have hwl : ws.length = m := by rw [← hm]; exact hRW.1
  have hpb := prodK_bd hT (Nat.le_refl T.length)
  have hp1 := (prodK_le hT T.length (Nat.le_refl _)).2
  have hmp : m = prodK T T.length := by rw [← hm]; exact stK_len _
  have hmL : ∀ k, (livL T k).length = m := fun k => by rw [livL_len, hm]
  repeat' (first | refine zP ?_ | refine zA ?_ | (refine zM ?_; intro _ _) | refine zX ?_ | (refine zC ?_; intro _ _ _ _) | (refine zS ?_; intro _ _) | (apply Ws <;> intro hg))
  rw [hwl]
  refine WR.mkS (m := m) (by first | exact gN | exact gS rfl) rfl hH1 rfl rfl (by omega) rfl fun H2 hH2 => ?_
  replace hH2 : hasH ((n1, .row 4 0 0 (bools (List.replicate 0 true ++ List.replicate (m - 0) false))) :: Y) (n1 + 1) H2 := by simpa [bools, List.map_replicate] using hH2
  repeat' (first | refine zP ?_ | refine zA ?_ | (refine zM ?_; intro _ _) | refine zX ?_ | (refine zC ?_; intro _ _ _ _) | (refine zS ?_; intro _ _) | (apply Ws <;> intro hg))
  refine WC.loopX [(0, v), (4, sv), (5, .slice (some ⟨n1, 0, some 0⟩) m (2 * m + 1))] (fun i : Nat => [(6, .int .i64 (i : Int))]) []
    (fun i H' => i ≤ m ∧ hasH ((n1, .row 4 0 0 (bools (List.replicate i true ++ List.replicate (m - i) false))) :: Y) (n1 + 1) H') (fun i => m - i) 0 (by repeat' (first | exact .nil | refine .cons rfl ?_)) rfl ⟨Nat.zero_le _, hH2⟩ ?_
  clear hH1 hH2
  rintro i H3 ⟨hi, hH3⟩
  have hSW3 := hSW.cons (p := (n1, Ch.row 4 0 0 (bools (List.replicate i true ++ List.replicate (m - i) false))))
  dsimp only [List.cons_append, List.nil_append]
  repeat' (first | refine zP ?_ | refine zA ?_ | (refine zM ?_; intro _ _) | refine zX ?_ | (refine zC ?_; intro _ _ _ _) | (refine zS ?_; intro _ _) | (apply Ws <;> intro hg))
  refine WC.condP rfl (fun hlt => ?_) (fun hlt => ?_)
  · have hi' : i < m := by omega
    have hfn := fill_next hi'
    have hfl : (List.replicate i true ++ List.replicate (m - i) false).length = m := by simp; omega
    generalize List.replicate i true ++ List.replicate (m - i) false = F at *
    repeat' (first | refine zP ?_ | refine zA ?_ | (refine zM ?_; intro _ _) | refine zX ?_ | (refine zC ?_; intro _ _ _ _) | (refine zS ?_; intro _ _) | (apply Ws <;> intro hg))
    rename_i H4 hH4
    rw [hfn] at hH4
    exact Ends.loop (i + 1) (by omega) (by repeat' (first | exact .nil | refine .cons rfl ?_)) rfl ⟨hi', hH4⟩
  have him : i = m := by omega
  subst him
  have hL0 : List.replicate i true ++ List.replicate (i - i) false = livL T 0 := by rw [livL_zero, hm, Nat.sub_self]; simp
  rw [hL0] at hH3
  clear hSW3 hi hlt
  repeat' (first | refine zP ?_ | refine zA ?_ | (refine zM ?_; intro _ _) | refine zX ?_ | (refine zC ?_; intro _ _ _ _) | (refine zS ?_; intro _ _) | (apply Ws <;> intro hg))
  refine WC.loopX [(0, v), (4, sv)] (fun z : LW => [(5, .slice (some ⟨z.gb, 0, some 0⟩) i (2 * i + 1)), (7, .int .i64 (z.k : Int))]) []
    (fun z H' => z.k ≤ k0 ∧ (∀ p, z.k = p + 1 → canS T p (startS T)) ∧ n1 ≤ z.n ∧ hasH ((z.gb, .row 4 0 0 (bools (livL T z.k))) :: Y) z.n H') (fun z => k0 + 1 - z.k) ⟨0, n1, n1 + 1⟩ (by repeat' (first | exact .nil | refine .cons rfl ?_)) rfl ⟨Nat.zero_le _, fun p h => absurd h.symm (Nat.succ_ne_zero _), by simp only; omega, hH3⟩ ?_
  clear hH3
  rintro ⟨k, gb, n2⟩ H4 ⟨hkk, hpre, hn2, hH4⟩
  simp only at hkk hpre hn2 hH4
  have hli := livL_idx (k := k) hT (lok_self hT)
  have hix := idxK_lt hT (lok_self hT) T.length (Nat.le_refl _)
  have hLl := hmL k
  have hLl2 := hmL (k + 1)
  dsimp only [List.cons_append, List.nil_append]
  repeat' (first | refine zP ?_ | refine zA ?_ | (refine zM ?_; intro _ _) | refine zX ?_ | (refine zC ?_; intro _ _ _ _) | (refine zS ?_; intro _ _) | (apply Ws <;> intro hg))
  refine WR.call (by first | exact gN | exact gS rfl) rfl rfl (index_fs hH4 hSV.cons hT hSV.cons (lok_self hT)) ?_
  rintro _ _ ⟨rfl, rfl⟩
  generalize idxK T T T.length = ix at hli hix ⊢
  have hcell : (bools (livL T k))[ix]? = some (.bool (livB T k T)) := by rw [← hli]; exact bools_get (by omega)
  repeat' (first | refine zP ?_ | refine zA ?_ | (refine zM ?_; intro _ _) | refine zX ?_ | (refine zC ?_; intro _ _ _ _) | (refine zS ?_; intro _ _) | (apply Ws <;> intro hg))
  rw [hli]
  cases hlv : livB T k T with
  | false =>
    obtain ⟨p, rfl⟩ : ∃ p, k = p + 1 := by
      cases k with
      | zero => exact absurd trivial (livB_false.1 hlv)
      | succ p => exact ⟨p, rfl⟩
    repeat' (first | refine zP ?_ | refine zA ?_ | (refine zM ?_; intro _ _) | refine zX ?_ | (refine zC ?_; intro _ _ _ _) | (refine zS ?_; intro _ _) | (apply Ws <;> intro hg))
    rw [show ((p + 1 : Nat) : Int) - 1 = (p : Int) by omega]
    exact Ends.ret2 rfl rfl ⟨gb, p + 1, p, n2, by rw [hm], .inr ⟨p, rfl, hpre p rfl, livB_false.1 hlv⟩, fun h => by omega, by omega, hH4.sub (.cons_cons _ hYM)⟩
  | true =>
    have hSW4 : Sl ((gb, Ch.row 4 0 0 (bools (livL T k))) :: Y) 1 sv ws := hSW.cons
    repeat' (first | refine zP ?_ | refine zA ?_ | (refine zM ?_; intro _ _) | refine zX ?_ | (refine zC ?_; intro _ _ _ _) | (refine zS ?_; intro _ _) | (apply Ws <;> intro hg))
    rw [hwl]
    refine WR.mkS (m := i) (by first | exact gN | exact gS rfl) rfl hH4 rfl rfl (by omega) rfl fun H5 hH5 => ?_
    have hz : List.replicate i (Value.bool false) = bools (cutB (livL T (k + 1)) 0) := by rw [cutB_zero, hLl2, bools, List.map_replicate]
    rw [hz] at hH5
    repeat' (first | refine zP ?_ | refine zA ?_ | (refine zM ?_; intro _ _) | refine zX ?_ | (refine zC ?_; intro _ _ _ _) | (refine zS ?_; intro _ _) | (apply Ws <;> intro hg))
    refine WC.loopX [(0, v), (4, sv), (5, .slice (some ⟨gb, 0, some 0⟩) i (2 * i + 1)), (7, .int .i64 (k : Int)), (8, .slice (some ⟨n2, 0, some 0⟩) i (2 * i + 1))] (fun z : LI => [(10, .int .i64 (z.i : Int)), (9, .bool z.g)]) []
      (fun z H' => z.i ≤ i ∧ z.g = sameK (livL T k) (livL T (k + 1)) z.i ∧ n2 + 1 ≤ z.n ∧ hasH ((n2, .row 4 0 0 (bools (cutB (livL T (k + 1)) z.i))) :: (gb, .row 4 0 0 (bools (livL T k))) :: Y) z.n H') (fun z => i - z.i) ⟨0, true, n2 + 1⟩ (by repeat' (first | exact .nil | refine .cons rfl ?_)) rfl ⟨Nat.zero_le _, rfl, Nat.le_refl _, hH5⟩ ?_
    clear hH4 hH5 hSW4
    rintro ⟨j, g, n3⟩ H6 ⟨hj, hg, hn3, hH6⟩
    simp only at hj hg hn3 hH6
    have hSW6 : Sl ((n2, Ch.row 4 0 0 (bools (cutB (livL T (k + 1)) j))) :: (gb, .row 4 0 0 (bools (livL T k))) :: Y) 1 sv ws := hSW.cons.cons
    dsimp only [List.cons_append, List.nil_append]
    repeat' (first | refine zP ?_ | refine zA ?_ | (refine zM ?_; intro _ _) | refine zX ?_ | (refine zC ?_; intro _ _ _ _) | (refine zS ?_; intro _ _) | (apply Ws <;> intro hg))
    rw [hwl]
    refine WC.condP rfl (fun hlt => ?_) (fun hlt => ?_)
    · have hj' : j < i := by omega
      have hjs : j < (stK T T.length).length := by omega
      have hlok := stK_ok (getD_mem (a := []) hjs)
      have hp0 := hRW.2 j hjs
      have hLg := livL_get (k := k + 1) hjs
      have hLg0 := livL_get (k := k) hjs
      have hall := nxtB_all (k := k) hT hlok
      generalize (stK T T.length).getD j [] = l at hlok hp0 hLg hLg0 hall
      have hwj : j < ws.length := by omega
      have hr1 := hp0.one_
      have hcs : (cutB (livL T (k + 1)) j).set j (nxtB T k l 0) = cutB (livL T (k + 1)) j := cutB_self (by omega)
      rw [← hcs] at hH6
      have hcl : (cutB (livL T (k + 1)) j).length = i := by rw [cutB_len, hLl2]
      clear hSW6 hcs
      repeat' (first | refine zP ?_ | refine zA ?_ | (refine zM ?_; intro _ _) | refine zX ?_ | (refine zC ?_; intro _ _ _ _) | (refine zS ?_; intro _ _) | (apply Ws <;> intro hg))
      refine WC.loopX [(0, v), (4, sv), (5, .slice (some ⟨gb, 0, some 0⟩) i (2 * i + 1)), (7, .int .i64 (k : Int)), (8, .slice (some ⟨n2, 0, some 0⟩) i (2 * i + 1)), (10, .int .i64 (j : Int)), (9, .bool g)] (fun z : GK2 => [(11, .int .i64 (z.k : Int))]) []
        (fun z H' => z.k ≤ T.length ∧ n2 + 1 ≤ z.n ∧ hasH ((n2, .row 4 0 0 (bools ((cutB (livL T (k + 1)) j).set j (nxtB T k l z.k)))) :: (gb, .row 4 0 0 (bools (livL T k))) :: Y) z.n H') (fun z => T.length - z.k) ⟨0, n3⟩ (by repeat' (first | exact .nil | refine .cons rfl ?_)) rfl ⟨Nat.zero_le _, hn3, hH6⟩ ?_
      clear hH6
      rintro ⟨s, n4⟩ H7 ⟨hs, hn4, hH7⟩
      simp only at hs hn4 hH7
      have hSV7 : Sl ((n2, Ch.row 4 0 0 (bools ((cutB (livL T (k + 1)) j).set j (nxtB T k l s)))) :: (gb, .row 4 0 0 (bools (livL T k))) :: Y) 1 v (ints T) := hSV.cons.cons
      have hSW7 : Sl ((n2, Ch.row 4 0 0 (bools ((cutB (livL T (k + 1)) j).set j (nxtB T k l s)))) :: (gb, .row 4 0 0 (bools (livL T k))) :: Y) 1 sv ws := hSW.cons.cons
      dsimp only [List.cons_append, List.nil_append]
      repeat' (first | refine zP ?_ | refine zA ?_ | (refine zM ?_; intro _ _) | refine zX ?_ | (refine zC ?_; intro _ _ _ _) | (refine zS ?_; intro _ _) | (apply Ws <;> intro hg))
      refine WC.condP rfl (fun hlt2 => ?_) (fun hlt2 => ?_)
      · have hs' : s < T.length := by omega
        have hns := nxtB_succ T k l s
        have hset : ∀ b b' : Bool, ((cutB (livL T (k + 1)) j).set j b).set j b' = (cutB (livL T (k + 1)) j).set j b' := fun b b' => by simp
        have hbcell : ∀ b : Bool, (bools ((cutB (livL T (k + 1)) j).set j b))[j]? = some (.bool b) := fun b => by
          rw [bools_get (by simp; omega), getD_set' (by omega), if_pos rfl]
        generalize cutB (livL T (k + 1)) j = NX at *
        generalize nxtB T k l s = b at *
        repeat' (first | refine zP ?_ | refine zA ?_ | (refine zM ?_; intro _ _) | refine zX ?_ | (refine zC ?_; intro _ _ _ _) | (refine zS ?_; intro _ _) | (apply Ws <;> intro hg))
        refine WR.call (by first | exact gN | exact gS rfl) rfl rfl (after_fs hH7 hSV7 hT hp0.cons.cons hlok hs') ?_
        rintro _ H8 ⟨n8, hn8, ⟨hgd, u, Mx, rfl, hOx, hH8⟩ | ⟨hgd, rfl, hH8⟩⟩
        · rw [decide_eq_true hgd, Bool.true_and] at hns
          have hok2 := aft_ok hT hlok ((aft_good hT hlok hs').1 hgd)
          have hlx := livL_idx (k := k) hT hok2
          have hixx := idxK_lt hT hok2 T.length (Nat.le_refl _)
          have hH9 := hH8.perm List.perm_middle
          have hSu : Sl ((n2, Ch.row 4 0 0 (bools (NX.set j b))) :: (Mx ++ ((gb, .row 4 0 0 (bools (livL T k))) :: Y))) 1 u (ints (aftL T l s T.length)) := (hOx.sl _).cons
          have hSV9 : Sl ((n2, Ch.row 4 0 0 (bools (NX.set j b))) :: (Mx ++ ((gb, .row 4 0 0 (bools (livL T k))) :: Y))) 1 v (ints T) := (hSV.cons.mono fun q hq => List.mem_append_right _ hq).cons
          have mG : (gb, Ch.row 4 0 0 (bools (livL T k))) ∈ (n2, Ch.row 4 0 0 (bools (NX.set j b))) :: (Mx ++ ((gb, .row 4 0 0 (bools (livL T k))) :: Y)) := List.mem_cons_of_mem _ (List.mem_append_right _ (.head _))
          have hsubR : ((gb, Ch.row 4 0 0 (bools (livL T k))) :: Y).Sublist (Mx ++ ((gb, .row 4 0 0 (bools (livL T k))) :: Y)) := List.sublist_append_right _ _
          generalize Mx ++ ((gb, Ch.row 4 0 0 (bools (livL T k))) :: Y) = R at hH9 hSu hSV9 mG hsubR
          clear hH8 hOx hH7 hSV7 hSW7
          have hu1 := hSu.one_
          repeat' (first | refine zP ?_ | refine zA ?_ | (refine zM ?_; intro _ _) | refine zX ?_ | (refine zC ?_; intro _ _ _ _) | (refine zS ?_; intro _ _) | (apply Ws <;> intro hg))
          refine WR.op (by first | exact gN | exact gS rfl) rfl (OpV.load1 rfl hH9 (.head _) (.row _ _ _ _) (Nat.zero_le _) (hbcell b)) ?_
          have hbl : (NX.set j b).length = i := by simp [hcl]
          cases b with
          | true =>
            have hbs := hset true true
            repeat' (first | refine zP ?_ | refine zA ?_ | (refine zM ?_; intro _ _) | refine zX ?_ | (refine zC ?_; intro _ _ _ _) | (refine zS ?_; intro _ _) | (apply Ws <;> intro hg))
            rename_i H10 hH10
            rw [hbs] at hH10
            refine Ends.loop ⟨s + 1, n8⟩ (by simp only; omega) (by repeat' (first | exact .nil | refine .cons rfl ?_)) rfl ⟨hs', by simp only; omega, ?_⟩
            show hasH ((n2, .row 4 0 0 (bools (NX.set j (nxtB T k l (s + 1))))) :: (gb, .row 4 0 0 (bools (livL T k))) :: Y) n8 H10
            rw [hns, Bool.true_or]
            exact hH10.sub (.cons_cons _ hsubR)
          | false =>
            repeat' (first | refine zP ?_ | refine zA ?_ | (refine zM ?_; intro _ _) | refine zX ?_ | (refine zC ?_; intro _ _ _ _) | (refine zS ?_; intro _ _) | (apply Ws <;> intro hg))
            refine WR.call (by first | exact gN | exact gS rfl) rfl rfl (index_fs hH9 hSV9 hT hSu hok2) ?_
            rintro _ _ ⟨rfl, rfl⟩
            generalize idxK T (aftL T l s T.length) T.length = iy at hlx hixx ⊢
            repeat' (first | refine zP ?_ | refine zA ?_ | (refine zM ?_; intro _ _) | refine zX ?_ | (refine zC ?_; intro _ _ _ _) | (refine zS ?_; intro _ _) | (apply Ws <;> intro hg))
            rename_i H10 hH10
            rw [hlx, hset] at hH10
            generalize livB T k (aftL T l s T.length) = y at hns hH10
            refine Ends.loop ⟨s + 1, n8⟩ (by simp only; omega) (by repeat' (first | exact .nil | refine .cons rfl ?_)) rfl ⟨hs', by simp only; omega, ?_⟩
            show hasH ((n2, .row 4 0 0 (bools (NX.set j (nxtB T k l (s + 1))))) :: (gb, .row 4 0 0 (bools (livL T k))) :: Y) n8 H10
            rw [hns, Bool.false_or]
            exact hH10.sub (.cons_cons _ hsubR)
        · rw [decide_eq_false hgd, Bool.false_and, Bool.or_false] at hns
          have hbl : (NX.set j b).length = i := by simp [hcl]
          clear hSV7 hSW7
          have hgb : (NX.set j b).getD j false = b := by rw [getD_set' (by omega), if_pos rfl]
          repeat' (first | refine zP ?_ | refine zA ?_ | (refine zM ?_; intro _ _) | refine zX ?_ | (refine zC ?_; intro _ _ _ _) | (refine zS ?_; intro _ _) | (apply Ws <;> intro hg))
          rw [hgb]
          have hbs := hset b b
          cases b with
          | true =>
            repeat' (first | refine zP ?_ | refine zA ?_ | (refine zM ?_; intro _ _) | refine zX ?_ | (refine zC ?_; intro _ _ _ _) | (refine zS ?_; intro _ _) | (apply Ws <;> intro hg))
            rename_i H10 hH10
            rw [hbs] at hH10
            refine Ends.loop ⟨s + 1, n8⟩ (by simp only; omega) (by repeat' (first | exact .nil | refine .cons rfl ?_)) rfl ⟨hs', by simp only; omega, ?_⟩
            show hasH ((n2, .row 4 0 0 (bools (NX.set j (nxtB T k l (s + 1))))) :: (gb, .row 4 0 0 (bools (livL T k))) :: Y) n8 H10
            rw [hns]; exact hH10
          | false =>
            repeat' (first | refine zP ?_ | refine zA ?_ | (refine zM ?_; intro _ _) | refine zX ?_ | (refine zC ?_; intro _ _ _ _) | (refine zS ?_; intro _ _) | (apply Ws <;> intro hg))
            rename_i H10 hH10
            rw [hbs] at hH10
            refine Ends.loop ⟨s + 1, n8⟩ (by simp only; omega) (by repeat' (first | exact .nil | refine .cons rfl ?_)) rfl ⟨hs', by simp only; omega, ?_⟩
            show hasH ((n2, .row 4 0 0 (bools (NX.set j (nxtB T k l (s + 1))))) :: (gb, .row 4 0 0 (bools (livL T k))) :: Y) n8 H10
            rw [hns]; exact hH10
      · have hst2 : s = T.length := by omega
        subst hst2
        rw [hall, ← hLg, cutB_set (by omega)] at hH7
        have hgN : (cutB (livL T (k + 1)) (j + 1)).getD j false = livB T (k + 1) l := by
          rw [cutB_get (by omega), decide_eq_true (Nat.lt_succ_self j), Bool.true_and, hLg]
        have hsk := sameK_succ (livL T k) (livL T (k + 1)) j
        rw [hLg, hLg0, ← hg] at hsk
        have hcl2 : (cutB (livL T (k + 1)) (j + 1)).length = i := by rw [cutB_len, hLl2]
        clear hSV7 hSW7
        cases g with
        | true =>
          repeat' (first | refine zP ?_ | refine zA ?_ | (refine zM ?_; intro _ _) | refine zX ?_ | (refine zC ?_; intro _ _ _ _) | (refine zS ?_; intro _ _) | (apply Ws <;> intro hg))
          rw [hgN, hLg0]
          refine WR.op (by first | exact gN | exact gS rfl) rfl (OpV.eqB (eqB _ _) rfl rfl) ?_
          repeat' (first | refine zP ?_ | refine zA ?_ | (refine zM ?_; intro _ _) | refine zX ?_ | (refine zC ?_; intro _ _ _ _) | (refine zS ?_; intro _ _) | (apply Ws <;> intro hg))
          exact Ends.loop ⟨j + 1, livB T (k + 1) l == livB T k l, n4⟩ (by simp only; omega) (by repeat' (first | exact .nil | refine .cons rfl ?_)) rfl ⟨hj', by rw [hsk]; rfl, by simp only; omega, hH7⟩
        | false =>
          repeat' (first | refine zP ?_ | refine zA ?_ | (refine zM ?_; intro _ _) | refine zX ?_ | (refine zC ?_; intro _ _ _ _) | (refine zS ?_; intro _ _) | (apply Ws <;> intro hg))
          exact Ends.loop ⟨j + 1, false, n4⟩ (by simp only; omega) (by repeat' (first | exact .nil | refine .cons rfl ?_)) rfl ⟨hj', by rw [hsk]; rfl, by simp only; omega, hH7⟩
    · have hji : j = i := by omega
      subst hji
      have hca : cutB (livL T (k + 1)) j = livL T (k + 1) := by rw [← hLl2]; exact cutB_all _
      rw [hca] at hH6 hSW6
      have hsa := sameK_all (G := livL T k) (N := livL T (k + 1)) (by omega)
      rw [hLl, ← hg] at hsa
      cases g with
      | true =>
        have hsm := hsa.1 rfl
        repeat' (first | refine zP ?_ | refine zA ?_ | (refine zM ?_; intro _ _) | refine zX ?_ | (refine zC ?_; intro _ _ _ _) | (refine zS ?_; intro _ _) | (apply Ws <;> intro hg))
        exact Ends.ret2 rfl rfl ⟨gb, k, -1, n3, by rw [hm], .inl ⟨rfl, liv_stop hT hsm (start_ok hT) (livB_true.1 hlv)⟩, fun _ s hs hk => liv_stop hT hsm hs hk, by omega, hH6.tail.sub (.cons_cons _ hYM)⟩
      | false =>
        have hkne : k ≠ k0 := fun e => by
          subst e
          have := hsa.2 (liv_stab hT hst)
          cases this
        repeat' (first | refine zP ?_ | refine zA ?_ | (refine zM ?_; intro _ _) | refine zX ?_ | (refine zC ?_; intro _ _ _ _) | (refine zS ?_; intro _ _) | (apply Ws <;> intro hg))
        refine Ends.loop ⟨k + 1, n2, n3⟩ (by simp only; omega) (by repeat' (first | exact .nil | refine .cons rfl ?_)) rfl ⟨by simp only; omega, fun p hp => ?_, by simp only; omega, hH6.sub (.cons_cons _ (List.sublist_cons_self _ _))⟩
        have : p = k := by simp only at hp; omega
        subst this
        exact livB_true.1 hlv
end
end Go.Proofs.Ytnmlfjohoeebiaa.Wk

/- A plan, repeated nine times. -/
namespace Go.Proofs.Ytnmlfjohoeebiaa.Wk
open Go Go.Abs Go.Mth
set_option linter.unusedVariables false
set_option linter.unusedSimpArgs false
set_option maxRecDepth 100000 in
theorem mul64_nine (H : Heap) : ∀ p : Nat, p < 61 → ∃ k, runW C k (.call 82 [.int .u64 (p : Int), .int .u64 9] H) = some (.val (.tuple #[.int .u64 0, .int .u64 ((p * 9 : Nat) : Int)]) H)
  | 0, _ => ⟨100, by kernel_rfl⟩
  | 1, _ => ⟨100, by kernel_rfl⟩
  | 2, _ => ⟨100, by kernel_rfl⟩
  | 3, _ => ⟨100, by kernel_rfl⟩
  | 4, _ => ⟨100, by kernel_rfl⟩
  | 5, _ => ⟨100, by kernel_rfl⟩
  | 6, _ => ⟨100, by kernel_rfl⟩
  | 7, _ => ⟨100, by kernel_rfl⟩
  | 8, _ => ⟨100, by kernel_rfl⟩
  | 9, _ => ⟨100, by kernel_rfl⟩
  | 10, _ => ⟨100, by kernel_rfl⟩
  | 11, _ => ⟨100, by kernel_rfl⟩
  | 12, _ => ⟨100, by kernel_rfl⟩
  | 13, _ => ⟨100, by kernel_rfl⟩
  | 14, _ => ⟨100, by kernel_rfl⟩
  | 15, _ => ⟨100, by kernel_rfl⟩
  | 16, _ => ⟨100, by kernel_rfl⟩
  | 17, _ => ⟨100, by kernel_rfl⟩
  | 18, _ => ⟨100, by kernel_rfl⟩
  | 19, _ => ⟨100, by kernel_rfl⟩
  | 20, _ => ⟨100, by kernel_rfl⟩
  | 21, _ => ⟨100, by kernel_rfl⟩
  | 22, _ => ⟨100, by kernel_rfl⟩
  | 23, _ => ⟨100, by kernel_rfl⟩
  | 24, _ => ⟨100, by kernel_rfl⟩
  | 25, _ => ⟨100, by kernel_rfl⟩
  | 26, _ => ⟨100, by kernel_rfl⟩
  | 27, _ => ⟨100, by kernel_rfl⟩
  | 28, _ => ⟨100, by kernel_rfl⟩
  | 29, _ => ⟨100, by kernel_rfl⟩
  | 30, _ => ⟨100, by kernel_rfl⟩
  | 31, _ => ⟨100, by kernel_rfl⟩
  | 32, _ => ⟨100, by kernel_rfl⟩
  | 33, _ => ⟨100, by kernel_rfl⟩
  | 34, _ => ⟨100, by kernel_rfl⟩
  | 35, _ => ⟨100, by kernel_rfl⟩
  | 36, _ => ⟨100, by kernel_rfl⟩
  | 37, _ => ⟨100, by kernel_rfl⟩
  | 38, _ => ⟨100, by kernel_rfl⟩
  | 39, _ => ⟨100, by kernel_rfl⟩
  | 40, _ => ⟨100, by kernel_rfl⟩
  | 41, _ => ⟨100, by kernel_rfl⟩
  | 42, _ => ⟨100, by kernel_rfl⟩
  | 43, _ => ⟨100, by kernel_rfl⟩
  | 44, _ => ⟨100, by kernel_rfl⟩
  | 45, _ => ⟨100, by kernel_rfl⟩
  | 46, _ => ⟨100, by kernel_rfl⟩
  | 47, _ => ⟨100, by kernel_rfl⟩
  | 48, _ => ⟨100, by kernel_rfl⟩
  | 49, _ => ⟨100, by kernel_rfl⟩
  | 50, _ => ⟨100, by kernel_rfl⟩
  | 51, _ => ⟨100, by kernel_rfl⟩
  | 52, _ => ⟨100, by kernel_rfl⟩
  | 53, _ => ⟨100, by kernel_rfl⟩
  | 54, _ => ⟨100, by kernel_rfl⟩
  | 55, _ => ⟨100, by kernel_rfl⟩
  | 56, _ => ⟨100, by kernel_rfl⟩
  | 57, _ => ⟨100, by kernel_rfl⟩
  | 58, _ => ⟨100, by kernel_rfl⟩
  | 59, _ => ⟨100, by kernel_rfl⟩
  | 60, _ => ⟨100, by kernel_rfl⟩
  | p + 61, h => absurd h (by omega)
theorem Mul_fs {H : Heap} {p : Nat} (h : p < 61) : FS C 82 [.int .u64 (p : Int), .int .u64 9] H (fun v H' => v = .tuple #[.int .u64 0, .int .u64 ((p * 9 : Nat) : Int)] ∧ H' = H) := by
  obtain ⟨k, hk⟩ := mul64_nine H p h
  exact ⟨_, _, ⟨k, hk⟩, rfl, rfl⟩
theorem uk : C.c.P.underlying 101 = some (.int .u64) := by kernel_rfl
/-- So many times the same. -/
def repI (P : List Int) (m : Nat) : List Int := (List.replicate m P).flatten
theorem repI_len (P : List Int) : ∀ m, (repI P m).length = m * P.length
  | 0 => by simp [repI]
  | m + 1 => by
    have := repI_len P m
    simp only [repI, List.replicate_succ, List.flatten_cons, List.length_append] at this ⊢
    rw [this, Nat.succ_mul]; omega
theorem repI_get (P : List Int) : ∀ {m j : Nat}, j < m * P.length → (repI P m).getD j 0 = P.getD (j % P.length) 0
  | 0, j, h => by simp at h
  | m + 1, j, h => by
    have e : repI P (m + 1) = P ++ repI P m := by simp [repI, List.replicate_succ]
    rw [e]
    by_cases h1 : j < P.length
    · rw [getD_app_l h1, Nat.mod_eq_of_lt h1]
    · rw [List.getD_eq_getElem?_getD, List.getElem?_append_right (by omega), ← List.getD_eq_getElem?_getD, repI_get P (by rw [Nat.succ_mul] at h; omega)]
      congr 1
      rw [Nat.mod_eq_sub_mod (by omega : j ≥ P.length)]
structure KR where
  k : Nat
  ys : List Int
attribute [local irreducible] gOK WS WC WR WD Ends FS YS OpV seqK blockK loopK midK retK rdK asgK rangeEnd sat Cell
section
variable {M : HL} {n0 : Nat} {H : Heap} {v w : Value}
set_option maxHeartbeats 1000000 in
theorem Repeat_fs (hH : hasH M n0 H) {P : List Int} (hS : Sl M 1 v (ints P)) (hp1 : 1 ≤ P.length) (hp : P.length ≤ 60) :
    FS C 66 [v, .int .i64 9] H (fun e H' => ∃ b n', e = .slice (some ⟨b, 0, some 0⟩) (P.length * 9) (2 * (P.length * 9) + 1) ∧ n0 ≤ n' ∧ hasH ((b, .row 3 0 0 (ints (repI P 9))) :: M) n' H') := by
  have h1 := hS.one_
  obtain ⟨p, hpe⟩ : ∃ p, P.length = p := ⟨_, rfl⟩
  refine FS.intro (pf := pf66) rfl rfl rfl ?_
  repeat' (first | refine zP ?_ | refine zA ?_ | (refine zM ?_; intro _ _) | refine zX ?_ | (refine zC ?_; intro _ _ _ _) | (refine zS ?_; intro _ _) | refine zO ?_ | (apply Ws <;> intro hg))
  rw [hpe] at hp1 hp ⊢
  refine WR.op (by first | exact gN | exact gS rfl) rfl (OpV.conv i64k uk rfl (c := (p : Int)) (IntWalk.u64_in _ (by omega))) ?_
  repeat' (first | refine zP ?_ | refine zA ?_ | (refine zM ?_; intro _ _) | refine zX ?_ | (refine zC ?_; intro _ _ _ _) | (refine zS ?_; intro _ _) | (apply Ws <;> intro hg))
  refine WR.op (by first | exact gN | exact gS rfl) rfl (OpV.conv i64k uk rfl (c := (9 : Int)) rfl) ?_
  refine WR.call (by first | exact gN | exact gS rfl) rfl rfl (Mul_fs (by omega)) ?_
  rintro _ _ ⟨rfl, rfl⟩
  repeat' (first | refine zP ?_ | refine zA ?_ | (refine zM ?_; intro _ _) | refine zX ?_ | (refine zC ?_; intro _ _ _ _) | (refine zS ?_; intro _ _) | refine zO ?_ | (apply Ws <;> intro hg))
  refine WR.op (by first | exact gN | exact gS rfl) rfl (OpV.conv uk i64k rfl (c := ((p * 9 : Nat) : Int)) (IntWalk.i64_in _ (by omega))) ?_
  obtain ⟨m, hm⟩ : ∃ m, p * 9 = m := ⟨_, rfl⟩
  rw [hm]
  refine WR.mkS (by first | exact gN | exact gS rfl) rfl hH rfl rfl (by omega) rfl fun H2 hH2 => ?_
  replace hH2 : hasH ((n0, .row 3 0 0 (ints (List.replicate m 0))) :: M) (n0 + 1) H2 := by rw [ints, List.map_replicate]; exact hH2
  have hS2 := hS.cons (p := (n0, .row 3 0 0 (ints (List.replicate m 0))))
  repeat' (first | refine zP ?_ | refine zA ?_ | (refine zM ?_; intro _ _) | refine zX ?_ | (refine zC ?_; intro _ _ _ _) | (refine zS ?_; intro _ _) | (apply Ws <;> intro hg))
  refine WR.copyMin (by first | exact gN | exact gS rfl) rfl rfl rfl hS2 hH2 .here (ints_one _) (Nat.le_refl _) (m := p) (by rw [List.length_map, hpe]; exact Nat.min_eq_left (by omega)) (by omega) (by simp; omega) rfl fun H3 hH3 => ?_
  rw [show (ints P).take p = ints (P.take p) by simp [ints, List.map_take], List.take_of_length_le (by omega), splice_ints] at hH3
  have hget0 := fun j => splice_get (cs := List.replicate m 0) (l := P) (i := 0 - 0) (by simp; omega) j
  have hl0 : ((List.replicate m (0 : Int)).take (0 - 0) ++ P ++ (List.replicate m 0).drop (0 - 0 + P.length)).length = m := by simp; omega
  have ha0 : ∀ j, j < p → ((List.replicate m (0 : Int)).take (0 - 0) ++ P ++ (List.replicate m 0).drop (0 - 0 + P.length)).getD j 0 = P.getD (j % p) 0 := fun j hj => by
    rw [hget0, if_neg (by omega), if_pos (by omega), Nat.mod_eq_of_lt hj]; rfl
  generalize (List.replicate m (0 : Int)).take (0 - 0) ++ P ++ (List.replicate m 0).drop (0 - 0 + P.length) = ys0 at hH3 hl0 ha0
  clear hget0 hS2
  repeat' (first | refine zP ?_ | refine zA ?_ | (refine zM ?_; intro _ _) | refine zX ?_ | (refine zC ?_; intro _ _ _ _) | (refine zS ?_; intro _ _) | (apply Ws <;> intro hg))
  refine WC.loopX [(7, .slice (some ⟨n0, 0, some 0⟩) m (2 * m + 1))] (fun s : KR => [(8, .int .i64 (s.k : Int))]) []
    (fun s H' => p ≤ s.k ∧ s.k ≤ m ∧ s.k % p = 0 ∧ s.ys.length = m ∧ (∀ j, j < s.k → s.ys.getD j 0 = P.getD (j % p) 0) ∧ hasH ((n0, .row 3 0 0 (ints s.ys)) :: M) (n0 + 1) H') (fun s => m - s.k) ⟨p, ys0⟩ (by repeat' (first | exact .nil | refine .cons rfl ?_)) rfl ⟨Nat.le_refl _, by simp only; omega, by simp, hl0, ha0, hH3⟩ ?_
  clear hH3 hH2 ha0 hl0
  rintro ⟨k, ys⟩ H4 ⟨hk1, hk, hkp, hl, ha, hH4⟩
  simp only at hk1 hk hkp hl ha hH4
  dsimp only [List.cons_append, List.nil_append]
  repeat' (first | refine zP ?_ | refine zA ?_ | (refine zM ?_; intro _ _) | refine zX ?_ | (refine zC ?_; intro _ _ _ _) | (refine zS ?_; intro _ _) | (apply Ws <;> intro hg))
  refine WC.condP rfl (fun hlt => ?_) (fun hlt => ?_)
  · have hk' : k < m := by omega
    repeat' (first | refine zP ?_ | refine zA ?_ | (refine zM ?_; intro _ _) | refine zX ?_ | (refine zC ?_; intro _ _ _ _) | (refine zS ?_; intro _ _) | (apply Ws <;> intro hg))
    refine WR.op (by first | exact gN | exact gS rfl) rfl (OpV.slLoK rfl rfl (by omega) (Nat.le_refl _) hk') ?_
    repeat' (first | refine zP ?_ | refine zA ?_ | (refine zM ?_; intro _ _) | refine zX ?_ | (refine zC ?_; intro _ _ _ _) | (refine zS ?_; intro _ _) | (apply Ws <;> intro hg))
    refine WR.op (by first | exact gN | exact gS rfl) rfl (OpV.slHiK rfl rfl (by omega) (by omega)) ?_
    have hSl : Sl ((n0, .row 3 0 0 (ints ys)) :: M) 1 (.slice (some ⟨n0, 0, some 0⟩) k (2 * m + 1)) (ints (ys.take k)) :=
      .row (lo := 0) (cs := ints ys) (.head _) (.row _ _ _ _) (Nat.zero_le _) (by simp; omega) (by simp [ints, List.map_take]) (by simp; omega) (.inr ⟨m, rfl, by omega⟩)
    obtain ⟨d, hd⟩ : ∃ d, min k (m - k) = d := ⟨_, rfl⟩
    have hmp : m % p = 0 := by rw [← hm]; exact Nat.mul_mod_right p 9
    have hdp : d % p = 0 := by
      have hd1 := Nat.dvd_of_mod_eq_zero hkp
      have hd2 := Nat.dvd_of_mod_eq_zero hmp
      rcases Nat.le_total k (m - k) with h | h
      · rw [← hd, Nat.min_eq_left h]; exact hkp
      · rw [← hd, Nat.min_eq_right h]; exact Nat.mod_eq_zero_of_dvd (Nat.dvd_sub hd2 hd1)
    refine WR.copyMin (by first | exact gN | exact gS rfl) rfl rfl rfl hSl hH4 .here (ints_one _) (Nat.zero_le _) (m := d) (by rw [show (ints (ys.take k)).length = k by simp; omega]; exact hd) (by omega) (by simp; omega) rfl fun H5 hH5 => ?_
    rw [show (ints (ys.take k)).take d = ints ((ys.take k).take d) by simp [ints, List.map_take], show splice (ints ys) (0 + k - 0) (ints ((ys.take k).take d)) = ints (ys.take (0 + k - 0) ++ (ys.take k).take d ++ ys.drop ((0 + k - 0) + ((ys.take k).take d).length)) from splice_ints] at hH5
    have htl : ((ys.take k).take d).length = d := by simp; omega
    have hget := fun j => splice_get (cs := ys) (l := (ys.take k).take d) (i := 0 + k - 0) (by omega) j
    have hnl : (ys.take (0 + k - 0) ++ (ys.take k).take d ++ ys.drop ((0 + k - 0) + ((ys.take k).take d).length)).length = m := by simp; omega
    generalize ys.take (0 + k - 0) ++ (ys.take k).take d ++ ys.drop ((0 + k - 0) + ((ys.take k).take d).length) = ys2 at hH5 hget hnl
    repeat' (first | refine zP ?_ | refine zA ?_ | (refine zM ?_; intro _ _) | refine zX ?_ | (refine zC ?_; intro _ _ _ _) | (refine zS ?_; intro _ _) | (apply Ws <;> intro hg))
    refine Ends.loop ⟨k + d, ys2⟩ (by simp only; omega) (by repeat' (first | exact .nil | refine .cons rfl ?_)) rfl ⟨by simp only; omega, by simp only; omega, by simp only; rw [Nat.add_mod, hkp, hdp]; simp, hnl, fun j hj => ?_, hH5⟩
    simp only at hj ⊢
    rw [hget, htl]
    split
    · exact ha j (by omega)
    · rw [if_pos (by omega), List.getD_eq_getElem?_getD, List.getElem?_take_of_lt (by omega), List.getElem?_take_of_lt (by omega), ← List.getD_eq_getElem?_getD, ha _ (by omega)]
      congr 1
      have : j = k + (j - k) := by omega
      rw [show 0 + k - 0 = k by omega]
      conv => rhs; rw [this, Nat.add_mod, hkp, Nat.zero_add, Nat.mod_mod]
  have hkn : k = m := by omega
  subst hkn
  have : ys = repI P 9 := ext_getD (a := 0) (by rw [repI_len]; omega) fun j hj => by rw [ha j (by omega), repI_get P (by omega), hpe]
  subst this
  repeat' (first | refine zP ?_ | refine zA ?_ | (refine zM ?_; intro _ _) | refine zX ?_ | (refine zC ?_; intro _ _ _ _) | (refine zS ?_; intro _ _) | (apply Ws <;> intro hg))
  exact Ends.ret1 rfl ⟨n0, n0 + 1, rfl, by omega, hH4⟩
end
end Go.Proofs.Ytnmlfjohoeebiaa.Wk

/- A plan that is repeated meets all. -/
namespace Go.Proofs.Ytnmlfjohoeebiaa.Wk
open Go Go.Abs Go.Mth
set_option linter.unusedVariables false
set_option linter.unusedSimpArgs false
/-- A plan, around its end. -/
def CycG (T P : List Int) : Prop := ∀ i, i < T.length → ∀ f, ∃ k, k < (T.getD i 0).toNat ∧ P.getD ((f + k) % P.length) 0 = (i : Int)
noncomputable def meetE (T P : List Int) : Int := if errT T ≠ 0 then errT T else if P.length = 0 then 4 else if walkE T.length P ≠ 0 then walkE T.length P else if goodB T (repI P 9) = true then 0 else 14
theorem rep_wok {n : Nat} {P : List Int} (h : WOK n P) (m : Nat) : WOK n (repI P m) := fun x hx => by
  obtain ⟨l, hl, hx⟩ := List.mem_flatten.1 hx
  rw [(List.mem_replicate.1 hl).2] at hx
  exact h x hx
attribute [local irreducible] gOK WS WC WR WD Ends FS YS OpV seqK blockK loopK midK retK rdK asgK rangeEnd sat Cell
section
variable {M : HL} {n0 : Nat} {H : Heap} {v w : Value}
theorem Meets_fs (hH : hasH M n0 H) {T : List Int} (hS : Sl M 1 v (ints T)) (hTl : T.length ≤ 1000) {P : List Int} (hW : Sl M 1 w (ints P)) (hwl : P.length ≤ 1000) :
    FS C 30 [v, w] H (fun e H' => ∃ n', n0 ≤ n' ∧ hasH M n' H' ∧ e = .int .i64 (meetE T P)) := by
  refine FS.intro (pf := pf30) rfl rfl rfl ?_
  repeat' (first | refine zP ?_ | refine zA ?_ | (refine zM ?_; intro _ _) | refine zX ?_ | (refine zC ?_; intro _ _ _ _) | (refine zS ?_; intro _ _) | (apply Ws <;> intro hg))
  refine WR.call (by first | exact gN | exact gS rfl) rfl rfl (Check_fs hH hS hTl) ?_
  rintro _ _ ⟨rfl, rfl⟩
  by_cases h0 : errT T = 0
  · obtain ⟨hT, h1⟩ := errT_ok h0
    by_cases hp0 : P.length = 0
    · have hE : meetE T P = 4 := by unfold meetE; rw [if_neg (by omega), if_pos hp0]
      repeat' (first | refine zP ?_ | refine zA ?_ | (refine zM ?_; intro _ _) | refine zX ?_ | (refine zC ?_; intro _ _ _ _) | (refine zS ?_; intro _ _) | refine zO ?_ | (apply Ws <;> intro hg))
      exact Ends.ret1 rfl ⟨n0, Nat.le_refl _, hH, by rw [hE]⟩
    · repeat' (first | refine zP ?_ | refine zA ?_ | (refine zM ?_; intro _ _) | refine zX ?_ | (refine zC ?_; intro _ _ _ _) | (refine zS ?_; intro _ _) | refine zO ?_ | (apply Ws <;> intro hg))
      refine WR.call (by first | exact gN | exact gS rfl) rfl rfl (strs_fs hH hS hTl hW hwl) ?_
      rintro _ _ ⟨rfl, rfl⟩
      by_cases h2 : walkE T.length P = 0
      · have hwk := walkE_ok.1 h2
        repeat' (first | refine zP ?_ | refine zA ?_ | (refine zM ?_; intro _ _) | refine zX ?_ | (refine zC ?_; intro _ _ _ _) | (refine zS ?_; intro _ _) | refine zO ?_ | (apply Ws <;> intro hg))
        refine WR.call (by first | exact gN | exact gS rfl) rfl rfl (Repeat_fs hH hW (by omega) hwk.1) ?_
        rintro _ H1 ⟨b, n1, rfl, hn1, hH1⟩
        have hrl := repI_len P 9
        have hSR : Sl ((b, Ch.row 3 0 0 (ints (repI P 9))) :: M) 1 (.slice (some ⟨b, 0, some 0⟩) (P.length * 9) (2 * (P.length * 9) + 1)) (ints (repI P 9)) :=
          .row (lo := 0) (cs := ints (repI P 9)) (.head _) (.row _ _ _ _) (Nat.zero_le _) (by simp [hrl]; omega) (by rw [Nat.sub_zero, List.drop_zero, List.take_length]) (by simp) (.inr ⟨P.length * 9, rfl, Nat.le_refl _⟩)
        have hgg := go_good hT (rep_wok hwk.2 9)
        repeat' (first | refine zP ?_ | refine zA ?_ | (refine zM ?_; intro _ _) | refine zX ?_ | (refine zC ?_; intro _ _ _ _) | (refine zS ?_; intro _ _) | (apply Ws <;> intro hg))
        refine WR.call (by first | exact gN | exact gS rfl) rfl rfl (follow_fs hH1 hS.cons hT h1 hSR (rep_wok hwk.2 9) (by omega)) ?_
        rintro _ H2 ⟨n2, hn2, hH2, ⟨s, hgo, rfl⟩ | ⟨hgo, rfl⟩⟩
        · have hsl : s.length = 4 := (goS_ok hT (start_ok hT) (rep_wok hwk.2 9) hgo).len
          have hE : meetE T P = 0 := by
            rcases hgg with ⟨h, _⟩ | ⟨h, _⟩
            · rw [hgo] at h; cases h
            · unfold meetE; rw [if_neg (by omega), if_neg hp0, if_neg (by omega), if_pos (goodB_true.2 h)]
          repeat' (first | refine zP ?_ | refine zA ?_ | (refine zM ?_; intro _ _) | refine zX ?_ | (refine zC ?_; intro _ _ _ _) | (refine zS ?_; intro _ _) | (apply Ws <;> intro hg))
          rename_i H3 hH3
          refine WR.storeA (by first | exact gN | exact gS rfl) hH3 rfl rfl hsl .here rfl fun H4 hH4 => ?_
          repeat' (first | refine zP ?_ | refine zA ?_ | (refine zM ?_; intro _ _) | refine zX ?_ | (refine zC ?_; intro _ _ _ _) | (refine zS ?_; intro _ _) | (apply Ws <;> intro hg))
          exact Ends.ret1 rfl ⟨n2 + 1, by omega, hH4.tail.tail, by rw [hE]⟩
        · have hE : meetE T P = 14 := by
            rcases hgg with ⟨_, h⟩ | ⟨_, s, h, _⟩
            · unfold meetE; rw [if_neg (by omega), if_neg hp0, if_neg (by omega), if_neg (by rw [goodB_false h]; simp)]
            · rw [hgo] at h; cases h
          repeat' (first | refine zP ?_ | refine zA ?_ | (refine zM ?_; intro _ _) | refine zX ?_ | (refine zC ?_; intro _ _ _ _) | (refine zS ?_; intro _ _) | (apply Ws <;> intro hg))
          rename_i H3 hH3
          refine WR.storeA (s := [0, 0, 0, 0]) (by first | exact gN | exact gS rfl) hH3 rfl rfl rfl .here rfl fun H4 hH4 => ?_
          repeat' (first | refine zP ?_ | refine zA ?_ | (refine zM ?_; intro _ _) | refine zX ?_ | (refine zC ?_; intro _ _ _ _) | (refine zS ?_; intro _ _) | (apply Ws <;> intro hg))
          exact Ends.ret1 rfl ⟨n2 + 1, by omega, hH4.tail.tail, by rw [hE]⟩
      · have hE : meetE T P = walkE T.length P := by unfold meetE; rw [if_neg (by omega), if_neg hp0, if_pos h2]
        repeat' (first | refine zP ?_ | refine zA ?_ | (refine zM ?_; intro _ _) | refine zX ?_ | (refine zC ?_; intro _ _ _ _) | (refine zS ?_; intro _ _) | refine zO ?_ | (apply Ws <;> intro hg))
        exact Ends.ret1 rfl ⟨n0, Nat.le_refl _, hH, by rw [hE]⟩
  · have hE : meetE T P = errT T := by unfold meetE; rw [if_pos h0]
    repeat' (first | refine zP ?_ | refine zA ?_ | (refine zM ?_; intro _ _) | refine zX ?_ | (refine zC ?_; intro _ _ _ _) | (refine zS ?_; intro _ _) | refine zO ?_ | (apply Ws <;> intro hg))
    exact Ends.ret1 rfl ⟨n0, Nat.le_refl _, hH, by rw [hE]⟩
end
end Go.Proofs.Ytnmlfjohoeebiaa.Wk

/- Slices joined. -/
namespace Go.Abs
set_option linter.unusedSectionVars false
set_option linter.unusedSimpArgs false
set_option linter.unusedVariables false
variable [Globs]
open Go
section
variable {C : CW} {nt : Nat} {L : Env} {D : List Nat} {H : Heap} {K : St → Prop} {M M' : HL} {n i d : Nat} {gd : Option (Tmp × Bool)} {lo' : List Nat} {l : List POp}
theorem WR.appZ {e m : Nat} {z : Value} {s x : Operand} (hg : gOK L gd) (hd : Nat.blt d nt = true) (hs : ev L s = some (.slice none 0 0)) (hx : ev L x = some (.int .i64 (m : Int))) (hH : hasH M n H) (hm : 1 ≤ m) (hm2 : m ≤ 70000) (hz : one z = true)
    (kk : ∀ H', hasH ((n, .row e 0 0 (List.replicate m z)) :: M) (n + 1) H' → WR C nt l ((d, .slice (some ⟨n, 0, some 0⟩) m (2 * 1)) :: L) D H' K) : WR C nt (⟨i, some d, .appZ e 1 [z] s x, gd, lo'⟩ :: l) L D H K := by
  have hf : (List.replicate m [z]).flatten = List.replicate m z := by
    clear hx hm hm2 kk
    induction m with
    | zero => rfl
    | succ m ih => simp [List.replicate_succ, ih]
  refine WR.op hg hd (H' := H.row e (List.replicate m z)) (v := .slice (some ⟨n, 0, some 0⟩) m (2 * 1)) (fun t ht => ?_) (kk _ (hH.row e (by rw [List.all_eq_true]; intro q hq; rw [(List.mem_replicate.1 hq).2]; exact hz)))
  have b1 : Nat.ble 1 m = true := Nat.ble_eq_true_of_le hm
  have b2 : small 1 m = true := by unfold small; rw [Nat.ble_eq_true_of_le (show m ≤ 100000 by omega)]; rfl
  have hmi : ((m : Nat) : Int) = Int.ofNat m := rfl
  rw [hmi] at hx
  simp only [opA, ev_ok ht hs, ev_ok ht hx, oAppZ, b1, b2, Bool.and_self, cond_true, newAddr, hH.next, hf]
end
end Go.Abs
namespace Go.Proofs.Ytnmlfjohoeebiaa.Wk
open Go Go.Abs Go.Mth
set_option linter.unusedVariables false
set_option linter.unusedSimpArgs false
def lenS (Ls : List (List Int)) : Nat := (Ls.map List.length).sum
structure PartsM (M : HL) (ws : List Value) (Ls : List (List Int)) : Prop where
  len : ws.length = Ls.length
  sl : ∀ i, i < Ls.length → Sl M 1 (ws.getD i undef) (ints (Ls.getD i []))
  rd : ∀ i, i < Ls.length → Ls.getD i [] = [] → RdS M (ws.getD i undef)
theorem PartsM.mono {M M' : HL} {ws : List Value} {Ls : List (List Int)} (h : PartsM M ws Ls) (k : ∀ q ∈ M, q ∈ M') : PartsM M' ws Ls := ⟨h.len, fun i hi => (h.sl i hi).mono k, fun i hi h0 => (h.rd i hi h0).mono k⟩
attribute [local irreducible] gOK WS WC WR WD Ends FS YS OpV seqK blockK loopK midK retK rdK asgK rangeEnd sat Cell
section
variable {M : HL} {n0 : Nat} {H : Heap} {v w : Value}
end
end Go.Proofs.Ytnmlfjohoeebiaa.Wk

/- The weight of numbers of tides; long walks. -/
namespace Go.Proofs.Ytnmlfjohoeebiaa.Wk
open Go Go.Abs Go.Mth
set_option linter.unusedVariables false
set_option linter.unusedSimpArgs false
structure GP where
  a : Nat
  b : Nat
structure WP3 where
  k : Nat
  a : Nat
  b : Nat
/-- What the weight is. -/
structure WghtR (T : List Int) (a b : Nat) : Prop where
  a1 : 1 ≤ a
  b1 : 1 ≤ b
  le : a ≤ 4 * b
  dv : b ∣ 840
  cop : Nat.Coprime a b
  eq : sumW T * (b : Int) = 840 * (a : Int)
attribute [local irreducible] gOK WS WC WR WD Ends FS YS OpV seqK blockK loopK midK retK rdK asgK rangeEnd sat Cell
section
variable {M : HL} {n0 : Nat} {H : Heap} {v w : Value}
end
end Go.Proofs.Ytnmlfjohoeebiaa.Wk

/- The law WalkCan. -/
namespace Go.Proofs.Ytnmlfjohoeebiaa.Wk
open Go Go.Abs Go.Mth
set_option linter.unusedVariables false
set_option linter.unusedSimpArgs false
theorem WghtR.one {T : List Int} {a b c d : Nat} (h : WghtR T a b) (k : WghtR T c d) : a = c ∧ b = d := by
  have e1 := h.eq
  have e2 := k.eq
  have hI : (a : Int) * (d : Int) = (c : Int) * (b : Int) := by
    have h3 : (840 * (a : Int)) * (d : Int) = (840 * (c : Int)) * (b : Int) := by
      rw [← e1, ← e2, Int.mul_assoc, Int.mul_assoc, Int.mul_comm (b : Int) (d : Int)]
    rw [Int.mul_assoc, Int.mul_assoc] at h3
    exact Int.eq_of_mul_eq_mul_left (by decide) h3
  have hN : a * d = c * b := by
    have : ((a * d : Nat) : Int) = ((c * b : Nat) : Int) := by rw [Int.natCast_mul, Int.natCast_mul]; exact hI
    exact Int.ofNat_inj.1 this
  have h1 : a ∣ c := h.cop.dvd_of_dvd_mul_right ⟨d, hN.symm⟩
  have h2 : c ∣ a := k.cop.dvd_of_dvd_mul_right ⟨b, hN⟩
  have hac := Nat.dvd_antisymm h1 h2
  subst hac
  exact ⟨rfl, (Nat.eq_of_mul_eq_mul_left h.a1 hN).symm⟩
theorem FS.ex {f : FuncId} {xs : List Value} {H : Heap} {R : Value → Heap → Prop} (h : FS C f xs H R) : ∃ e H', R e H' ∧ FS C f xs H (fun x y => x = e ∧ y = H') := by
  obtain ⟨e, H', h1, h2⟩ := h
  exact ⟨e, H', h2, e, H', h1, rfl, rfl⟩
structure W3 where
  d : Nat
  a : Nat
  b : Nat
/-- Divided by their greatest divisor already, or not yet. -/
def cutR (S g : Nat) (z : W3) : Prop := (z.a = S ∧ z.b = 840 ∧ g ≤ z.d) ∨ (z.a = S / g ∧ z.b = 840 / g)
attribute [local irreducible] gOK WS WC WR WD Ends FS YS OpV seqK blockK loopK midK retK rdK asgK rangeEnd sat Cell
section
variable {M : HL} {n0 : Nat} {H : Heap} {v w : Value}
theorem in_fs (a lo hi : Int) : FS C 60 [.int .i64 a, .int .i64 lo, .int .i64 hi] H (fun e H' => e = .bool (decide (lo ≤ a ∧ a ≤ hi)) ∧ H' = H) := by
  refine FS.intro (pf := pf60) rfl rfl rfl ?_
  by_cases h1 : lo ≤ a
  · by_cases h2 : a ≤ hi
    · repeat' (first | refine zP ?_ | refine zA ?_ | (refine zM ?_; intro _ _) | refine zX ?_ | (refine zC ?_; intro _ _ _ _) | (refine zS ?_; intro _ _) | refine zO ?_ | (apply Ws <;> intro hg))
      exact Ends.ret1 rfl ⟨by rw [decide_eq_true h2, decide_eq_true ⟨h1, h2⟩], rfl⟩
    · repeat' (first | refine zP ?_ | refine zA ?_ | (refine zM ?_; intro _ _) | refine zX ?_ | (refine zC ?_; intro _ _ _ _) | (refine zS ?_; intro _ _) | refine zO ?_ | (apply Ws <;> intro hg))
      exact Ends.ret1 rfl ⟨by rw [decide_eq_false h2, decide_eq_false fun h => h2 h.2], rfl⟩
  · repeat' (first | refine zP ?_ | refine zA ?_ | (refine zM ?_; intro _ _) | refine zX ?_ | (refine zC ?_; intro _ _ _ _) | (refine zS ?_; intro _ _) | refine zO ?_ | (apply Ws <;> intro hg))
    exact Ends.ret1 rfl ⟨by rw [decide_eq_false fun h => h1 h.1], rfl⟩
theorem CheckR_fs (hH : hasH M n0 H) {T : List Int} (hS : Sl M 1 v (ints T)) (hl : T.length ≤ 1000) :
    FS C 24 [v] H (fun e H' => e = .int .i64 (errT T) ∧ H' = H) := by
  refine FS.intro (pf := pf24) rfl rfl rfl ?_
  by_cases h0 : T.length = 0
  · have : errT T = 4 := by unfold errT; rw [if_pos h0]
    rw [this]
    repeat' (first | refine zP ?_ | refine zA ?_ | (refine zM ?_; intro _ _) | refine zX ?_ | (refine zC ?_; intro _ _ _ _) | (refine zS ?_; intro _ _) | refine zO ?_ | (apply Ws <;> intro hg))
    exact Ends.ret1 rfl ⟨rfl, rfl⟩
  by_cases h1 : 4 < T.length
  · have : errT T = 3 := by unfold errT; rw [if_neg h0, if_pos h1]
    rw [this]
    repeat' (first | refine zP ?_ | refine zA ?_ | (refine zM ?_; intro _ _) | refine zX ?_ | (refine zC ?_; intro _ _ _ _) | (refine zS ?_; intro _ _) | refine zO ?_ | (apply Ws <;> intro hg))
    exact Ends.ret1 rfl ⟨rfl, rfl⟩
  have hE : errT T = firstE (fun i => numE (T.getD i 0)) T.length := by unfold errT; rw [if_neg h0, if_neg h1]
  repeat' (first | refine zP ?_ | refine zA ?_ | (refine zM ?_; intro _ _) | refine zX ?_ | (refine zC ?_; intro _ _ _ _) | (refine zS ?_; intro _ _) | refine zO ?_ | (apply Ws <;> intro hg))
  refine WC.loopX [(0, v)] (fun k : Nat => [(3, .int .i64 (k : Int))]) [] (fun k H' => H' = H ∧ k ≤ T.length ∧ firstE (fun i => numE (T.getD i 0)) k = 0) (fun k => T.length - k) 0 (by repeat' (first | exact .nil | refine .cons rfl ?_)) rfl ⟨rfl, Nat.zero_le _, rfl⟩ ?_
  rintro k H' ⟨rfl, hk, hno⟩
  dsimp only [List.cons_append, List.nil_append]
  repeat' (first | refine zP ?_ | refine zA ?_ | (refine zM ?_; intro _ _) | refine zX ?_ | (refine zC ?_; intro _ _ _ _) | (refine zS ?_; intro _ _) | (apply Ws <;> intro hg))
  refine WC.condP rfl (fun hlt => ?_) (fun hlt => ?_)
  · have hk' : k < T.length := by omega
    repeat' (first | refine zP ?_ | refine zA ?_ | (refine zM ?_; intro _ _) | refine zX ?_ | (refine zC ?_; intro _ _ _ _) | (refine zS ?_; intro _ _) | (apply Ws <;> intro hg))
    refine WR.call (by first | exact gN | exact gS rfl) rfl rfl (in_fs _ 1 8) ?_
    rintro _ _ ⟨rfl, rfl⟩
    by_cases h3 : 1 ≤ T.getD k 0 ∧ T.getD k 0 ≤ 8
    · have h4 : numE (T.getD k 0) = 0 := by unfold numE; rw [if_neg (by omega)]
      rw [decide_eq_true h3]
      repeat' (first | refine zP ?_ | refine zA ?_ | (refine zM ?_; intro _ _) | refine zX ?_ | (refine zC ?_; intro _ _ _ _) | (refine zS ?_; intro _ _) | (apply Ws <;> intro hg))
      exact Ends.loop (k + 1) (by omega) (by repeat' (first | exact .nil | refine .cons rfl ?_)) rfl ⟨rfl, hk', firstE_succ hno h4⟩
    · have h4 : numE (T.getD k 0) = 1 := by unfold numE; rw [if_pos (by omega)]
      rw [decide_eq_false h3]
      repeat' (first | refine zP ?_ | refine zA ?_ | (refine zM ?_; intro _ _) | refine zX ?_ | (refine zC ?_; intro _ _ _ _) | (refine zS ?_; intro _ _) | (apply Ws <;> intro hg))
      refine Ends.ret1 rfl ⟨?_, rfl⟩
      rw [hE, firstE_at hno (by show numE _ ≠ 0; rw [h4]; decide) hk', h4]
  · have hkn : k = T.length := by omega
    repeat' (first | refine zP ?_ | refine zA ?_ | (refine zM ?_; intro _ _) | refine zX ?_ | (refine zC ?_; intro _ _ _ _) | (refine zS ?_; intro _ _) | (apply Ws <;> intro hg))
    refine Ends.ret1 rfl ⟨?_, rfl⟩
    rw [hE, ← hkn, hno]
theorem canRef_fs (hH : hasH M n0 H) {T : List Int} (hS : Sl M 1 v (ints T)) (hT : TOK T) (h1 : 1 ≤ T.length) :
    FS C 56 [v] H (fun e H' => ∃ n', e = .bool (everB T (startS T)) ∧ n0 ≤ n' ∧ hasH M n' H') := by
  refine FS.intro (pf := pf56) rfl rfl rfl ?_
  repeat' (first | refine zP ?_ | refine zA ?_ | (refine zM ?_; intro _ _) | refine zX ?_ | (refine zC ?_; intro _ _ _ _) | (refine zS ?_; intro _ _) | (apply Ws <;> intro hg))
  refine WR.call (by first | exact gN | exact gS rfl) rfl rfl (alive_fs hH hS hT h1) ?_
  rintro _ H1 ⟨gb, k, r, n1, rfl, hr, _, hn1, hH1⟩
  have hlow := hr.low
  have hrE : decide (r < 0) = everB T (startS T) := by
    rw [← hr.everB, decide_eq_decide]; omega
  repeat' (first | refine zP ?_ | refine zA ?_ | (refine zM ?_; intro _ _) | refine zX ?_ | (refine zC ?_; intro _ _ _ _) | (refine zS ?_; intro _ _) | (apply Ws <;> intro hg))
  exact Ends.ret1 rfl ⟨n1, by rw [hrE], hn1, hH1.tail⟩
theorem LongR.one {T : List Int} {r e q f : Int} (h : LongR T r e) (k : LongR T q f) : r = q ∧ e = f := by
  rcases h with ⟨h0, rfl, rfl⟩ | ⟨h0, hev, rfl, rfl⟩ | ⟨h0, rfl, m, rfl, _, h1, h2⟩ <;> rcases k with ⟨k0, rfl, rfl⟩ | ⟨k0, kev, rfl, rfl⟩ | ⟨k0, rfl, p, rfl, _, k1, k2⟩
  · exact ⟨rfl, rfl⟩
  · exact absurd k0 h0
  · exact absurd k0 h0
  · exact absurd h0 k0
  · exact ⟨rfl, rfl⟩
  · exact absurd (hev _) k2
  · exact absurd h0 k0
  · exact absurd (kev _) h2
  · have : m = p := by
      rcases Nat.lt_trichotomy m p with h | h | h
      · exact absurd (canS_le k1 h) h2
      · exact h
      · exact absurd (canS_le h1 h) k2
    subst this
    exact ⟨rfl, rfl⟩
end
end Go.Proofs.Ytnmlfjohoeebiaa.Wk

/- The reference's walks: told, good, what is left. -/
namespace Go.Proofs.Ytnmlfjohoeebiaa.Wk
open Go Go.Abs Go.Mth
set_option linter.unusedVariables false
set_option linter.unusedSimpArgs false
def toldE (T W : List Int) : Int := if errT T ≠ 0 then errT T else walkE T.length W
/-- Tides since a stretch was met, as counted from the front: the last place counts. -/
def lastK (W : List Int) (i : Nat) (n : Nat) : Nat → Nat
  | 0 => n
  | k + 1 => if W.getD k 0 = (i : Int) then n - 1 - k else lastK W i n k
theorem last_since (W : List Int) (i : Nat) : ∀ k, lastK W i k k = sinceK W i k := by
  have key : ∀ k n, k ≤ n → lastK W i n k = sinceK W i k + (n - k) := by
    intro k
    induction k with
    | zero => intro n _; simp [lastK, sinceK]
    | succ k ih =>
      intro n hn
      simp only [lastK, sinceK]
      split
      · omega
      · rw [ih n (by omega)]; omega
  intro k
  rw [key k k (Nat.le_refl _)]; omega
theorem lastK_le (W : List Int) (i n : Nat) : ∀ k, lastK W i n k ≤ n
  | 0 => Nat.le_refl _
  | k + 1 => by
    simp only [lastK]; split
    · omega
    · exact lastK_le W i n k
attribute [local irreducible] gOK WS WC WR WD Ends FS YS OpV seqK blockK loopK midK retK rdK asgK rangeEnd sat Cell
section
variable {M : HL} {n0 : Nat} {H : Heap} {v w : Value}
theorem told_fs (hH : hasH M n0 H) {T : List Int} (hS : Sl M 1 v (ints T)) (hTl : T.length ≤ 1000) {W : List Int} (hW : Sl M 1 w (ints W)) (hwl : W.length ≤ 1000) :
    FS C 62 [v, w] H (fun e H' => e = .int .i64 (toldE T W) ∧ H' = H) := by
  refine FS.intro (pf := pf62) rfl rfl rfl ?_
  repeat' (first | refine zP ?_ | refine zA ?_ | (refine zM ?_; intro _ _) | refine zX ?_ | (refine zC ?_; intro _ _ _ _) | (refine zS ?_; intro _ _) | (apply Ws <;> intro hg))
  refine WR.call (by first | exact gN | exact gS rfl) rfl rfl (CheckR_fs hH hS hTl) ?_
  rintro _ H1 ⟨rfl, rfl⟩
  by_cases h0 : errT T = 0
  · have hTE : toldE T W = walkE T.length W := by unfold toldE; rw [if_neg (by omega)]
    by_cases h6 : 60 < W.length
    · have hE : walkE T.length W = 19 := by unfold walkE; rw [if_pos h6]
      rw [hTE, hE]
      repeat' (first | refine zP ?_ | refine zA ?_ | (refine zM ?_; intro _ _) | refine zX ?_ | (refine zC ?_; intro _ _ _ _) | (refine zS ?_; intro _ _) | refine zO ?_ | (apply Ws <;> intro hg))
      refine WC.loopX [(0, v), (1, w), (5, .int .i64 19)] (fun k : Nat => [(6, .int .i64 (k : Int))]) [] (fun k H' => H' = H1 ∧ k = 0) (fun k => 0) 0 (by repeat' (first | exact .nil | refine .cons rfl ?_)) rfl ⟨rfl, rfl⟩ ?_
      rintro k H2 ⟨rfl, rfl⟩
      dsimp only [List.cons_append, List.nil_append]
      repeat' (first | refine zP ?_ | refine zA ?_ | (refine zM ?_; intro _ _) | refine zX ?_ | (refine zC ?_; intro _ _ _ _) | (refine zS ?_; intro _ _) | refine zO ?_ | (apply Ws <;> intro hg))
      exact Ends.ret1 rfl ⟨rfl, rfl⟩
    · have hE : walkE T.length W = firstE (fun i => strE T.length (W.getD i 0)) W.length := by unfold walkE; rw [if_neg h6]
      rw [hTE, hE]
      obtain ⟨f, hf⟩ : ∃ f : Nat → Int, f = fun i => strE T.length (W.getD i 0) := ⟨_, rfl⟩
      rw [← hf]
      clear hE hTE
      have hf0 : firstE f 0 = 0 := rfl
      rw [h0]
      repeat' (first | refine zP ?_ | refine zA ?_ | (refine zM ?_; intro _ _) | refine zX ?_ | (refine zC ?_; intro _ _ _ _) | (refine zS ?_; intro _ _) | refine zO ?_ | (apply Ws <;> intro hg))
      refine WC.loopX [(0, v), (1, w)] (fun k : Nat => [(5, .int .i64 (firstE f k)), (6, .int .i64 (k : Int))]) [] (fun k H' => H' = H1 ∧ k ≤ W.length ∧ (firstE f k ≠ 0 → firstE f W.length = firstE f k)) (fun k => W.length - k) 0 (by repeat' (first | exact .nil | refine .cons rfl ?_)) rfl ⟨rfl, Nat.zero_le _, fun h => absurd rfl h⟩ ?_
      rintro k H2 ⟨rfl, hk, hst⟩
      dsimp only [List.cons_append, List.nil_append]
      by_cases hkw : k = W.length
      · subst hkw
        repeat' (first | refine zP ?_ | refine zA ?_ | (refine zM ?_; intro _ _) | refine zX ?_ | (refine zC ?_; intro _ _ _ _) | (refine zS ?_; intro _ _) | refine zO ?_ | (apply Ws <;> intro hg))
        exact Ends.ret1 rfl ⟨rfl, rfl⟩
      · have hk' : k < W.length := by omega
        by_cases hz : firstE f k = 0
        · have hfk : f k = strE T.length (W.getD k 0) := by rw [hf]
          have hf1 : f k ≠ 0 → firstE f (k + 1) = f k := fun h => firstE_at hz h (Nat.lt_succ_self k)
          have hf2 : f k ≠ 0 → firstE f W.length = f k := fun h => firstE_at hz h hk'
          repeat' (first | refine zP ?_ | refine zA ?_ | (refine zM ?_; intro _ _) | refine zX ?_ | (refine zC ?_; intro _ _ _ _) | (refine zS ?_; intro _ _) | refine zO ?_ | (apply Ws <;> intro hg))
          refine WR.call (by first | exact gN | exact gS rfl) rfl rfl (in_fs _ 0 _) ?_
          rintro _ _ ⟨rfl, rfl⟩
          by_cases h3 : 0 ≤ W.getD k 0 ∧ W.getD k 0 ≤ (T.length : Int) - 1
          · have h4 : f k = 0 := by rw [hfk]; unfold strE; rw [if_neg (by omega)]
            have h5 := firstE_succ (f := f) hz h4
            rw [decide_eq_true h3]
            repeat' (first | refine zP ?_ | refine zA ?_ | (refine zM ?_; intro _ _) | refine zX ?_ | (refine zC ?_; intro _ _ _ _) | (refine zS ?_; intro _ _) | (apply Ws <;> intro hg))
            exact Ends.loop (k + 1) (by omega) (by rw [h5, ← hz]; repeat' (first | exact .nil | refine .cons rfl ?_)) rfl ⟨rfl, hk', fun h => absurd h5 h⟩
          · have h4 : f k = 2 := by rw [hfk]; unfold strE; rw [if_pos (by omega)]
            have h5 := hf1 (by omega)
            have h6' := hf2 (by omega)
            rw [h4] at h5 h6'
            rw [decide_eq_false h3]
            repeat' (first | refine zP ?_ | refine zA ?_ | (refine zM ?_; intro _ _) | refine zX ?_ | (refine zC ?_; intro _ _ _ _) | (refine zS ?_; intro _ _) | (apply Ws <;> intro hg))
            exact Ends.loop (k + 1) (by omega) (by rw [h5]; repeat' (first | exact .nil | refine .cons rfl ?_)) rfl ⟨rfl, hk', fun _ => by rw [h5, h6']⟩
        · rw [hst hz]
          repeat' (first | refine zP ?_ | refine zA ?_ | (refine zM ?_; intro _ _) | refine zX ?_ | (refine zC ?_; intro _ _ _ _) | (refine zS ?_; intro _ _) | refine zO ?_ | (apply Ws <;> intro hg))
          exact Ends.ret1 rfl ⟨rfl, rfl⟩
  · have hTE : toldE T W = errT T := by unfold toldE; rw [if_pos h0]
    rw [hTE]
    repeat' (first | refine zP ?_ | refine zA ?_ | (refine zM ?_; intro _ _) | refine zX ?_ | (refine zC ?_; intro _ _ _ _) | (refine zS ?_; intro _ _) | refine zO ?_ | (apply Ws <;> intro hg))
    refine WC.loopX [(0, v), (1, w), (5, .int .i64 (errT T))] (fun k : Nat => [(6, .int .i64 (k : Int))]) [] (fun k H' => H' = H1 ∧ k = 0) (fun k => 0) 0 (by repeat' (first | exact .nil | refine .cons rfl ?_)) rfl ⟨rfl, rfl⟩ ?_
    rintro k H2 ⟨rfl, rfl⟩
    dsimp only [List.cons_append, List.nil_append]
    by_cases hw : 0 < W.length
    · repeat' (first | refine zP ?_ | refine zA ?_ | (refine zM ?_; intro _ _) | refine zX ?_ | (refine zC ?_; intro _ _ _ _) | (refine zS ?_; intro _ _) | refine zO ?_ | (apply Ws <;> intro hg))
      exact Ends.ret1 rfl ⟨rfl, rfl⟩
    · repeat' (first | refine zP ?_ | refine zA ?_ | (refine zM ?_; intro _ _) | refine zX ?_ | (refine zC ?_; intro _ _ _ _) | (refine zS ?_; intro _ _) | refine zO ?_ | (apply Ws <;> intro hg))
      exact Ends.ret1 rfl ⟨rfl, rfl⟩
theorem goodR_fs (hH : hasH M n0 H) {T W : List Int} (hS : Sl M 1 v (ints T)) (hT : TOK T) (hU : Sl M 1 w (ints W)) (hW : W.length ≤ 10000) :
    FS C 63 [v, w] H (fun e H' => e = .bool (goodB T W) ∧ H' = H) := by
  have hTl := hT.len
  refine FS.intro (pf := pf63) rfl rfl rfl ?_
  repeat' (first | refine zP ?_ | refine zA ?_ | (refine zM ?_; intro _ _) | refine zX ?_ | (refine zC ?_; intro _ _ _ _) | (refine zS ?_; intro _ _) | (apply Ws <;> intro hg))
  refine WC.loopX [(0, v), (1, w)] (fun i : Nat => [(5, .int .i64 (i : Int))]) [] (fun i H' => H' = H ∧ i ≤ T.length ∧ ∀ j, j < i → ∀ m, m ≤ W.length → (sinceK W j m : Int) < T.getD j 0) (fun i => T.length - i) 0 (by repeat' (first | exact .nil | refine .cons rfl ?_)) rfl ⟨rfl, Nat.zero_le _, fun j h => absurd h (Nat.not_lt_zero _)⟩ ?_
  rintro i H1 ⟨rfl, hi, hno⟩
  dsimp only [List.cons_append, List.nil_append]
  repeat' (first | refine zP ?_ | refine zA ?_ | (refine zM ?_; intro _ _) | refine zX ?_ | (refine zC ?_; intro _ _ _ _) | (refine zS ?_; intro _ _) | (apply Ws <;> intro hg))
  refine WC.condP rfl (fun hlt => ?_) (fun hlt => ?_)
  · have hi' : i < T.length := by omega
    have t1 := hT.lo i hi'
    have t8 := hT.hi i hi'
    repeat' (first | refine zP ?_ | refine zA ?_ | (refine zM ?_; intro _ _) | refine zX ?_ | (refine zC ?_; intro _ _ _ _) | (refine zS ?_; intro _ _) | (apply Ws <;> intro hg))
    refine WC.loopX [(0, v), (1, w), (5, .int .i64 (i : Int))] (fun k : Nat => [(6, .int .i64 ((sinceK W i k : Nat) : Int)), (7, .int .i64 (k : Int))]) [] (fun k H' => H' = H1 ∧ k ≤ W.length ∧ ∀ m, m ≤ k → (sinceK W i m : Int) < T.getD i 0) (fun k => W.length - k) 0 (by repeat' (first | exact .nil | refine .cons rfl ?_)) rfl ⟨rfl, Nat.zero_le _, fun m hm => by rw [show m = 0 by omega]; simp only [sinceK]; omega⟩ ?_
    rintro k H2 ⟨rfl, hk, hin⟩
    have hkk := hin k (Nat.le_refl _)
    have hsl := since_le W i k
    dsimp only [List.cons_append, List.nil_append]
    repeat' (first | refine zP ?_ | refine zA ?_ | (refine zM ?_; intro _ _) | refine zX ?_ | (refine zC ?_; intro _ _ _ _) | (refine zS ?_; intro _ _) | (apply Ws <;> intro hg))
    refine WC.condP rfl (fun hlt2 => ?_) (fun hlt2 => ?_)
    · have hk' : k < W.length := by omega
      have hsu : sinceK W i (k + 1) = if W.getD k 0 = (i : Int) then 0 else sinceK W i k + 1 := rfl
      have hstep : (sinceK W i (k + 1) : Int) < T.getD i 0 → ∀ m, m ≤ k + 1 → (sinceK W i m : Int) < T.getD i 0 := fun h m hm => by
        rcases Nat.lt_or_ge k m with h2 | h2
        · rw [show m = k + 1 by omega]; exact h
        · exact hin m h2
      by_cases hme : W.getD k 0 = (i : Int)
      · rw [if_pos hme] at hsu
        repeat' (first | refine zP ?_ | refine zA ?_ | (refine zM ?_; intro _ _) | refine zX ?_ | (refine zC ?_; intro _ _ _ _) | (refine zS ?_; intro _ _) | refine zO ?_ | (apply Ws <;> intro hg))
        exact Ends.loop (k + 1) (by omega) (by rw [hsu]; repeat' (first | exact .nil | refine .cons rfl ?_)) rfl ⟨rfl, hk', hstep (by rw [hsu]; omega)⟩
      · rw [if_neg hme] at hsu
        by_cases hbad : ((sinceK W i k : Nat) : Int) + 1 = T.getD i 0
        · repeat' (first | refine zP ?_ | refine zA ?_ | (refine zM ?_; intro _ _) | refine zX ?_ | (refine zC ?_; intro _ _ _ _) | (refine zS ?_; intro _ _) | refine zO ?_ | (apply Ws <;> intro hg))
          refine Ends.ret1 rfl ⟨?_, rfl⟩
          rw [goodB_false fun h => ?_]
          have := (good_kept hT).1 h (k + 1) hk' i hi'
          rw [hsu] at this
          omega
        · repeat' (first | refine zP ?_ | refine zA ?_ | (refine zM ?_; intro _ _) | refine zX ?_ | (refine zC ?_; intro _ _ _ _) | (refine zS ?_; intro _ _) | refine zO ?_ | (apply Ws <;> intro hg))
          rw [show ((sinceK W i k : Nat) : Int) + 1 = ((sinceK W i (k + 1) : Nat) : Int) by rw [hsu]; omega]
          exact Ends.loop (k + 1) (by omega) (by repeat' (first | exact .nil | refine .cons rfl ?_)) rfl ⟨rfl, hk', hstep (by rw [hsu]; omega)⟩
    · have hkn : k = W.length := by omega
      subst hkn
      repeat' (first | refine zP ?_ | refine zA ?_ | (refine zM ?_; intro _ _) | refine zX ?_ | (refine zC ?_; intro _ _ _ _) | (refine zS ?_; intro _ _) | (apply Ws <;> intro hg))
      refine Ends.loop (i + 1) (by omega) (by repeat' (first | exact .nil | refine .cons rfl ?_)) rfl ⟨rfl, hi', fun j hj => ?_⟩
      rcases Nat.lt_or_ge j i with h | h
      · exact hno j h
      · rw [show j = i by omega]; exact hin
  · have hin : i = T.length := by omega
    subst hin
    repeat' (first | refine zP ?_ | refine zA ?_ | (refine zM ?_; intro _ _) | refine zX ?_ | (refine zC ?_; intro _ _ _ _) | (refine zS ?_; intro _ _) | (apply Ws <;> intro hg))
    refine Ends.ret1 rfl ⟨?_, rfl⟩
    rw [goodB_true.2 ((good_kept hT).2 fun m hm j hj => hno j hj m hm)]
end
end Go.Proofs.Ytnmlfjohoeebiaa.Wk

/- The reference's Left and Goes. -/
namespace Go.Proofs.Ytnmlfjohoeebiaa.Wk
open Go Go.Abs Go.Mth
set_option linter.unusedVariables false
set_option linter.unusedSimpArgs false
def sinL (T W : List Int) (k : Nat) : List Int := (List.range k).map fun i => T.getD i 0 - (sinceK W i W.length : Int)
theorem sinL_len (T W : List Int) (k : Nat) : (sinL T W k).length = k := by simp [sinL]
theorem sinL_succ (T W : List Int) (k : Nat) : sinL T W (k + 1) = sinL T W k ++ [T.getD k 0 - (sinceK W k W.length : Int)] := by simp [sinL, List.range_succ]
theorem sinL_eq {T W s : List Int} (hT : TOK T) (hs : SOK T s) (h : SinceS T W s W.length) : sinL T W T.length = s.take T.length := by
  have h4 := hT.len
  have hl := hs.len
  refine ext_getD (a := 0) (by rw [sinL_len, List.length_take]; omega) fun i hi => ?_
  rw [sinL_len] at hi
  rw [getD_take hi, h i hi, getD_eq (by rw [sinL_len]; exact hi)]
  simp [sinL]
theorem take_pad {T l : List Int} (h : LOK T l) : (startS l).take T.length = l := by
  unfold startS
  rw [← h.len, List.take_left]
theorem told_left {T W : List Int} (h : toldE T W ≠ 0) : leftE T W = toldE T W := by
  unfold toldE at h ⊢
  unfold leftE
  by_cases h0 : errT T = 0
  · simp only [if_neg (show ¬ errT T ≠ 0 by omega)] at h ⊢
    rw [if_pos h]
  · rw [if_pos h0, if_pos h0]
theorem told_ok {T W : List Int} (h : toldE T W = 0) : errT T = 0 ∧ walkE T.length W = 0 := by
  unfold toldE at h
  by_cases h0 : errT T = 0
  · rw [if_neg (by omega)] at h; exact ⟨h0, h⟩
  · rw [if_pos h0] at h; exact absurd h h0
attribute [local irreducible] gOK WS WC WR WD Ends FS YS OpV seqK blockK loopK midK retK rdK asgK rangeEnd sat Cell
section
variable {M : HL} {n0 : Nat} {H : Heap} {v w : Value}
theorem LeftR_fs (hH : hasH M n0 H) {T : List Int} (hS : Sl M 1 v (ints T)) (hTl : T.length ≤ 1000) {W : List Int} (hW : Sl M 1 w (ints W)) (hwl : W.length ≤ 1000) :
    FS C 26 [v, w] H (fun e H' => ∃ u xs Mx n', e = .tuple #[u, .int .i64 (leftE T W)] ∧ Own 3 1 u (ints xs) Mx ∧ n0 ≤ n' ∧ hasH (Mx ++ M) n' H' ∧ ((leftE T W ≠ 0 ∧ xs = []) ∨ (leftE T W = 0 ∧ ∃ s, goS T (startS T) W = some s ∧ xs = s.take T.length))) := by
  refine FS.intro (pf := pf26) rfl rfl rfl ?_
  repeat' (first | refine zP ?_ | refine zA ?_ | (refine zM ?_; intro _ _) | refine zX ?_ | (refine zC ?_; intro _ _ _ _) | (refine zS ?_; intro _ _) | (apply Ws <;> intro hg))
  refine WR.call (by first | exact gN | exact gS rfl) rfl rfl (told_fs hH hS hTl hW hwl) ?_
  rintro _ H1 ⟨rfl, rfl⟩
  by_cases h0 : toldE T W = 0
  · obtain ⟨hE, hwE⟩ := told_ok h0
    obtain ⟨hT, h1⟩ := errT_ok hE
    have hwk := walkE_ok.1 hwE
    have hT4 := hT.len
    have hLE := leftE_val hE hwE
    rw [h0]
    repeat' (first | refine zP ?_ | refine zA ?_ | (refine zM ?_; intro _ _) | refine zX ?_ | (refine zC ?_; intro _ _ _ _) | (refine zS ?_; intro _ _) | refine zO ?_ | (apply Ws <;> intro hg))
    refine WR.call (by first | exact gN | exact gS rfl) rfl rfl (goodR_fs hH hS hT hW (by omega)) ?_
    rintro _ H2 ⟨rfl, rfl⟩
    rcases go_good hT hwk.2 with ⟨hgo, hng⟩ | ⟨hgd, s, hgo, hsn⟩
    · rw [if_pos hgo] at hLE
      rw [goodB_false hng, hLE]
      repeat' (first | refine zP ?_ | refine zA ?_ | (refine zM ?_; intro _ _) | refine zX ?_ | (refine zC ?_; intro _ _ _ _) | (refine zS ?_; intro _ _) | refine zO ?_ | (apply Ws <;> intro hg))
      exact Ends.ret2 rfl rfl ⟨_, [], [], n0, rfl, .nil, Nat.le_refl _, hH, .inl ⟨by decide, rfl⟩⟩
    · rw [if_neg (by rw [hgo]; simp)] at hLE
      have hs := goS_ok hT (start_ok hT) hwk.2 hgo
      have heq := sinL_eq hT hs hsn
      rw [goodB_true.2 hgd, hLE]
      repeat' (first | refine zP ?_ | refine zA ?_ | (refine zM ?_; intro _ _) | refine zX ?_ | (refine zC ?_; intro _ _ _ _) | (refine zS ?_; intro _ _) | refine zO ?_ | (apply Ws <;> intro hg))
      refine WC.loopX [(0, v), (1, w)] (fun z : FV => [(7, z.v), (8, .int .i64 (z.k : Int))]) []
        (fun z H' => z.k ≤ T.length ∧ n0 ≤ z.n ∧ Own 3 1 z.v (ints (sinL T W z.k)) z.Mx ∧ hasH (z.Mx ++ M) z.n H') (fun z => T.length - z.k) ⟨0, .slice none 0 0, [], n0⟩ (by repeat' (first | exact .nil | refine .cons rfl ?_)) rfl ⟨Nat.zero_le _, Nat.le_refl _, .nil, hH⟩ ?_
      clear hH
      rintro ⟨k, ov, Mx, n1⟩ H3 ⟨hk, hn1, hO, hH3⟩
      simp only at hk hn1 hO hH3
      have hST : Sl (Mx ++ M) 1 v (ints T) := hS.mono fun q hq => List.mem_append_right _ hq
      have hSW : Sl (Mx ++ M) 1 w (ints W) := hW.mono fun q hq => List.mem_append_right _ hq
      dsimp only [List.cons_append, List.nil_append]
      repeat' (first | refine zP ?_ | refine zA ?_ | (refine zM ?_; intro _ _) | refine zX ?_ | (refine zC ?_; intro _ _ _ _) | (refine zS ?_; intro _ _) | (apply Ws <;> intro hg))
      refine WC.condP rfl (fun hlt => ?_) (fun hlt => ?_)
      · have hk' : k < T.length := by omega
        have t1 := hT.lo k hk'
        have t8 := hT.hi k hk'
        repeat' (first | refine zP ?_ | refine zA ?_ | (refine zM ?_; intro _ _) | refine zX ?_ | (refine zC ?_; intro _ _ _ _) | (refine zS ?_; intro _ _) | (apply Ws <;> intro hg))
        refine WC.loopX [(0, v), (1, w), (7, ov), (8, .int .i64 (k : Int))] (fun j : Nat => [(9, .int .i64 ((lastK W k W.length j : Nat) : Int)), (10, .int .i64 (j : Int))]) [] (fun j H' => H' = H3 ∧ j ≤ W.length) (fun j => W.length - j) 0 (by repeat' (first | exact .nil | refine .cons rfl ?_)) rfl ⟨rfl, Nat.zero_le _⟩ ?_
        rintro j H4 ⟨rfl, hj⟩
        have hlk := lastK_le W k W.length j
        dsimp only [List.cons_append, List.nil_append]
        repeat' (first | refine zP ?_ | refine zA ?_ | (refine zM ?_; intro _ _) | refine zX ?_ | (refine zC ?_; intro _ _ _ _) | (refine zS ?_; intro _ _) | (apply Ws <;> intro hg))
        refine WC.condP rfl (fun hlt2 => ?_) (fun hlt2 => ?_)
        · have hj' : j < W.length := by omega
          have hsu : lastK W k W.length (j + 1) = if W.getD j 0 = (k : Int) then W.length - 1 - j else lastK W k W.length j := rfl
          by_cases hme : W.getD j 0 = (k : Int)
          · rw [if_pos hme] at hsu
            repeat' (first | refine zP ?_ | refine zA ?_ | (refine zM ?_; intro _ _) | refine zX ?_ | (refine zC ?_; intro _ _ _ _) | (refine zS ?_; intro _ _) | refine zO ?_ | (apply Ws <;> intro hg))
            rw [show (W.length : Int) - 1 - (j : Int) = ((lastK W k W.length (j + 1) : Nat) : Int) by rw [hsu]; omega]
            exact Ends.loop (j + 1) (by omega) (by repeat' (first | exact .nil | refine .cons rfl ?_)) rfl ⟨rfl, hj'⟩
          · rw [if_neg hme] at hsu
            rw [← hsu]
            repeat' (first | refine zP ?_ | refine zA ?_ | (refine zM ?_; intro _ _) | refine zX ?_ | (refine zC ?_; intro _ _ _ _) | (refine zS ?_; intro _ _) | refine zO ?_ | (apply Ws <;> intro hg))
            exact Ends.loop (j + 1) (by omega) (by repeat' (first | exact .nil | refine .cons rfl ?_)) rfl ⟨rfl, hj'⟩
        · have hjn : j = W.length := by omega
          subst hjn
          rw [last_since]
          have hsl := since_le W k W.length
          have hsL := sinL_len T W k
          repeat' (first | refine zP ?_ | refine zA ?_ | (refine zM ?_; intro _ _) | refine zX ?_ | (refine zC ?_; intro _ _ _ _) | (refine zS ?_; intro _ _) | (apply Ws <;> intro hg))
          refine WR.append1F [] Mx M rfl rfl rfl rfl hO hH3 (new := [.int .i64 (T.getD k 0 - (sinceK W k W.length : Int))]) (by rfl) rfl rfl (Nat.le_refl _) (by omega) (by simp; omega) fun v3 M3 n3 H5 hO3 hH5 hn3 => ?_
          replace hH5 : hasH (M3 ++ M) n3 H5 := hH5
          repeat' (first | refine zP ?_ | refine zA ?_ | (refine zM ?_; intro _ _) | refine zX ?_ | (refine zC ?_; intro _ _ _ _) | (refine zS ?_; intro _ _) | (apply Ws <;> intro hg))
          refine Ends.loop ⟨k + 1, v3, M3, n3⟩ (by simp only; omega) (by repeat' (first | exact .nil | refine .cons rfl ?_)) rfl ⟨hk', by simp only; omega, ?_, hH5⟩
          show Own _ 1 v3 (ints (sinL T W (k + 1))) M3
          rw [sinL_succ, ints, List.map_append]; exact hO3
      · have hkn : k = T.length := by omega
        subst hkn
        rw [heq] at hO
        repeat' (first | refine zP ?_ | refine zA ?_ | (refine zM ?_; intro _ _) | refine zX ?_ | (refine zC ?_; intro _ _ _ _) | (refine zS ?_; intro _ _) | (apply Ws <;> intro hg))
        exact Ends.ret2 rfl rfl ⟨ov, s.take T.length, Mx, n1, rfl, hO, hn1, hH3, .inr ⟨rfl, s, hgo, rfl⟩⟩
  · have hLE := told_left h0
    rw [hLE]
    repeat' (first | refine zP ?_ | refine zA ?_ | (refine zM ?_; intro _ _) | refine zX ?_ | (refine zC ?_; intro _ _ _ _) | (refine zS ?_; intro _ _) | refine zO ?_ | (apply Ws <;> intro hg))
    exact Ends.ret2 rfl rfl ⟨_, [], [], n0, rfl, .nil, Nat.le_refl _, hH, .inl ⟨h0, rfl⟩⟩
end
end Go.Proofs.Ytnmlfjohoeebiaa.Wk
