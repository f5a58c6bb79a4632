/- Texts of the law, joined. -/
import Derived.Test.YtmogipomnjihcaaJ1
import Derived.Test.YtmogipomnjihcaaSymE
namespace Go.Proofs.Ytmogipomnjihcaa.Eb
open Go Go.Abs Go.Low
set_option linter.unusedVariables false
set_option linter.unusedSimpArgs false
attribute [local irreducible] gOK WS WC WR WD Ends FS YS OpV seqK blockK loopK midK retK rdK asgK rangeEnd sat Cell

/-- A way of so many steps from the river, through places of at most a height. -/
inductive Dk (c r : Nat) (hs : List Int) (h : Int) : Nat → Nat → Prop where
  | zero : Dk c r hs h 0 r
  | succ {k x y : Nat} (hx : Dk c r hs h k x) (hy : y ∈ nbrs c r x) (ht : hs.getD y 0 ≤ h) : Dk c r hs h (k + 1) y

theorem Dk.le {c r : Nat} {hs : List Int} {h : Int} (hc : 1 ≤ c) (hcr : c ≤ r) {k y : Nat} (d : Dk c r hs h k y) : y ≤ r := by
  induction d with
  | zero => exact Nat.le_refl _
  | succ _ hy _ ih => exact nbrs_le hc hcr ih hy

/-- How many numbers are 37. -/
def offsI : List Int → Nat
  | [] => 0
  | a :: l => (if a = 37 then 1 else 0) + offsI l

theorem offsI_le : ∀ l : List Int, offsI l ≤ l.length
  | [] => Nat.le_refl _
  | a :: l => by simp only [offsI, List.length_cons]; have := offsI_le l; split <;> omega

theorem offsI_set : ∀ (l : List Int) (y : Nat) (v : Int), y < l.length → l.getD y 0 = 37 → v ≠ 37 → offsI (l.set y v) + 1 = offsI l
  | [], y, v, h, _, _ => absurd h (Nat.not_lt_zero _)
  | a :: l, 0, v, _, h, hv => by
    simp only [List.getD_cons_zero] at h
    simp only [List.set_cons_zero, offsI, if_pos h, if_neg hv]; omega
  | a :: l, y + 1, v, h, hy, hv => by
    simp only [List.getD_cons_succ] at hy
    simp only [List.set_cons_succ, offsI]
    have := offsI_set l y v (by simpa using h) hy hv
    omega

theorem offsI_rep : ∀ n : Nat, offsI (List.replicate n 37) = n
  | 0 => rfl
  | n + 1 => by simp only [List.replicate_succ, offsI, offsI_rep n, if_true]; omega

/-- A round of the search: place x, of whose neighbours some are still to come. -/
structure BS (c r : Nat) (hs : List Int) (h : Int) (x : Nat) (zs : List Nat) (b : List Int) (w : List Nat) : Prop where
  len : b.length = 37
  root : b.getD r 0 = 0
  rng : ∀ y, y < 37 → b.getD y 0 = 37 ∨ ∃ k : Nat, b.getD y 0 = (k : Int) ∧ Dk c r hs h k y ∧ y ≤ r ∧ k + 1 + offsI (b.take (r + 1)) ≤ r + 1
  wk : ∀ y ∈ w, y ≤ r ∧ b.getD y 0 ≠ 37
  sort : w.Pairwise (fun u v => b.getD u 0 ≤ b.getD v 0)
  hd : ∀ y ∈ w, b.getD x 0 ≤ b.getD y 0
  top : ∀ y, y ≤ r → b.getD y 0 ≠ 37 → b.getD y 0 ≤ b.getD x 0 + 1
  rel : ∀ u, u ≤ r → b.getD u 0 ≠ 37 → u ∉ w → ∀ y ∈ nbrs c r u, hs.getD y 0 ≤ h → (b.getD y 0 ≠ 37 ∧ b.getD y 0 ≤ b.getD u 0 + 1) ∨ (u = x ∧ y ∈ zs)

def measI (r : Nat) (b : List Int) (w : List Nat) : Nat := 2 * offsI (b.take (r + 1)) + w.length

section
variable {c r : Nat} {hs : List Int} {h : Int}

theorem BS.enter {x x' : Nat} {b : List Int} {w : List Nat} (k : BS c r hs h x' [] b (x :: w)) : BS c r hs h x (nbrs c r x) b w where
  len := k.len
  root := k.root
  rng := k.rng
  wk y hy := k.wk y (by simp [hy])
  sort := (List.pairwise_cons.1 k.sort).2
  hd y hy := (List.pairwise_cons.1 k.sort).1 y hy
  top y hy hn := by
    have h1 := k.top y hy hn
    have h2 := k.hd x (by simp)
    omega
  rel u hu hn hw y hy ht := by
    by_cases hux : u = x
    · subst hux; exact .inr ⟨rfl, hy⟩
    · rcases k.rel u hu hn (by simp [hux, hw]) y hy ht with h1 | ⟨_, h2⟩
      · exact .inl h1
      · cases h2

theorem BS.push (hr : r ≤ 36) {x y : Nat} {zs : List Nat} {b : List Int} {w : List Nat} (k : BS c r hs h x (y :: zs) b w) (hx : x ≤ r) (hxb : b.getD x 0 ≠ 37) (hy : y ∈ nbrs c r x) (hyr : y ≤ r) (ht : hs.getD y 0 ≤ h) (hn : b.getD y 0 = 37) :
    b.getD x 0 + 1 ≤ 36 ∧ BS c r hs h x zs (b.set y (b.getD x 0 + 1)) (w ++ [y]) ∧ measI r (b.set y (b.getD x 0 + 1)) (w ++ [y]) + 1 = measI r b w := by
  have hl := k.len
  obtain ⟨d, hd, hdk, _, hdn⟩ := (k.rng x (by omega)).resolve_left hxb
  have hty : (b.take (r + 1)).getD y 0 = 37 := by rw [List.getD_eq_getElem?_getD, List.getElem?_take_of_lt (by omega), ← List.getD_eq_getElem?_getD]; exact hn
  have hoff : 1 ≤ offsI (b.take (r + 1)) := by
    have := offsI_set (b.take (r + 1)) y 0 (by simp; omega) hty (by decide)
    omega
  have h36 : b.getD x 0 + 1 ≤ 36 := by omega
  have hset : offsI ((b.set y (b.getD x 0 + 1)).take (r + 1)) + 1 = offsI (b.take (r + 1)) := by
    rw [List.take_set]
    exact offsI_set _ y _ (by simp; omega) hty (by omega)
  have hg := fun z => getD_set (l := b) (y := y) (z := z) (v := b.getD x 0 + 1) (by omega)
  have hxy : x ≠ y := fun e => hxb (e ▸ hn)
  have hwy : y ∉ w := fun hw => (k.wk y hw).2 hn
  have hgw : ∀ z ∈ w, (b.set y (b.getD x 0 + 1)).getD z 0 = b.getD z 0 := fun z hz => by rw [hg, if_neg (show ¬ z = y from fun e => hwy (e ▸ hz))]
  have hgx : (b.set y (b.getD x 0 + 1)).getD x 0 = b.getD x 0 := by rw [hg, if_neg hxy]
  have hgy : (b.set y (b.getD x 0 + 1)).getD y 0 = b.getD x 0 + 1 := by rw [hg, if_pos rfl]
  refine ⟨h36, ?_, ?_⟩
  · constructor
    · simp [hl]
    · rw [hg, if_neg (fun e => ?_)]
      · exact k.root
      · subst e; have := k.root; omega
    · intro z hz
      rw [hg]
      by_cases hzy : z = y
      · subst hzy
        rw [if_pos rfl]
        exact .inr ⟨d + 1, by omega, .succ hdk hy ht, hyr, by omega⟩
      · rw [if_neg hzy]
        rcases k.rng z hz with h1 | ⟨e, h1, h2, h3, h4⟩
        · exact .inl h1
        · exact .inr ⟨e, h1, h2, h3, by omega⟩
    · intro z hz
      rcases List.mem_append.1 hz with h1 | h1
      · rw [hgw z h1]; exact k.wk z h1
      · rw [List.mem_singleton.1 h1, hgy]; exact ⟨hyr, by omega⟩
    · rw [List.pairwise_append]
      refine ⟨?_, List.pairwise_singleton _ _, fun a ha b' hb' => ?_⟩
      · refine List.Pairwise.imp_of_mem (fun ha hb hab => ?_) k.sort
        rw [hgw _ ha, hgw _ hb]; exact hab
      · rw [List.mem_singleton.1 hb', hgy, hgw a ha]
        have := k.wk a ha
        exact k.top a this.1 this.2
    · intro z hz
      rw [hgx]
      rcases List.mem_append.1 hz with h1 | h1
      · rw [hgw z h1]; exact k.hd z h1
      · rw [List.mem_singleton.1 h1, hgy]; omega
    · intro z hz hzn
      rw [hgx]
      rw [hg] at hzn ⊢
      by_cases hzy : z = y
      · rw [if_pos hzy]; omega
      · rw [if_neg hzy] at hzn ⊢; exact k.top z hz hzn
    · intro u hu hun huw z hz hzt
      have huy : u ≠ y := fun e => huw (by simp [e])
      rw [hg, if_neg huy] at hun
      rw [hg z, hg u, if_neg huy]
      by_cases hzy : z = y
      · subst hzy
        rw [if_pos rfl]
        by_cases hux : u = x
        · subst hux; exact .inl ⟨by omega, by omega⟩
        · rcases k.rel u hu hun (fun h1 => huw (by simp [h1])) z hz hzt with ⟨h1, _⟩ | ⟨h1, _⟩
          · exact absurd hn h1
          · exact absurd h1 hux
      · rw [if_neg hzy]
        rcases k.rel u hu hun (fun h1 => huw (by simp [h1])) z hz hzt with h1 | ⟨h1, h2⟩
        · exact .inl h1
        · rcases List.mem_cons.1 h2 with h3 | h3
          · exact absurd h3 hzy
          · exact .inr ⟨h1, h3⟩
  · simp only [measI, List.length_append, List.length_cons, List.length_nil]; omega

theorem BS.skip {x y : Nat} {zs : List Nat} {b : List Int} {w : List Nat} (k : BS c r hs h x (y :: zs) b w) (hyr : y ≤ r) (hm : hs.getD y 0 ≤ h → b.getD y 0 ≠ 37) : BS c r hs h x zs b w where
  len := k.len
  root := k.root
  rng := k.rng
  wk := k.wk
  sort := k.sort
  hd := k.hd
  top := k.top
  rel u hu hn hw z hz ht := by
    rcases k.rel u hu hn hw z hz ht with h1 | ⟨h1, h2⟩
    · exact .inl h1
    · rcases List.mem_cons.1 h2 with h3 | h3
      · subst h3; subst h1; exact .inl ⟨hm ht, k.top _ hyr (hm ht)⟩
      · exact .inr ⟨h1, h3⟩

/-- How many steps lead to the river: 37 where none do. -/
structure Dist (c r : Nat) (hs : List Int) (h : Int) (b : List Int) : Prop where
  len : b.length = 37
  root : b.getD r 0 = 0
  rng : ∀ y, y < 37 → b.getD y 0 = 37 ∨ ∃ k : Nat, b.getD y 0 = (k : Int) ∧ Dk c r hs h k y ∧ y ≤ r ∧ k ≤ r
  rel : ∀ u, u ≤ r → b.getD u 0 ≠ 37 → ∀ y ∈ nbrs c r u, hs.getD y 0 ≤ h → b.getD y 0 ≠ 37 ∧ b.getD y 0 ≤ b.getD u 0 + 1

theorem BS.done {x : Nat} {b : List Int} (k : BS c r hs h x [] b []) : Dist c r hs h b where
  len := k.len
  root := k.root
  rng y hy := by
    rcases k.rng y hy with h1 | ⟨e, h1, h2, h3, h4⟩
    · exact .inl h1
    · exact .inr ⟨e, h1, h2, h3, by omega⟩
  rel u hu hn y hy ht := by
    rcases k.rel u hu hn (by simp) y hy ht with h1 | ⟨_, h2⟩
    · exact h1
    · cases h2

theorem BS.init (hr : r ≤ 36) : BS c r hs h r [] ((List.replicate 37 37).set r 0) [r] := by
  have hg := fun z => getD_set (l := List.replicate 37 (37 : Int)) (y := r) (z := z) (v := 0) (by simp; omega)
  have h37 : ∀ z, z < 37 → (List.replicate 37 (37 : Int)).getD z 0 = 37 := fun z hz => by rw [List.getD_eq_getElem?_getD, List.getElem?_replicate, if_pos hz]; rfl
  have ho : offsI (((List.replicate 37 (37 : Int)).set r 0).take (r + 1)) + 1 = r + 1 := by
    rw [List.take_set, List.take_replicate, Nat.min_eq_left (by omega)]
    rw [offsI_set _ r 0 (by simp) ?_ (by decide), offsI_rep]
    rw [List.getD_eq_getElem?_getD, List.getElem?_replicate, if_pos (by omega)]; rfl
  constructor
  · simp
  · rw [hg, if_pos rfl]
  · intro y hy
    rw [hg]
    by_cases hyr : y = r
    · subst hyr; rw [if_pos rfl]; exact .inr ⟨0, rfl, .zero, Nat.le_refl _, by omega⟩
    · rw [if_neg hyr]; exact .inl (h37 y hy)
  · intro y hy
    rw [List.mem_singleton.1 hy, hg, if_pos rfl]; exact ⟨Nat.le_refl _, by decide⟩
  · exact List.pairwise_singleton _ _
  · intro y hy; rw [List.mem_singleton.1 hy]; exact Int.le_refl _
  · intro y hy hn
    rw [hg] at hn ⊢
    by_cases hyr : y = r
    · rw [if_pos hyr, hg, if_pos rfl]; decide
    · rw [if_neg hyr, h37 y (by omega)] at hn; exact absurd rfl hn
  · intro u hu hn hw
    rw [hg] at hn
    rw [if_neg (fun e => hw (by simp [e])), h37 u (by omega)] at hn
    exact absurd rfl hn
end

section
variable {c r : Nat} {hs : List Int} {h : Int} (hh : HS c r hs) {b : List Int} (D : Dist c r hs h b)
include hh D

theorem Dist.min {k y : Nat} (d : Dk c r hs h k y) : b.getD y 0 ≠ 37 ∧ b.getD y 0 ≤ (k : Int) := by
  induction d with
  | zero => rw [D.root]; exact ⟨by decide, by simp⟩
  | succ hx hy ht ih =>
    have h1 := D.rel _ (hx.le hh.c1 hh.cr) ih.1 _ hy ht
    exact ⟨h1.1, by have := ih.2; omega⟩

theorem Dist.at_ {y : Nat} (hy : y ≤ r) : b.getD y 0 = 37 ∨ ∃ k : Nat, b.getD y 0 = (k : Int) ∧ Dk c r hs h k y ∧ k ≤ r := by
  have h36 := hh.r36
  rcases D.rng y (by omega) with h1 | ⟨k, h1, h2, _, h4⟩
  · exact .inl h1
  · exact .inr ⟨k, h1, h2, h4⟩

omit hh D in
theorem Dk.zero_ {y : Nat} (d : Dk c r hs h 0 y) : y = r := by cases d; rfl

/-- Whoever is marked, and not the river, has a neighbour one step nearer. -/
theorem Dist.pred {y k : Nat} (hy : y ≤ r) (hk : b.getD y 0 = ((k + 1 : Nat) : Int)) (h37 : k + 1 ≠ 37) : hs.getD y 0 ≤ h ∧ ∃ x, x ≤ r ∧ y ∈ nbrs c r x ∧ b.getD x 0 = (k : Int) := by
  rcases D.at_ hh hy with h1 | ⟨k', h1, h2, _⟩
  · omega
  · have : k' = k + 1 := by omega
    subst this
    cases h2 with
    | succ hx hyn ht =>
      have h3 := D.min hh hx
      have hxr := hx.le hh.c1 hh.cr
      have h4 := (D.rel _ hxr h3.1 _ hyn ht).2
      exact ⟨ht, _, hxr, hyn, by omega⟩
end
end Go.Proofs.Ytmogipomnjihcaa.Eb

namespace Go.Proofs.Ytmogipomnjihcaa.Eb
open Go Go.Abs Go.Low
set_option linter.unusedVariables false
set_option linter.unusedSimpArgs false
attribute [local irreducible] gOK WS WC WR WD Ends FS YS OpV seqK blockK loopK midK retK rdK asgK rangeEnd sat Cell

theorem falses37 : List.replicate 37 (Value.bool false) = bools (List.replicate 37 false) := rfl

structure RL where
  ts : List Bool
  w : List Nat
  v : Value
  Mx : HL
  D : List Nat
  bw : Nat
  n : Nat

set_option maxHeartbeats 1000000 in
theorem reach_fs {M : HL} {n : Nat} {H : Heap} (hH : hasH M n H) {bg bm e c r p : Nat} {hs : List Int} {ms : List Bool} (hm : (bg, .row 99 0 0 (gcells c r hs)) ∈ M) (hmm : (bm, .row e 0 0 (bools ms)) ∈ M) (hl : ms.length = 37) (hh : HS c r hs) (hc6 : c ≤ 6) (hp : p ≤ r) :
    FS C 67 [.pointer (some ⟨bg, 0, some 0⟩), .int .i64 (p : Int), .pointer (some ⟨bm, 0, some 0⟩)] H (fun v H' => ∃ b n' ts, v = .pointer (some ⟨b, 0, some 0⟩) ∧ n ≤ n' ∧ hasH ((b, .row 97 0 0 (bools ts)) :: M) n' H' ∧ ts.length = 37 ∧ ∀ y, ts.getD y false = true ↔ RM c r ms p y) := by
  have h36 := hh.r36
  refine FS.intro (pf := pf67) rfl rfl rfl ?_
  repeat' (first | refine zA ?_ | (refine zM ?_; intro _ _) | (apply Ws <;> intro hg))
  rename_i H1 hH1
  rw [falses37] at hH1
  refine WR.op (by first | exact gN | exact gS rfl) rfl (OpV.loadB (b := bm) (e := e) (xs := ms) rfl hH1 (by simp [hmm]) (by omega)) ?_
  repeat' (first | refine zA ?_ | (refine zM ?_; intro _ _) | (apply Ws <;> intro hg))
  refine WR.storeB (by first | exact gN | exact gS rfl) hH1 rfl rfl .here (by simp; omega) fun H2 hH2 => ?_
  have hinit := RS.init (c := c) (r := r) (ms := ms) (p := p) (by omega)
  generalize (List.replicate 37 false).set p (ms.getD p false) = ts0 at hH2 hinit
  replace hH2 : hasH ((n + 1, .row 97 0 0 (bools ts0)) :: (n, .row 101 0 0 [.pointer (some ⟨bm, 0, some 0⟩)]) :: M) (n + 1 + 1) H2 := hH2
  clear hH1
  repeat' (first | refine zA ?_ | (refine zM ?_; intro _ _) | (apply Ws <;> intro hg))
  refine WR.call (by first | exact gN | exact gS rfl) rfl rfl (marks_fs hH2 (.head _) hinit.len) ?_
  rintro v H3 ⟨Mx, n3, hn3, hO, hH3⟩
  have hv1 := (hO.sl M).one_
  repeat' (first | refine zA ?_ | (refine zM ?_; intro _ _) | (apply Ws <;> intro hg))
  rename_i hb
  have hms0 := offs_le ts0
  have hml := marked_len ts0 37
  refine WC.loop (fun a : RL => [(0, .pointer (some ⟨bg, 0, some 0⟩)), (5, .pointer (some ⟨n, 0, some 0⟩)), (7, .pointer (some ⟨n + 1, 0, some 0⟩)), (8, .pointer (some ⟨a.bw, 0, some 0⟩))]) (fun a => a.D)
    (fun a H => hasH ((a.bw, .row 22 0 0 [a.v]) :: (n + 1, .row 97 0 0 (bools a.ts)) :: (n, .row 101 0 0 [.pointer (some ⟨bm, 0, some 0⟩)]) :: (a.Mx ++ (defds a.D ++ M))) a.n H ∧
      Own 3 1 a.v (nodes a.w) a.Mx ∧ (∃ x, RS c r ms p x [] a.ts a.w) ∧ measB a.ts a.w ≤ 200 ∧ n ≤ a.n) (fun a => measB a.ts a.w)
    ⟨ts0, marked ts0 37, v, Mx, [], n3, n3 + 1⟩ (by repeat' (first | exact .nil | refine .cons rfl ?_)) rfl ⟨hb.perm (by classical exact List.perm_iff_count.2 (fun a => by simp only [defds, List.map_cons, List.map_nil, List.count_append, List.count_cons, List.count_nil, List.cons_append, List.nil_append, List.append_nil]; omega)), hO, ⟨p, hinit⟩, by have := hinit.len; simp only [measB]; omega, by simp only; omega⟩ ?_
  clear hb hO hinit hH3 hH2 hms0 hml hv1
  rintro ⟨ts, w, v, Mx, D, bw, nn⟩ H4 ⟨hH4, hO, ⟨x', hR0⟩, hms, hn⟩
  simp only at hH4 hO hR0 hms hn
  dsimp only
  have hSl := hO.sl (defds D ++ M)
  have hSl2 : Sl ((bw, .row 22 0 0 [v]) :: (n + 1, .row 97 0 0 (bools ts)) :: (n, .row 101 0 0 [.pointer (some ⟨bm, 0, some 0⟩)]) :: (Mx ++ (defds D ++ M))) 1 v (nodes w) := hSl.cons.cons.cons
  have hv1 := hSl.one_
  repeat' (first | refine zA ?_ | (refine zM ?_; intro _ _) | (apply Ws <;> intro hg))
  refine WR.op (by first | exact gN | exact gS rfl) rfl (OpV.lenS rfl hSl) ?_
  repeat' (first | refine zA ?_ | (refine zM ?_; intro _ _) | (apply Ws <;> intro hg))
  refine WC.condP rfl (fun hlt => ?_) (fun hlt => ?_)
  · cases w with
    | nil => exact absurd hlt (by simp)
    | cons x w0 =>
    have hxt := hR0.wk x (by simp)
    have hx : x ≤ r := (hR0.rp x hxt).le hh.c1 hh.cr hp
    repeat' (first | refine zA ?_ | (refine zM ?_; intro _ _) | (apply Ws <;> intro hg))
    refine WR.idxSl (by first | exact gN | exact gS rfl) rfl rfl hSl2 rfl (m := 0) rfl (c := .int .i64 (x : Int)) rfl fun b' o' u' hc => ?_
    repeat' (first | refine zA ?_ | (refine zM ?_; intro _ _) | (apply Ws <;> intro hg))
    have hmem : (bg, Ch.row 99 0 0 (gcells c r hs)) ∈ Mx ++ (defds D ++ M) := by simp [hm]
    refine WR.call (by first | exact gN | exact gS rfl) rfl rfl (neighbours_fs (by assumption) (hs := hs) (r := r) (c := c) (by first | assumption | exact .head _ | exact .tail _ (.head _) | exact .tail _ (.tail _ (.head _)) | exact .tail _ (.tail _ (.tail _ (.head _))) | exact .tail _ (.tail _ (.tail _ (.tail _ (.head _)))) | exact .tail _ (.tail _ (.tail _ (.tail _ (.tail _ (.head _))))) | exact .tail _ (.tail _ (.tail _ (.tail _ (.tail _ (.tail _ (.head _)))))) | (repeat' (first | assumption | apply List.mem_cons_of_mem))) ⟨hh.c1, hc6⟩ hh.cr hx h36) ?_
    rintro _ H5 ⟨g, va, vb, Mn, n5, rfl, hn5, hH5, hit⟩
    repeat' (first | refine zA ?_ | (refine zM ?_; intro _ _) | (apply Ws <;> intro hg))
    refine WC.range0 rfl hH5 fun t ht H6 hH6 => ?_
    generalize hR : ({ state := .ready, pending := none, fn := 67, tmps := t, params := [28], assign := _, body := _, nt := _ } : LoopE) = R at hH6
    generalize hmm0 : measB ts (x :: w0) = mm at hms
    have h0 := hit (n5 + 1) (fun zs H => ∃ ts w v Mx nn' zr, hasH ((n5 + 1, .loop R) :: (bw, .row 22 0 0 [v]) :: (n + 1, .row 97 0 0 (bools ts)) :: (n, .row 101 0 0 [.pointer (some ⟨bm, 0, some 0⟩)]) :: (Mx ++ (Mn ++ ((n5, .defd false) :: (defds D ++ M))))) nn' H ∧
      Own 3 1 v (nodes (x :: w)) Mx ∧ RS c r ms p x zr ts w ∧ ts.getD x false = true ∧ zs = nodes zr ∧ measB ts (x :: w) ≤ mm ∧ n ≤ nn' ∧ (∀ z ∈ zr, z ∈ nbrs c r x)) (fun _ => False) ?_ ?_ H6
      ⟨ts, w0, v, Mx, n5 + 2, nbrs c r x, hH6.perm (by classical exact List.perm_iff_count.2 (fun a => by simp only [defds, List.map_cons, List.map_nil, List.count_append, List.count_cons, List.count_nil, List.cons_append, List.nil_append, List.append_nil]; omega)), hO, hR0.enter, hxt, rfl, Nat.le_of_eq hmm0, by omega, fun z hz => hz⟩
    · refine FS.mono h0 ?_
      rintro _ H7 (⟨ts2, w, v, Mx, nn', zr, hH7, hO, hR2, hxt, hzs, hms2, hnn, _⟩ | hf)
      · have hzn : zr = [] := by
          cases zr with
          | nil => rfl
          | cons => cases hzs
        subst hzn
        refine rangeEnd_of hH7 .here (by rw [← hR]; simp) (by rw [← hR]; rfl) fun H8 hH8 => ?_
        repeat' (first | refine zA ?_ | (refine zM ?_; intro _ _) | (apply Ws <;> intro hg))
        have hv1 := (hO.sl M).one_
        repeat' (first | refine zA ?_ | (refine zM ?_; intro _ _) | (apply Ws <;> intro hg))
        rename_i hq
        refine WR.slOwnF [_, _, _, _, _] Mx _ (by first | exact gN | exact gS rfl) rfl rfl hO hq rfl (a := 1) (by simp) (Nat.le_refl _) (Nat.le_refl _) fun v2 Mx2 hO2 hH9 => ?_
        simp only [List.cons_append, List.nil_append] at hH9
        have hv2 := (hO2.sl M).one_
        repeat' (first | refine zA ?_ | (refine zM ?_; intro _ _) | (apply Ws <;> intro hg))
        rename_i hq2
        refine Ends.loop ⟨ts2, w, v2, Mx2, n5 :: D, nn', nn' + 1⟩ (by simp only [measB, List.length_cons] at hms2 hmm0 ⊢; omega) (by repeat' (first | exact .nil | refine .cons rfl ?_)) rfl ⟨?_, hO2, ⟨x, hR2⟩, by simp only [measB, List.length_cons] at hms2 hms ⊢; omega, by simp only; omega⟩
        exact hq2.sub (.cons_cons _ (.cons _ (.cons _ (.cons_cons _ (.cons_cons _ (.append (.refl _) (List.sublist_append_right _ _)))))))
      · exact hf.elim
    · rintro zs H ⟨ts2, w, v, Mx, nn', zr, hH7, _⟩
      exact ⟨_, _, hH7, fun q hq => by simp [hq], by simp [hm]⟩
    · rintro z zs H ⟨ts2, w, v, Mx, nn', zr, hH7, hO, hR2, hxt, hzs, hms2, hnn, hzn⟩
      cases zr with
      | nil => cases hzs
      | cons y zr =>
      obtain ⟨rfl, rfl⟩ : z = .int .i64 (y : Int) ∧ zs = nodes zr := by simpa using hzs
      have hyn := hzn y (by simp)
      have hyr := nbrs_le hh.c1 hh.cr hx hyn
      have htl := hR2.len
      have hol := offs_le ts2
      refine YS.intro hH7 (.head _) (by rw [← hR]) (by rw [← hR]) (by rw [← hR]; rfl) (by rw [← hR]; exact ht) ?_
      subst hR
      dsimp only
      repeat' (first | refine zA ?_ | (refine zM ?_; intro _ _) | (apply Ws <;> intro hg))
      refine Ends.asg hH7 .here fun H8 hH8 => ?_
      dsimp only
      repeat' (first | refine zA ?_ | (refine zM ?_; intro _ _) | (apply Ws <;> intro hg))
      refine WR.op (by first | exact gN | exact gS rfl) rfl (OpV.loadB (b := bm) (e := e) (xs := ms) rfl hH8 (by simp [hmm]) (by omega)) ?_
      cases hmy : ms.getD y false with
      | true =>
        repeat' (first | refine zA ?_ | (refine zM ?_; intro _ _) | (apply Ws <;> intro hg))
        refine WR.op (by first | exact gN | exact gS rfl) rfl (OpV.loadB (b := n + 1) (e := 97) (xs := ts2) rfl hH8 (by first | assumption | exact .head _ | exact .tail _ (.head _) | exact .tail _ (.tail _ (.head _)) | exact .tail _ (.tail _ (.tail _ (.head _))) | exact .tail _ (.tail _ (.tail _ (.tail _ (.head _)))) | exact .tail _ (.tail _ (.tail _ (.tail _ (.tail _ (.head _))))) | exact .tail _ (.tail _ (.tail _ (.tail _ (.tail _ (.tail _ (.head _)))))) | (repeat' (first | assumption | apply List.mem_cons_of_mem))) (by omega)) ?_
        cases hty : ts2.getD y false with
        | true =>
          repeat' (first | refine zA ?_ | (refine zM ?_; intro _ _) | (apply Ws <;> intro hg))
          exact Ends.rd rfl rfl rfl hH8 .here fun H' h' => .inl ⟨rfl, ts2, w, v, Mx, nn', zr, h', hO, hR2.skip (fun _ => hty), hxt, rfl, hms2, hnn, fun z hz => hzn z (by simp [hz])⟩
        | false =>
          have hos := offs_set ts2 y (by omega) hty
          have hsl : (nodes (x :: w)).length + 1 ≤ 100000 := by
            simp only [measB, List.length_cons] at hms2
            simp only [List.length_map, List.length_cons]
            omega
          repeat' (first | refine zA ?_ | (refine zM ?_; intro _ _) | (apply Ws <;> intro hg))
          refine WR.storeB (by first | exact gN | exact gS rfl) hH8 rfl rfl (by first | exact .here | exact .there .here | exact .there (.there .here) | exact .there (.there (.there .here)) | exact .there (.there (.there (.there .here))) | exact .there (.there (.there (.there (.there .here))))) (by omega) fun H9 hH9 => ?_
          repeat' (first | refine zA ?_ | (refine zM ?_; intro _ _) | (apply Ws <;> intro hg))
          refine WR.append1F [_, _, _, _] Mx _ rfl rfl rfl rfl hO hH9 (new := [.int .i64 (y : Int)]) (by rfl) rfl rfl (Nat.le_refl _) (by omega) hsl fun v2 Mx2 n9 H10 hO2 hH10 hn10 => ?_
          simp only [List.cons_append, List.nil_append] at hH10
          have hv2 := (hO2.sl M).one_
          repeat' (first | refine zA ?_ | (refine zM ?_; intro _ _) | (apply Ws <;> intro hg))
          rename_i hq
          refine Ends.rd rfl rfl rfl hq .here fun H' h' => .inl ⟨rfl, ts2.set y true, w ++ [y], v2, Mx2, n9, zr, h', by simpa using hO2, hR2.push hxt hyn (by omega) hmy, ?_, rfl, ?_, by omega, fun z hz => hzn z (by simp [hz])⟩
          · rw [getB_set (by omega)]; split
            · rfl
            · exact hxt
          · simp only [measB, List.length_cons, List.length_append, List.length_nil] at hms2 ⊢; omega
      | false =>
        repeat' (first | refine zA ?_ | (refine zM ?_; intro _ _) | (apply Ws <;> intro hg))
        exact Ends.rd rfl rfl rfl hH8 .here fun H' h' => .inl ⟨rfl, ts2, w, v, Mx, nn', zr, h', hO, hR2.skip (fun h => by rw [hmy] at h; cases h), hxt, rfl, hms2, hnn, fun z hz => hzn z (by simp [hz])⟩
  · have hw : w = [] := by
      cases w with
      | nil => rfl
      | cons => exact absurd (by simp) hlt
    subst hw
    repeat' (first | refine zA ?_ | (refine zM ?_; intro _ _) | (apply Ws <;> intro hg))
    refine Ends.ret1D (M' := defds D ++ ((n + 1, .row 97 0 0 (bools ts)) :: M)) (M0 := (n + 1, .row 97 0 0 (bools ts)) :: M) rfl (hH4.perm (M' := (bw, .row 22 0 0 [v]) :: (n, .row 101 0 0 [.pointer (some ⟨bm, 0, some 0⟩)]) :: (Mx ++ (defds D ++ ((n + 1, .row 97 0 0 (bools ts)) :: M)))) (by classical exact List.perm_iff_count.2 (fun a => by simp only [defds, List.map_cons, List.map_nil, List.count_append, List.count_cons, List.count_nil, List.cons_append, List.nil_append, List.append_nil]; omega))) (.cons _ (.cons _ (List.sublist_append_right _ _))) (List.Perm.refl _) fun H5 hH5 => ⟨n + 1, nn, ts, rfl, hn, hH5, hR0.len, hR0.done⟩
end Go.Proofs.Ytmogipomnjihcaa.Eb

namespace Go.Proofs.Ytmogipomnjihcaa.Eb
open Go Go.Abs Go.Low
set_option linter.unusedVariables false
set_option linter.unusedSimpArgs false
attribute [local irreducible] gOK WS WC WR WD Ends FS YS OpV seqK blockK loopK midK retK rdK asgK rangeEnd sat Cell

theorem fill37 {k : Nat} (h : k < 37) : (List.replicate k (37 : Int) ++ List.replicate (37 - k) 0).set k 37 = List.replicate (k + 1) 37 ++ List.replicate (37 - (k + 1)) 0 := by
  rw [List.set_append_right _ _ (by simp)]
  simp only [List.length_replicate, Nat.sub_self]
  rw [show 37 - k = (37 - (k + 1)) + 1 by omega, List.replicate_succ (n := 37 - (k + 1)), List.set_cons_zero, List.replicate_succ', List.append_assoc]
  rfl

structure TS where
  b : List Int
  w : List Nat
  v : Value
  Mx : HL
  D : List Nat
  bw : Nat
  n : Nat

set_option maxHeartbeats 1000000 in
theorem steps_fs {M : HL} {n : Nat} {H : Heap} (hH : hasH M n H) {bg c r : Nat} {hs : List Int} {h : Int} (hm : (bg, .row 99 0 0 (gcells c r hs)) ∈ M) (hh : HS c r hs) (hc6 : c ≤ 6) :
    FS C 73 [.pointer (some ⟨bg, 0, some 0⟩), .int .i64 h] H (fun v H' => ∃ b n', v = .agg ((b.map (Value.int .i64)).toArray) ∧ n ≤ n' ∧ hasH M n' H' ∧ Dist c r hs h b) := by
  have h36 := hh.r36
  refine FS.intro (pf := pf73) rfl rfl rfl ?_
  repeat' (first | refine zA ?_ | (refine zM ?_; intro _ _) | (apply Ws <;> intro hg))
  refine WC.loop (fun k : Nat => [(2, .pointer (some ⟨n, 0, some 0⟩)), (3, .pointer (some ⟨n + 1, 0, some 0⟩)), (4, .pointer (some ⟨n + 1 + 1, 0, some 0⟩)), (5, .pointer (some ⟨n + 1 + 1 + 1, 0, some 0⟩)), (10, .int .i64 (k : Int))]) (fun _ => [])
    (fun k H => k ≤ 37 ∧ hasH ((n + 1 + 1 + 1, .row 86 0 0 (ints (List.replicate k 37 ++ List.replicate (37 - k) 0))) :: (n + 1 + 1, .row 86 0 0 (List.replicate 37 (.int .i64 0))) :: (n + 1, .row 3 0 0 [.int .i64 h]) :: (n, .row 82 0 0 [.pointer (some ⟨bg, 0, some 0⟩)]) :: M) (n + 1 + 1 + 1 + 1) H)
    (fun k => 37 - k) 0 (by repeat' (first | exact .nil | refine .cons rfl ?_)) rfl ⟨Nat.zero_le _, by assumption⟩ ?_
  rintro k H1 ⟨hk, hH1⟩
  repeat' (first | refine zA ?_ | (refine zM ?_; intro _ _) | (apply Ws <;> intro hg))
  refine WC.condP rfl (fun hlt => ?_) (fun hlt => ?_)
  · have hk' : k < 37 := by omega
    repeat' (first | refine zA ?_ | (refine zM ?_; intro _ _) | (apply Ws <;> intro hg))
    refine WR.storeI (by first | exact gN | exact gS rfl) hH1 rfl rfl (by first | exact .here | exact .there .here | exact .there (.there .here) | exact .there (.there (.there .here)) | exact .there (.there (.there (.there .here))) | exact .there (.there (.there (.there (.there .here))))) (by simp; omega) fun H2 hH2 => ?_
    rw [fill37 hk'] at hH2
    repeat' (first | refine zA ?_ | (refine zM ?_; intro _ _) | (apply Ws <;> intro hg))
    exact Ends.loop (k + 1) (by omega) (by repeat' (first | exact .nil | refine .cons rfl ?_)) rfl ⟨hk', hH2⟩
  have hk37 : k = 37 := by omega
  subst hk37
  repeat' (first | refine zA ?_ | (refine zM ?_; intro _ _) | (apply Ws <;> intro hg))
  refine WR.storeI (by first | exact gN | exact gS rfl) hH1 rfl rfl (by first | exact .here | exact .there .here | exact .there (.there .here) | exact .there (.there (.there .here)) | exact .there (.there (.there (.there .here))) | exact .there (.there (.there (.there (.there .here))))) (by simp; omega) fun H2 hH2 => ?_
  rw [show (List.replicate 37 (37 : Int) ++ List.replicate (37 - 37) 0) = List.replicate 37 37 from rfl] at hH2
  have hinit := BS.init (c := c) (r := r) (hs := hs) (h := h) (by omega)
  generalize (List.replicate 37 (37 : Int)).set r 0 = b0 at hH2 hinit
  replace hH2 : hasH ((n + 1 + 1 + 1, .row 86 0 0 (ints b0)) :: (n + 1 + 1, .row 86 0 0 (List.replicate 37 (.int .i64 0))) :: (n + 1, .row 3 0 0 [.int .i64 h]) :: (n, .row 82 0 0 [.pointer (some ⟨bg, 0, some 0⟩)]) :: M) (n + 1 + 1 + 1 + 1) H2 := hH2
  clear hH1 hlt hk
  repeat' (first | refine zA ?_ | (refine zM ?_; intro _ _) | (apply Ws <;> intro hg))
  refine WR.bldS (by first | exact gN | exact gS rfl) rfl hH2 (vs := [(0, .int .i64 (r : Int))]) rfl (cs := [.int .i64 (r : Int)]) (by rfl) rfl fun H3 hH3 => ?_
  have hH4 := hH3.asInp .here
  clear hH3 hH2
  repeat' (first | refine zA ?_ | (refine zM ?_; intro _ _) | (apply Ws <;> intro hg))
  rename_i hb
  have hb0l := hinit.len
  have hb0 := offsI_le (b0.take (r + 1))
  refine WC.loop (fun a : TS => [(2, .pointer (some ⟨n, 0, some 0⟩)), (3, .pointer (some ⟨n + 1, 0, some 0⟩)), (4, .pointer (some ⟨n + 1 + 1, 0, some 0⟩)), (5, .pointer (some ⟨n + 1 + 1 + 1, 0, some 0⟩)), (7, .pointer (some ⟨a.bw, 0, some 0⟩))]) (fun a => a.D)
    (fun a H => hasH ((a.bw, .row 22 0 0 [a.v]) :: (n + 1 + 1 + 1, .row 86 0 0 (ints a.b)) :: (n + 1 + 1, .row 86 0 0 (List.replicate 37 (.int .i64 0))) :: (n + 1, .row 3 0 0 [.int .i64 h]) :: (n, .row 82 0 0 [.pointer (some ⟨bg, 0, some 0⟩)]) :: (a.Mx ++ (defds a.D ++ M))) a.n H ∧
      Own 3 1 a.v (nodes a.w) a.Mx ∧ (∃ x, BS c r hs h x [] a.b a.w) ∧ measI r a.b a.w ≤ 200 ∧ n ≤ a.n) (fun a => measI r a.b a.w)
    ⟨b0, [r], .slice (some ⟨n + 1 + 1 + 1 + 1, 0, some 0⟩) 1 (2 * 1 + 1), [(n + 1 + 1 + 1 + 1, .inp 3 0 0 [.int .i64 (r : Int)])], [], n + 1 + 1 + 1 + 1 + 1, n + 1 + 1 + 1 + 1 + 1 + 1⟩ (by repeat' (first | exact .nil | refine .cons rfl ?_)) rfl
    ⟨hb.perm (by classical exact List.perm_iff_count.2 (fun a => by simp only [defds, List.map_cons, List.map_nil, List.count_append, List.count_cons, List.count_nil, List.cons_append, List.nil_append, List.append_nil]; omega)), .full rfl rfl, ⟨r, hinit⟩, by simp only [measI, List.length_cons, List.length_nil]; rw [List.length_take] at hb0; omega, by simp only; omega⟩ ?_
  clear hb hinit hH4 hb0 hb0l
  rintro ⟨b, w, v, Mx, D, bw, nn⟩ H4 ⟨hH4, hO, ⟨x', hR0⟩, hms, hn⟩
  simp only at hH4 hO hR0 hms hn
  dsimp only
  have hSl := hO.sl (defds D ++ M)
  have hSl2 : Sl ((bw, .row 22 0 0 [v]) :: (n + 1 + 1 + 1, .row 86 0 0 (ints b)) :: (n + 1 + 1, .row 86 0 0 (List.replicate 37 (.int .i64 0))) :: (n + 1, .row 3 0 0 [.int .i64 h]) :: (n, .row 82 0 0 [.pointer (some ⟨bg, 0, some 0⟩)]) :: (Mx ++ (defds D ++ M))) 1 v (nodes w) := hSl.cons.cons.cons.cons.cons
  have hv1 := hSl.one_
  repeat' (first | refine zA ?_ | (refine zM ?_; intro _ _) | (apply Ws <;> intro hg))
  refine WR.op (by first | exact gN | exact gS rfl) rfl (OpV.lenS rfl hSl) ?_
  repeat' (first | refine zA ?_ | (refine zM ?_; intro _ _) | (apply Ws <;> intro hg))
  refine WC.condP rfl (fun hlt => ?_) (fun hlt => ?_)
  · cases w with
    | nil => exact absurd hlt (by simp)
    | cons x w0 =>
    obtain ⟨hx, hxb⟩ := hR0.wk x (by simp)
    repeat' (first | refine zA ?_ | (refine zM ?_; intro _ _) | (apply Ws <;> intro hg))
    refine WR.idxSl (by first | exact gN | exact gS rfl) rfl rfl hSl2 rfl (m := 0) rfl (c := .int .i64 (x : Int)) rfl fun b' o' u' hc => ?_
    repeat' (first | refine zA ?_ | (refine zM ?_; intro _ _) | (apply Ws <;> intro hg))
    have hmem : (bg, Ch.row 99 0 0 (gcells c r hs)) ∈ Mx ++ (defds D ++ M) := by simp [hm]
    refine WR.call (by first | exact gN | exact gS rfl) rfl rfl (neighbours_fs (by assumption) (hs := hs) (r := r) (c := c) (by first | assumption | exact .head _ | exact .tail _ (.head _) | exact .tail _ (.tail _ (.head _)) | exact .tail _ (.tail _ (.tail _ (.head _))) | exact .tail _ (.tail _ (.tail _ (.tail _ (.head _)))) | exact .tail _ (.tail _ (.tail _ (.tail _ (.tail _ (.head _))))) | exact .tail _ (.tail _ (.tail _ (.tail _ (.tail _ (.tail _ (.head _)))))) | (repeat' (first | assumption | apply List.mem_cons_of_mem))) ⟨hh.c1, hc6⟩ hh.cr hx h36) ?_
    rintro _ H5 ⟨g, va, vb, Mn, n5, rfl, hn5, hH5, hit⟩
    repeat' (first | refine zA ?_ | (refine zM ?_; intro _ _) | (apply Ws <;> intro hg))
    refine WC.range0 rfl hH5 fun t ht H6 hH6 => ?_
    generalize hR : ({ state := .ready, pending := none, fn := 73, tmps := t, params := [37], assign := _, body := _, nt := _ } : LoopE) = R at hH6
    generalize hmm0 : measI r b (x :: w0) = mm at hms
    have h0 := hit (n5 + 1) (fun zs H => ∃ b w v Mx nn' zr, hasH ((n5 + 1, .loop R) :: (nn, .row 3 0 0 [.int .i64 (x : Int)]) :: (bw, .row 22 0 0 [v]) :: (n + 1 + 1 + 1, .row 86 0 0 (ints b)) :: (n + 1 + 1, .row 86 0 0 (List.replicate 37 (.int .i64 0))) :: (n + 1, .row 3 0 0 [.int .i64 h]) :: (n, .row 82 0 0 [.pointer (some ⟨bg, 0, some 0⟩)]) :: (Mx ++ (Mn ++ ((n5, .defd false) :: (defds D ++ M))))) nn' H ∧
      Own 3 1 v (nodes (x :: w)) Mx ∧ BS c r hs h x zr b w ∧ b.getD x 0 ≠ 37 ∧ zs = nodes zr ∧ measI r b (x :: w) ≤ mm ∧ n ≤ nn' ∧ (∀ z ∈ zr, z ∈ nbrs c r x)) (fun _ => False) ?_ ?_ H6
      ⟨b, w0, v, Mx, n5 + 2, nbrs c r x, hH6.perm (by classical exact List.perm_iff_count.2 (fun a => by simp only [defds, List.map_cons, List.map_nil, List.count_append, List.count_cons, List.count_nil, List.cons_append, List.nil_append, List.append_nil]; omega)), hO, hR0.enter, hxb, rfl, Nat.le_of_eq hmm0, by omega, fun z hz => hz⟩
    · refine FS.mono h0 ?_
      rintro _ H7 (⟨b2, w, v, Mx, nn', zr, hH7, hO, hR2, hxt, hzs, hms2, hnn, _⟩ | hf)
      · have hzn : zr = [] := by
          cases zr with
          | nil => rfl
          | cons => cases hzs
        subst hzn
        refine rangeEnd_of hH7 .here (by rw [← hR]; simp) (by rw [← hR]; rfl) fun H8 hH8 => ?_
        repeat' (first | refine zA ?_ | (refine zM ?_; intro _ _) | (apply Ws <;> intro hg))
        have hv1 := (hO.sl M).one_
        repeat' (first | refine zA ?_ | (refine zM ?_; intro _ _) | (apply Ws <;> intro hg))
        rename_i hq
        refine WR.slOwnF [_, _, _, _, _, _, _, _] Mx _ (by first | exact gN | exact gS rfl) rfl rfl hO hq rfl (a := 1) (by simp) (Nat.le_refl _) (Nat.le_refl _) fun v2 Mx2 hO2 hH9 => ?_
        simp only [List.cons_append, List.nil_append] at hH9
        have hv2 := (hO2.sl M).one_
        repeat' (first | refine zA ?_ | (refine zM ?_; intro _ _) | (apply Ws <;> intro hg))
        rename_i hq2
        refine Ends.loop ⟨b2, w, v2, Mx2, n5 :: D, nn', nn' + 1⟩ (by simp only [measI, List.length_cons] at hms2 hmm0 ⊢; omega) (by repeat' (first | exact .nil | refine .cons rfl ?_)) rfl ⟨?_, hO2, ⟨x, hR2⟩, by simp only [measI, List.length_cons] at hms2 hms ⊢; omega, by simp only; omega⟩
        exact hq2.sub (.cons_cons _ (.cons _ (.cons _ (.cons _ (.cons_cons _ (.cons_cons _ (.cons_cons _ (.cons_cons _ (.append (.refl _) (List.sublist_append_right _ _))))))))))
      · exact hf.elim
    · rintro zs H ⟨b2, w, v, Mx, nn', zr, hH7, _⟩
      exact ⟨_, _, hH7, fun q hq => by simp [hq], by simp [hm]⟩
    · rintro z zs H ⟨b2, w, v, Mx, nn', zr, hH7, hO, hR2, hxt, hzs, hms2, hnn, hzn⟩
      cases zr with
      | nil => cases hzs
      | cons y zr =>
      obtain ⟨rfl, rfl⟩ : z = .int .i64 (y : Int) ∧ zs = nodes zr := by simpa using hzs
      have hyn := hzn y (by simp)
      have hyr := nbrs_le hh.c1 hh.cr hx hyn
      have hbl := hR2.len
      refine YS.intro hH7 (.head _) (by rw [← hR]) (by rw [← hR]) (by rw [← hR]; rfl) (by rw [← hR]; exact ht) ?_
      subst hR
      dsimp only
      repeat' (first | refine zA ?_ | (refine zM ?_; intro _ _) | (apply Ws <;> intro hg))
      refine Ends.asg hH7 .here fun H8 hH8 => ?_
      dsimp only
      repeat' (first | refine zA ?_ | (refine zM ?_; intro _ _) | (apply Ws <;> intro hg))
      have hmem2 : (bg, Ch.row 99 0 0 (gcells c r hs)) ∈ Mx ++ (Mn ++ ((n5, .defd false) :: (defds D ++ M))) := by simp [hm]
      refine WR.op (by first | exact gN | exact gS rfl) rfl (loadG rfl hH8 (by first | assumption | exact .head _ | exact .tail _ (.head _) | exact .tail _ (.tail _ (.head _)) | exact .tail _ (.tail _ (.tail _ (.head _))) | exact .tail _ (.tail _ (.tail _ (.tail _ (.head _)))) | exact .tail _ (.tail _ (.tail _ (.tail _ (.tail _ (.head _))))) | exact .tail _ (.tail _ (.tail _ (.tail _ (.tail _ (.tail _ (.head _)))))) | (repeat' (first | assumption | apply List.mem_cons_of_mem))) (by rw [hh.len]; omega)) ?_
      repeat' (first | refine zA ?_ | (refine zM ?_; intro _ _) | (apply Ws <;> intro hg))
      · have hle : hs.getD y 0 ≤ h := hg
        refine WR.op (by first | exact gN | exact gS rfl) rfl (OpV.loadI rfl hH8 (by first | assumption | exact .head _ | exact .tail _ (.head _) | exact .tail _ (.tail _ (.head _)) | exact .tail _ (.tail _ (.tail _ (.head _))) | exact .tail _ (.tail _ (.tail _ (.tail _ (.head _)))) | exact .tail _ (.tail _ (.tail _ (.tail _ (.tail _ (.head _))))) | exact .tail _ (.tail _ (.tail _ (.tail _ (.tail _ (.tail _ (.head _)))))) | (repeat' (first | assumption | apply List.mem_cons_of_mem))) (by omega)) ?_
        repeat' (first | refine zA ?_ | (refine zM ?_; intro _ _) | (apply Ws <;> intro hg))
        refine WC.condP rfl (fun h37 => ?_) (fun h37 => ?_)
        · obtain ⟨p1, p2, p3⟩ := hR2.push h36 hx hxt hyn hyr hle h37
          have hxr := hR2.rng x (by omega)
          have hx0 : 0 ≤ b2.getD x 0 := by rcases hxr with h1 | ⟨k, h1, _⟩ <;> omega
          have hsl : (nodes (x :: w)).length + 1 ≤ 100000 := by
            simp only [measI, List.length_cons] at hms2
            simp only [List.length_map, List.length_cons]
            omega
          repeat' (first | refine zA ?_ | (refine zM ?_; intro _ _) | (apply Ws <;> intro hg))
          refine WR.op (by first | exact gN | exact gS rfl) rfl (OpV.loadI rfl hH8 (by first | assumption | exact .head _ | exact .tail _ (.head _) | exact .tail _ (.tail _ (.head _)) | exact .tail _ (.tail _ (.tail _ (.head _))) | exact .tail _ (.tail _ (.tail _ (.tail _ (.head _)))) | exact .tail _ (.tail _ (.tail _ (.tail _ (.tail _ (.head _))))) | exact .tail _ (.tail _ (.tail _ (.tail _ (.tail _ (.tail _ (.head _)))))) | (repeat' (first | assumption | apply List.mem_cons_of_mem))) (by omega)) ?_
          repeat' (first | refine zA ?_ | (refine zM ?_; intro _ _) | (apply Ws <;> intro hg))
          refine WR.storeI (by first | exact gN | exact gS rfl) hH8 rfl rfl (by first | exact .here | exact .there .here | exact .there (.there .here) | exact .there (.there (.there .here)) | exact .there (.there (.there (.there .here))) | exact .there (.there (.there (.there (.there .here))))) (by omega) fun H9 hH9 => ?_
          repeat' (first | refine zA ?_ | (refine zM ?_; intro _ _) | (apply Ws <;> intro hg))
          refine WR.append1F [_, _, _, _, _, _, _] Mx _ rfl rfl rfl rfl hO hH9 (new := [.int .i64 (y : Int)]) (by rfl) rfl rfl (Nat.le_refl _) (by omega) hsl fun v2 Mx2 n9 H10 hO2 hH10 hn10 => ?_
          simp only [List.cons_append, List.nil_append] at hH10
          have hv2 := (hO2.sl M).one_
          repeat' (first | refine zA ?_ | (refine zM ?_; intro _ _) | (apply Ws <;> intro hg))
          rename_i hq
          refine Ends.rd rfl rfl rfl hq .here fun H' h' => .inl ⟨rfl, _, w ++ [y], v2, Mx2, n9, zr, h', by simpa using hO2, p2, ?_, rfl, ?_, by omega, fun z hz => hzn z (by simp [hz])⟩
          · rw [getD_set (by omega)]; split <;> omega
          · simp only [measI, List.length_cons, List.length_append, List.length_nil] at hms2 p3 ⊢; omega
        · repeat' (first | refine zA ?_ | (refine zM ?_; intro _ _) | (apply Ws <;> intro hg))
          exact Ends.rd rfl rfl rfl hH8 .here fun H' h' => .inl ⟨rfl, b2, w, v, Mx, nn', zr, h', hO, hR2.skip hyr (fun _ => h37), hxt, rfl, hms2, hnn, fun z hz => hzn z (by simp [hz])⟩
      · have hle : ¬ hs.getD y 0 ≤ h := hg
        repeat' (first | refine zA ?_ | (refine zM ?_; intro _ _) | (apply Ws <;> intro hg))
        exact Ends.rd rfl rfl rfl hH8 .here fun H' h' => .inl ⟨rfl, b2, w, v, Mx, nn', zr, h', hO, hR2.skip hyr (fun h2 => absurd h2 hle), hxt, rfl, hms2, hnn, fun z hz => hzn z (by simp [hz])⟩
  · have hw : w = [] := by
      cases w with
      | nil => rfl
      | cons x w0 => exact absurd (by simp : (0 : Int) < ((nodes (x :: w0)).length : Int)) hlt
    subst hw
    have hbl : b.length = 37 := hR0.len
    repeat' (first | refine zA ?_ | (refine zM ?_; intro _ _) | (apply Ws <;> intro hg))
    refine WR.op (by first | exact gN | exact gS rfl) rfl (OpV.loadAll rfl hH4 (by first | assumption | exact .head _ | exact .tail _ (.head _) | exact .tail _ (.tail _ (.head _)) | exact .tail _ (.tail _ (.tail _ (.head _))) | exact .tail _ (.tail _ (.tail _ (.tail _ (.head _)))) | exact .tail _ (.tail _ (.tail _ (.tail _ (.tail _ (.head _))))) | exact .tail _ (.tail _ (.tail _ (.tail _ (.tail _ (.tail _ (.head _)))))) | (repeat' (first | assumption | apply List.mem_cons_of_mem))) (.row _ _ _ _) (by simpa using hbl)) ?_
    refine WR.storeAll (by first | exact gN | exact gS rfl) hH4 rfl rfl (ls := ints b) (by simp [Value.cells]) (by simpa using hbl) (by first | exact .here | exact .there .here | exact .there (.there .here) | exact .there (.there (.there .here)) | exact .there (.there (.there (.there .here))) | exact .there (.there (.there (.there (.there .here))))) (ints_one _) (by simpa using hbl) fun H5 hH5 => ?_
    repeat' (first | refine zA ?_ | (refine zM ?_; intro _ _) | (apply Ws <;> intro hg))
    refine Ends.retCND (M0 := (n + 1 + 1, .row 86 0 0 (ints b)) :: (bw, .row 22 0 0 [v]) :: (n + 1 + 1 + 1, .row 86 0 0 (ints b)) :: (n + 1, .row 3 0 0 [.int .i64 h]) :: (n, .row 82 0 0 [.pointer (some ⟨bg, 0, some 0⟩)]) :: (Mx ++ M)) rfl hH5 (.refl _) (by classical exact List.perm_iff_count.2 (fun a => by simp only [defds, List.map_cons, List.map_nil, List.count_append, List.count_cons, List.count_nil, List.cons_append, List.nil_append, List.append_nil]; omega)) fun H6 hH6 => ⟨ints b, ?_, b, nn, rfl, hn, ?_, hR0.done⟩
    · have := hH6.readN (b := n + 1 + 1) (u := 0) (lo := 0) (o := 0) (k := 37) (.head _) (.row _ _ _ _) (Nat.le_refl _) (by simp; omega)
      rw [this, Nat.sub_self, List.drop_zero, List.take_of_length_le (by simp; omega)]
    · exact hH6.sub (.cons _ (.cons _ (.cons _ (.cons _ (.cons _ (List.sublist_append_right _ _))))))
end Go.Proofs.Ytmogipomnjihcaa.Eb

namespace Go.Proofs.Ytmogipomnjihcaa.Eb
open Go Go.Abs Go.Low
set_option linter.unusedVariables false
set_option linter.unusedSimpArgs false
attribute [local irreducible] gOK WS WC WR WD Ends FS YS OpV seqK blockK loopK midK retK rdK asgK rangeEnd sat Cell

/-- The first neighbour that is nearer. -/
def nextN (c r : Nat) (b : List Int) (p : Nat) : Nat := ((nbrs c r p).find? (fun y => decide (b.getD y 0 < b.getD p 0))).getD r

theorem find_split {P : Nat → Bool} {y : Nat} {zr : List Nat} : ∀ {dn : List Nat}, (∀ x ∈ dn, P x = false) → P y = true → (dn ++ y :: zr).find? P = some y
  | [], _, h => by simp [h]
  | a :: l, h1, h2 => by
    rw [List.cons_append, List.find?_cons, h1 a (by simp)]
    exact find_split (fun x hx => h1 x (by simp [hx])) h2
theorem find_none {P : Nat → Bool} {l : List Nat} (h : ∀ x ∈ l, P x = false) : l.find? P = none := by
  rw [List.find?_eq_none]; intro x hx; rw [h x hx]; simp

theorem nearer_fs {M : HL} {n : Nat} {H : Heap} (hH : hasH M n H) {bg bs c r p : Nat} {hs b : List Int} (hm : (bg, .row 99 0 0 (gcells c r hs)) ∈ M) (hbm : (bs, .row 86 0 0 (ints b)) ∈ M) (hbl : b.length = 37) (hh : HS c r hs) (hc6 : c ≤ 6) (hp : p ≤ r) :
    FS C 74 [.pointer (some ⟨bg, 0, some 0⟩), .int .i64 (p : Int), .pointer (some ⟨bs, 0, some 0⟩)] H (fun v H' => v = .int .i64 (nextN c r b p : Int) ∧ ∃ n', n ≤ n' ∧ hasH M n' H') := by
  have h36 := hh.r36
  refine FS.intro (pf := pf74) rfl rfl rfl ?_
  repeat' (first | refine zA ?_ | (refine zM ?_; intro _ _) | (apply Ws <;> intro hg))
  rename_i H1 hH1
  refine WR.call (by first | exact gN | exact gS rfl) rfl rfl (neighbours_fs hH1 (hs := hs) (r := r) (c := c) (by simp [hm]) ⟨hh.c1, hc6⟩ hh.cr hp h36) ?_
  rintro _ H5 ⟨g, va, vb, Mn, n5, rfl, hn5, hH5, hit⟩
  repeat' (first | refine zA ?_ | (refine zM ?_; intro _ _) | (apply Ws <;> intro hg))
  refine WC.range0 rfl hH5 fun t ht H6 hH6 => ?_
  generalize hR : ({ state := .ready, pending := none, fn := 74, tmps := t, params := [11], assign := _, body := _, nt := _ } : LoopE) = R at hH6
  have h0 := hit (n5 + 1) (fun zs H => ∃ dn zr, nbrs c r p = dn ++ zr ∧ zs = nodes zr ∧ (∀ y ∈ dn, decide (b.getD y 0 < b.getD p 0) = false) ∧
      hasH ((n5 + 1, .loop R) :: (n + 1 + 1, .row 3 0 0 [.int .i64 0]) :: (n + 1, .row 89 0 0 [.pointer (some ⟨bs, 0, some 0⟩)]) :: (n, .row 3 0 0 [.int .i64 (p : Int)]) :: (Mn ++ ((n5, .defd false) :: M))) (n5 + 2) H)
    (fun H => ∃ dn y zr, nbrs c r p = dn ++ y :: zr ∧ (∀ y ∈ dn, decide (b.getD y 0 < b.getD p 0) = false) ∧ b.getD y 0 < b.getD p 0 ∧
      hasH ((n5 + 1, .loop { R with state := .done, pending := some .ret }) :: (n + 1 + 1, .row 3 0 0 [.int .i64 (y : Int)]) :: (n + 1, .row 89 0 0 [.pointer (some ⟨bs, 0, some 0⟩)]) :: (n, .row 3 0 0 [.int .i64 (p : Int)]) :: (Mn ++ ((n5, .defd false) :: M))) (n5 + 2) H) ?_ ?_ H6
    ⟨[], nbrs c r p, rfl, rfl, List.forall_mem_nil _, hH6.perm (by classical exact List.perm_iff_count.2 (fun a => by simp only [defds, List.map_cons, List.map_nil, List.count_append, List.count_cons, List.count_nil, List.cons_append, List.nil_append, List.append_nil]; omega))⟩
  · refine FS.mono h0 ?_
    rintro _ H7 (⟨dn, zr, hdz, hzs, hdn, hH7⟩ | ⟨dn, y, zr, hdz, hdn, hlt, hH7⟩)
    · have hzn : zr = [] := by
        cases zr with
        | nil => rfl
        | cons => cases hzs
      subst hzn
      have hnx : nextN c r b p = r := by rw [nextN, hdz, List.append_nil, find_none hdn]; rfl
      refine rangeEnd_of hH7 .here (by rw [← hR]; simp) (by rw [← hR]; rfl) fun H8 hH8 => ?_
      have hmem : (bg, Ch.row 99 0 0 (gcells c r hs)) ∈ Mn ++ ((n5, .defd false) :: M) := by simp [hm]
      repeat' (first | refine zA ?_ | (refine zM ?_; intro _ _) | (apply Ws <;> intro hg))
      rename_i hq
      refine Ends.retC1D (M0 := (n + 1 + 1, .row 3 0 0 [.int .i64 (r : Int)]) :: M) (v := .int .i64 (r : Int)) rfl (hq.tail.perm (M' := ((n + 1, .row 89 0 0 [.pointer (some ⟨bs, 0, some 0⟩)]) :: (n, .row 3 0 0 [.int .i64 (p : Int)]) :: Mn) ++ (defds [n5] ++ (n + 1 + 1, .row 3 0 0 [.int .i64 (r : Int)]) :: M)) (by classical exact List.perm_iff_count.2 (fun a => by simp only [defds, List.map_cons, List.map_nil, List.count_append, List.count_cons, List.count_nil, List.cons_append, List.nil_append, List.append_nil]; omega))) (List.sublist_append_right _ _) (List.Perm.refl _) fun H9 hH9 => ⟨hH9.read (.head _) (.row _ _ _ _) (Nat.zero_le _) rfl, by rw [hnx], _, ?_, hH9.tail⟩
      omega
    · have hnx : nextN c r b p = y := by rw [nextN, hdz, find_split hdn (decide_eq_true hlt)]; rfl
      refine rangeEnd_of hH7 .here (by simp) rfl fun H8 hH8 => ?_
      repeat' (first | refine zA ?_ | (refine zM ?_; intro _ _) | (apply Ws <;> intro hg))
      refine Ends.retC1D (M0 := (n + 1 + 1, .row 3 0 0 [.int .i64 (y : Int)]) :: M) (v := .int .i64 (y : Int)) rfl (hH8.tail.perm (M' := ((n + 1, .row 89 0 0 [.pointer (some ⟨bs, 0, some 0⟩)]) :: (n, .row 3 0 0 [.int .i64 (p : Int)]) :: Mn) ++ (defds [n5] ++ (n + 1 + 1, .row 3 0 0 [.int .i64 (y : Int)]) :: M)) (by classical exact List.perm_iff_count.2 (fun a => by simp only [defds, List.map_cons, List.map_nil, List.count_append, List.count_cons, List.count_nil, List.cons_append, List.nil_append, List.append_nil]; omega))) (List.sublist_append_right _ _) (List.Perm.refl _) fun H9 hH9 => ⟨hH9.read (.head _) (.row _ _ _ _) (Nat.zero_le _) rfl, by rw [hnx], _, ?_, hH9.tail⟩
      omega
  · rintro zs H ⟨dn, zr, hdz, hzs, hdn, hH7⟩
    exact ⟨_, _, hH7, fun q hq => by simp [hq], by simp [hm]⟩
  · rintro z zs H ⟨dn, zr, hdz, hzs, hdn, hH7⟩
    cases zr with
    | nil => cases hzs
    | cons y zr =>
    obtain ⟨rfl, rfl⟩ : z = .int .i64 (y : Int) ∧ zs = nodes zr := by simpa using hzs
    have hyn : y ∈ nbrs c r p := by rw [hdz]; simp
    have hyr := nbrs_le hh.c1 hh.cr hp hyn
    refine YS.intro hH7 (.head _) (by rw [← hR]) (by rw [← hR]) (by rw [← hR]; rfl) (by rw [← hR]; exact ht) ?_
    subst hR
    dsimp only
    repeat' (first | refine zA ?_ | (refine zM ?_; intro _ _) | (apply Ws <;> intro hg))
    refine Ends.asg hH7 .here fun H8 hH8 => ?_
    dsimp only
    repeat' (first | refine zA ?_ | (refine zM ?_; intro _ _) | (apply Ws <;> intro hg))
    refine WR.op (by first | exact gN | exact gS rfl) rfl (OpV.loadI (b := bs) (e := 86) (xs := b) rfl hH8 (by simp [hbm]) (by omega)) ?_
    repeat' (first | refine zA ?_ | (refine zM ?_; intro _ _) | (apply Ws <;> intro hg))
    refine WR.op (by first | exact gN | exact gS rfl) rfl (OpV.loadI (b := bs) (e := 86) (xs := b) rfl hH8 (by simp [hbm]) (by omega)) ?_
    repeat' (first | refine zA ?_ | (refine zM ?_; intro _ _) | (apply Ws <;> intro hg))
    refine WC.condP rfl (fun hlt => ?_) (fun hlt => ?_)
    · repeat' (first | refine zA ?_ | (refine zM ?_; intro _ _) | (apply Ws <;> intro hg))
      rename_i hq
      exact Ends.rd rfl rfl rfl hq .here fun H' h' => .inr ⟨rfl, dn, y, zr, hdz, hdn, hlt, h'⟩
    · repeat' (first | refine zA ?_ | (refine zM ?_; intro _ _) | (apply Ws <;> intro hg))
      exact Ends.rd rfl rfl rfl hH8 .here fun H' h' => .inl ⟨rfl, dn ++ [y], zr, by simp [hdz], rfl, fun y' hy' => by
        rcases List.mem_append.1 hy' with h1 | h1
        · exact hdn y' h1
        · rw [List.mem_singleton.1 h1, decide_eq_false_iff_not]; exact hlt, h'⟩
end Go.Proofs.Ytmogipomnjihcaa.Eb

namespace Go.Proofs.Ytmogipomnjihcaa.Eb
open Go Go.Abs Go.Low
set_option linter.unusedVariables false
set_option linter.unusedSimpArgs false
attribute [local irreducible] gOK WS WC WR WD Ends FS YS OpV seqK blockK loopK midK retK rdK asgK rangeEnd sat Cell

open Classical in
/-- All that can be reached from a place. -/
noncomputable def comp (c r : Nat) (ms : List Bool) (x : Nat) : List Nat := (List.range r).filter fun y => decide (RM c r ms x y)

def First (c r : Nat) (ms : List Bool) (x : Nat) : Prop := ms.getD x false = true ∧ ∀ y, RM c r ms x y → x ≤ y

open Classical in
noncomputable def firsts (c r : Nat) (ms : List Bool) (k : Nat) : List Nat := (List.range k).filter fun x => decide (First c r ms x)

/-- The pools: of each the first place, and what can be reached from it. -/
noncomputable def poolsM (c r : Nat) (ms : List Bool) (k : Nat) : List (List Nat) := (firsts c r ms k).map (comp c r ms)
theorem RM.bot {c r : Nat} {ms : List Bool} {p y : Nat} (h : RM c r ms p y) : ms.getD p false = true := by
  induction h with
  | start h => exact h
  | step _ _ _ ih => exact ih
theorem RM.trans {c r : Nat} {ms : List Bool} {p q y : Nat} (h : RM c r ms p q) (k : RM c r ms q y) : RM c r ms p y := by
  induction k with
  | start _ => exact h
  | step _ hy ht ih => exact .step ih hy ht

open Classical in
theorem mem_comp {c r : Nat} {ms : List Bool} (hK : ∀ y, ms.getD y false = true → y < r) {x y : Nat} : y ∈ comp c r ms x ↔ RM c r ms x y := by
  rw [comp, List.mem_filter, List.mem_range, decide_eq_true_iff]
  exact ⟨fun h => h.2, fun h => ⟨hK _ h.on, h⟩⟩

/-- What is left when the first places have been looked at. -/
def Cur (c r : Nat) (ms : List Bool) (k : Nat) (cur : List Bool) : Prop := ∀ y, cur.getD y false = true ↔ ms.getD y false = true ∧ ∀ x, x < k → ¬ RM c r ms x y

section
variable {c r : Nat} {ms : List Bool} (hc : 1 ≤ c ∧ c ≤ 6) (hcr : c ≤ r) (hK : ∀ y, ms.getD y false = true → y < r)
include hc hcr hK

theorem RM.symm {p y : Nat} (h : RM c r ms p y) : RM c r ms y p := by
  induction h with
  | start h => exact .start h
  | step h hy ht ih => exact RM.trans (.step (.start ht) (nbrs_symm hc hcr (Nat.le_of_lt (hK _ h.on)) hy) h.on) ih

theorem Cur.first {k : Nat} {cur : List Bool} (h : Cur c r ms k cur) : cur.getD k false = true ↔ First c r ms k := by
  rw [h k]
  constructor
  · rintro ⟨h1, h2⟩
    refine ⟨h1, fun y hy => ?_⟩
    rcases Nat.lt_or_ge y k with h3 | h3
    · exact absurd (RM.symm hc hcr hK hy) (h2 y h3)
    · exact h3
  · rintro ⟨h1, h2⟩
    refine ⟨h1, fun x hx hr => ?_⟩
    have := h2 x (RM.symm hc hcr hK hr)
    omega

theorem Cur.reach {k : Nat} {cur : List Bool} (h : Cur c r ms k cur) (hk : cur.getD k false = true) {y : Nat} : RM c r cur k y ↔ RM c r ms k y := by
  constructor
  · intro k
    induction k with
    | start h1 => exact .start ((h _).1 h1).1
    | step _ hy ht ih => exact .step ih hy ((h _).1 ht).1
  · intro j
    induction j with
    | start h1 => exact .start hk
    | step j hy ht ih =>
      refine .step ih hy ((h _).2 ⟨ht, fun x hx hr => ?_⟩)
      exact ((h k).1 hk).2 x hx (hr.trans (RM.symm hc hcr hK (.step j hy ht)))

end

theorem Cur.skip {c r : Nat} {ms : List Bool} {k : Nat} {cur : List Bool} (h : Cur c r ms k cur) (hk : ¬ cur.getD k false = true) : Cur c r ms (k + 1) cur := by
  intro y
  rw [h y]
  refine ⟨fun ⟨h1, h2⟩ => ⟨h1, fun x hx hr => ?_⟩, fun ⟨h1, h2⟩ => ⟨h1, fun x hx => h2 x (by omega)⟩⟩
  rcases Nat.lt_or_ge x k with h3 | h3
  · exact h2 x h3 hr
  · have : x = k := by omega
    subst this
    exact hk ((h x).2 ⟨hr.bot, fun z hz hzr => h2 z hz (hzr.trans hr)⟩)

theorem Cur.take {c r : Nat} {ms : List Bool} (hK : ∀ y, ms.getD y false = true → y < r) {k : Nat} {cur cur' : List Bool} (h : Cur c r ms k cur) (h' : ∀ y, cur'.getD y false = true ↔ cur.getD y false = true ∧ y ∉ comp c r ms k) : Cur c r ms (k + 1) cur' := by
  intro y
  rw [h' y, h y, mem_comp hK]
  refine ⟨fun ⟨⟨h1, h2⟩, h3⟩ => ⟨h1, fun x hx hr => ?_⟩, fun ⟨h1, h2⟩ => ⟨⟨h1, fun x hx => h2 x (by omega)⟩, h2 k (by omega)⟩⟩
  rcases Nat.lt_or_ge x k with h4 | h4
  · exact h2 x h4 hr
  · have : x = k := by omega
    subst this
    exact h3 hr

theorem Cur.init (c r : Nat) (ms : List Bool) : Cur c r ms 0 ms := fun y => ⟨fun h => ⟨h, fun x hx => absurd hx (Nat.not_lt_zero _)⟩, fun h => h.1⟩
/-- Slices of lists. -/
def Rows2 (M : HL) (vs : List Value) (ls : List (List Nat)) : Prop := vs.length = ls.length ∧ ∀ (i : Nat) (u : Value) (l : List Nat), vs[i]? = some u → ls[i]? = some l → Sl M 1 u (nodes l)

theorem Rows2.mono {M M' : HL} {vs : List Value} {ls : List (List Nat)} (h : Rows2 M vs ls) (k : ∀ p ∈ M, p ∈ M') : Rows2 M' vs ls := ⟨h.1, fun i u l hu hl => (h.2 i u l hu hl).mono k⟩

theorem Rows2.push {M : HL} {vs : List Value} {ls : List (List Nat)} (h : Rows2 M vs ls) {u : Value} {l : List Nat} (k : Sl M 1 u (nodes l)) : Rows2 M (vs ++ [u]) (ls ++ [l]) := by
  refine ⟨by simp [h.1], fun i u' l' hu hl => ?_⟩
  rcases Nat.lt_or_ge i vs.length with h1 | h1
  · rw [List.getElem?_append_left h1] at hu
    rw [List.getElem?_append_left (by rw [← h.1]; exact h1)] at hl
    exact h.2 i u' l' hu hl
  · rw [List.getElem?_append_right h1] at hu
    rw [List.getElem?_append_right (by rw [← h.1]; exact h1), ← h.1] at hl
    have : i - vs.length = 0 := by
      rcases Nat.eq_zero_or_pos (i - vs.length) with h2 | h2
      · exact h2
      · rw [List.getElem?_eq_none (by simp; omega)] at hu; cases hu
    rw [this] at hu hl
    cases hu; cases hl
    exact k
end Go.Proofs.Ytmogipomnjihcaa.Eb

namespace Go.Proofs.Ytmogipomnjihcaa.Eb
open Go Go.Abs Go.Low
set_option linter.unusedVariables false
set_option linter.unusedSimpArgs false
attribute [local irreducible] gOK WS WC WR WD Ends FS YS OpV seqK blockK loopK midK retK rdK asgK rangeEnd sat Cell

/-- The places that may be in pools. -/
def KeptR (r : Nat) (b ds : List Int) (w : Int) (K : List Bool) : Prop := K.length = 37 ∧ ∀ y, K.getD y false = true ↔ y < r ∧ w < b.getD y 0 ∧ 0 < ds.getD y 0

structure PV where
  k : Nat
  v : Value
  ws : List Value
  Mo : HL
  Mp : HL
  cur : List Bool
  n : Nat
end Go.Proofs.Ytmogipomnjihcaa.Eb

namespace Go.Proofs.Ytmogipomnjihcaa.Eb
open Go Go.Abs Go.Low
set_option linter.unusedVariables false
set_option linter.unusedSimpArgs false
attribute [local irreducible] gOK WS WC WR WD Ends FS YS OpV seqK blockK loopK midK retK rdK asgK rangeEnd sat Cell

def goodN (r : Nat) (hs : List Int) (ms : List Bool) (h : Int) (y : Nat) : Prop := y ≠ r ∧ (hs.getD y 0 < h → ms.getD y false = true)

def BarsM (c r : Nat) (hs : List Int) (ms : List Bool) (h : Int) : Prop := ∀ p ∈ marked ms 37, ∀ y ∈ nbrs c r p, goodN r hs ms h y

theorem Upd.app {A M M' : HL} {b : Nat} {ch ch' : Ch} (h : Upd M b ch ch' M') : Upd (A ++ M) b ch ch' (A ++ M') := by
  induction A with
  | nil => exact h
  | cons p A ih => exact .there ih

open Classical in
theorem isBarrier_fs {M : HL} {n : Nat} {H : Heap} (hH : hasH M n H) {bg bm e c r : Nat} {hs : List Int} {ms : List Bool} {h : Int} (hm : (bg, .row 99 0 0 (gcells c r hs)) ∈ M) (hmm : (bm, .row e 0 0 (bools ms)) ∈ M) (hl : ms.length = 37) (hh : HS c r hs) (hc6 : c ≤ 6)
    (hin : ∀ p ∈ marked ms 37, p < r) :
    FS C 78 [.pointer (some ⟨bg, 0, some 0⟩), .pointer (some ⟨bm, 0, some 0⟩), .int .i64 h] H (fun v H' => v = .bool (decide (BarsM c r hs ms h)) ∧ ∃ n', n ≤ n' ∧ hasH M n' H') := by
  have h36 := hh.r36
  refine FS.intro (pf := pf78) rfl rfl rfl ?_
  repeat' (first | refine zA ?_ | (refine zM ?_; intro _ _) | (apply Ws <;> intro hg))
  rename_i H1 hH1
  refine WR.call (by first | exact gN | exact gS rfl) rfl rfl (marks_fs hH1 (List.mem_cons_of_mem _ (List.mem_cons_of_mem _ (List.mem_cons_of_mem _ (List.mem_cons_of_mem _ hmm)))) hl) ?_
  rintro v H2 ⟨Mx, n2, hn2, hO, hH2⟩
  have hSl := hO.sl ((n + 1 + 1 + 1, .row 4 0 0 [.bool false]) :: (n + 1 + 1, .row 3 0 0 [.int .i64 h]) :: (n + 1, .row 101 0 0 [.pointer (some ⟨bm, 0, some 0⟩)]) :: (n, .row 82 0 0 [.pointer (some ⟨bg, 0, some 0⟩)]) :: M)
  have hll : (nodes (marked ms 37)).length = (marked ms 37).length := by simp
  repeat' (first | refine zA ?_ | (refine zM ?_; intro _ _) | (apply Ws <;> intro hg))
  refine WR.op (by first | exact gN | exact gS rfl) rfl (OpV.lenS rfl hSl) ?_
  rw [hll]
  repeat' (first | refine zA ?_ | (refine zM ?_; intro _ _) | (apply Ws <;> intro hg))
  have hpl := marked_len ms 37
  generalize hps : marked ms 37 = ps at hSl hO hin hll hpl
  refine WC.loop (fun a : Nat × List Nat × Nat => [(3, .pointer (some ⟨n, 0, some 0⟩)), (4, .pointer (some ⟨n + 1, 0, some 0⟩)), (5, .pointer (some ⟨n + 1 + 1, 0, some 0⟩)), (6, .pointer (some ⟨n + 1 + 1 + 1, 0, some 0⟩)), (11, v), (12, .int .i64 (ps.length : Int)), (13, .int .i64 (a.1 : Int))]) (fun a => a.2.1)
    (fun a H => a.1 ≤ ps.length ∧ n2 ≤ a.2.2 ∧ (∀ j, j < a.1 → ∀ p, ps[j]? = some p → ∀ y ∈ nbrs c r p, goodN r hs ms h y) ∧
      hasH (Mx ++ (defds a.2.1 ++ ((n + 1 + 1 + 1, .row 4 0 0 [.bool false]) :: (n + 1 + 1, .row 3 0 0 [.int .i64 h]) :: (n + 1, .row 101 0 0 [.pointer (some ⟨bm, 0, some 0⟩)]) :: (n, .row 82 0 0 [.pointer (some ⟨bg, 0, some 0⟩)]) :: M))) a.2.2 H)
    (fun a => ps.length - a.1) (0, [], n2) (by repeat' (first | exact .nil | refine .cons rfl ?_)) rfl ⟨Nat.zero_le _, Nat.le_refl _, fun j hj => absurd hj (Nat.not_lt_zero _), hH2⟩ ?_
  clear hH2 hH1
  rintro ⟨k, D, n4⟩ H4 ⟨hk, hn4, hgd, hH4⟩
  simp only at hk hn4 hgd hH4
  dsimp only
  repeat' (first | refine zA ?_ | (refine zM ?_; intro _ _) | (apply Ws <;> intro hg))
  refine WC.condP rfl (fun hlt => ?_) (fun hlt => ?_)
  · have hk' : k < ps.length := by omega
    obtain ⟨p, hp⟩ : ∃ p, ps[k]? = some p := ⟨ps[k], List.getElem?_eq_getElem hk'⟩
    have hpr := hin p (List.mem_of_getElem? hp)
    have hSl4 : Sl (Mx ++ (defds D ++ ((n + 1 + 1 + 1, .row 4 0 0 [.bool false]) :: (n + 1 + 1, .row 3 0 0 [.int .i64 h]) :: (n + 1, .row 101 0 0 [.pointer (some ⟨bm, 0, some 0⟩)]) :: (n, .row 82 0 0 [.pointer (some ⟨bg, 0, some 0⟩)]) :: M))) 1 v (nodes ps) :=
      hSl.mono (fun q hq => by simp only [List.mem_append, List.mem_cons] at hq ⊢; rcases hq with h | h; exact .inl h; exact .inr (.inr h))
    have m3 : (n, Ch.row 82 0 0 [.pointer (some ⟨bg, 0, some 0⟩)]) ∈ Mx ++ (defds D ++ ((n + 1 + 1 + 1, .row 4 0 0 [.bool false]) :: (n + 1 + 1, .row 3 0 0 [.int .i64 h]) :: (n + 1, .row 101 0 0 [.pointer (some ⟨bm, 0, some 0⟩)]) :: (n, .row 82 0 0 [.pointer (some ⟨bg, 0, some 0⟩)]) :: M)) := by simp
    have mg : (bg, Ch.row 99 0 0 (gcells c r hs)) ∈ Mx ++ (defds D ++ ((n + 1 + 1 + 1, .row 4 0 0 [.bool false]) :: (n + 1 + 1, .row 3 0 0 [.int .i64 h]) :: (n + 1, .row 101 0 0 [.pointer (some ⟨bm, 0, some 0⟩)]) :: (n, .row 82 0 0 [.pointer (some ⟨bg, 0, some 0⟩)]) :: M)) := by simp [hm]
    repeat' (first | refine zA ?_ | (refine zM ?_; intro _ _) | (apply Ws <;> intro hg))
    refine WR.idxSl (by first | exact gN | exact gS rfl) rfl rfl hSl4 rfl rfl (c := .int .i64 (p : Int)) (by simp [hp]) fun b' o' u' hc => ?_
    repeat' (first | refine zA ?_ | (refine zM ?_; intro _ _) | (apply Ws <;> intro hg))
    refine WR.call (by first | exact gN | exact gS rfl) rfl rfl (neighbours_fs hH4 (hs := hs) (r := r) (c := c) mg ⟨hh.c1, hc6⟩ hh.cr (Nat.le_of_lt hpr) h36) ?_
    rintro _ H5 ⟨g, va, vb, Mn, n5, rfl, hn5, hH5, hit⟩
    repeat' (first | refine zA ?_ | (refine zM ?_; intro _ _) | (apply Ws <;> intro hg))
    refine WC.range0 rfl hH5 fun t ht H6 hH6 => ?_
    generalize hR : ({ state := .ready, pending := none, fn := 78, tmps := t, params := [20], assign := _, body := _, nt := _ } : LoopE) = R at hH6
    have h0 := hit (n5 + 1) (fun zs H => ∃ dn zr, nbrs c r p = dn ++ zr ∧ zs = nodes zr ∧ (∀ y ∈ dn, goodN r hs ms h y) ∧
        hasH ((n5 + 1, .loop R) :: (n + 1 + 1 + 1, .row 4 0 0 [.bool false]) :: (n + 1 + 1, .row 3 0 0 [.int .i64 h]) :: (n + 1, .row 101 0 0 [.pointer (some ⟨bm, 0, some 0⟩)]) :: (n, .row 82 0 0 [.pointer (some ⟨bg, 0, some 0⟩)]) :: (Mx ++ (Mn ++ ((n5, .defd false) :: (defds D ++ M))))) (n5 + 2) H)
      (fun H => (∃ y ∈ nbrs c r p, ¬ goodN r hs ms h y) ∧
        hasH ((n5 + 1, .loop { R with state := .done, pending := some .ret }) :: (n + 1 + 1 + 1, .row 4 0 0 [.bool false]) :: (n + 1 + 1, .row 3 0 0 [.int .i64 h]) :: (n + 1, .row 101 0 0 [.pointer (some ⟨bm, 0, some 0⟩)]) :: (n, .row 82 0 0 [.pointer (some ⟨bg, 0, some 0⟩)]) :: (Mx ++ (Mn ++ ((n5, .defd false) :: (defds D ++ M))))) (n5 + 2) H) ?_ ?_ H6
      ⟨[], nbrs c r p, rfl, rfl, List.forall_mem_nil _, hH6.perm (by classical exact List.perm_iff_count.2 (fun a => by simp only [defds, List.map_cons, List.map_nil, List.count_append, List.count_cons, List.count_nil, List.cons_append, List.nil_append, List.append_nil]; omega))⟩
    · refine FS.mono h0 ?_
      rintro _ H7 (⟨dn, zr, hdz, hzs, hdn, hH7⟩ | ⟨⟨y, hy, hbad⟩, hH7⟩)
      · have hzn : zr = [] := by
          cases zr with
          | nil => rfl
          | cons => cases hzs
        subst hzn
        refine rangeEnd_of hH7 .here (by rw [← hR]; simp) (by rw [← hR]; rfl) fun H8 hH8 => ?_
        repeat' (first | refine zA ?_ | (refine zM ?_; intro _ _) | (apply Ws <;> intro hg))
        refine Ends.loop (k + 1, n5 :: D, n5 + 2) (by simp only; omega) (by repeat' (first | exact .nil | refine .cons rfl ?_)) rfl ⟨hk', by simp only; omega, fun j hj q hq y hy => ?_, ?_⟩
        · rcases Nat.lt_or_ge j k with h2 | h2
          · exact hgd j h2 q hq y hy
          · have : j = k := by simp only at hj; omega
            subst this
            rw [hp] at hq; cases hq
            rw [hdz, List.append_nil] at hy
            exact hdn y hy
        · have hH9 := hH8.tail
          refine (hH9.perm (M' := Mn ++ (Mx ++ (defds (n5 :: D) ++ ((n + 1 + 1 + 1, .row 4 0 0 [.bool false]) :: (n + 1 + 1, .row 3 0 0 [.int .i64 h]) :: (n + 1, .row 101 0 0 [.pointer (some ⟨bm, 0, some 0⟩)]) :: (n, .row 82 0 0 [.pointer (some ⟨bg, 0, some 0⟩)]) :: M)))) (by classical exact List.perm_iff_count.2 (fun a => by simp only [defds, List.map_cons, List.map_nil, List.count_append, List.count_cons, List.count_nil, List.cons_append, List.nil_append, List.append_nil]; omega))).sub (List.sublist_append_right _ _)
      · refine rangeEnd_of hH7 .here (by simp) rfl fun H8 hH8 => ?_
        repeat' (first | refine zA ?_ | (refine zM ?_; intro _ _) | (apply Ws <;> intro hg))
        refine Ends.retC1D (M0 := (n + 1 + 1 + 1, .row 4 0 0 [.bool false]) :: M) (v := .bool false) rfl (hH8.tail.perm (M' := ((n + 1 + 1, .row 3 0 0 [.int .i64 h]) :: (n + 1, .row 101 0 0 [.pointer (some ⟨bm, 0, some 0⟩)]) :: (n, .row 82 0 0 [.pointer (some ⟨bg, 0, some 0⟩)]) :: (Mx ++ Mn)) ++ (defds (n5 :: D) ++ (n + 1 + 1 + 1, .row 4 0 0 [.bool false]) :: M)) (by classical exact List.perm_iff_count.2 (fun a => by simp only [defds, List.map_cons, List.map_nil, List.count_append, List.count_cons, List.count_nil, List.cons_append, List.nil_append, List.append_nil]; omega))) (List.sublist_append_right _ _) (List.Perm.refl _) fun H9 hH9 => ⟨hH9.read (.head _) (.row _ _ _ _) (Nat.zero_le _) rfl, ?_, n5 + 2, by omega, hH9.tail⟩
        congr 1
        rw [eq_comm, decide_eq_false_iff_not]
        exact fun hall => hbad (hall p (by rw [hps]; exact List.mem_of_getElem? hp) y hy)
    · rintro zs H ⟨dn, zr, hdz, hzs, hdn, hH7⟩
      exact ⟨_, _, hH7, fun q hq => by simp [hq], by simp [hm]⟩
    · rintro z zs H ⟨dn, zr, hdz, hzs, hdn, hH7⟩
      cases zr with
      | nil => cases hzs
      | cons y zr =>
      obtain ⟨rfl, rfl⟩ : z = .int .i64 (y : Int) ∧ zs = nodes zr := by simpa using hzs
      have hyn : y ∈ nbrs c r p := by rw [hdz]; simp
      have hyr := nbrs_le hh.c1 hh.cr (Nat.le_of_lt hpr) hyn
      have hgl := hh.len
      refine YS.intro hH7 (.head _) (by rw [← hR]) (by rw [← hR]) (by rw [← hR]; rfl) (by rw [← hR]; exact ht) ?_
      subst hR
      dsimp only
      repeat' (first | refine zA ?_ | (refine zM ?_; intro _ _) | (apply Ws <;> intro hg))
      refine Ends.asg hH7 .here fun H8 hH8 => ?_
      dsimp only
      have mg2 : (bg, Ch.row 99 0 0 (gcells c r hs)) ∈ Mx ++ (Mn ++ ((n5, .defd false) :: (defds D ++ M))) := by simp [hm]
      have mm2 : (bm, Ch.row e 0 0 (bools ms)) ∈ Mx ++ (Mn ++ ((n5, .defd false) :: (defds D ++ M))) := by simp [hmm]
      repeat' (first | refine zA ?_ | (refine zM ?_; intro _ _) | (apply Ws <;> intro hg))
      · -- the river
        have hyr' : y = r := by omega
        rename_i hq
        exact Ends.rd rfl rfl rfl hq .here fun H' h' => .inr ⟨rfl, ⟨y, hyn, fun hgo => hgo.1 hyr'⟩, h'⟩
      have hyr' : y ≠ r := by omega
      refine WR.op (by first | exact gN | exact gS rfl) rfl (loadG (bg := bg) (c := c) (r := r) (hs := hs) rfl hH8 (by simp [hm]) (by omega)) ?_
      repeat' (first | refine zA ?_ | (refine zM ?_; intro _ _) | (apply Ws <;> intro hg))
      · refine WR.op (by first | exact gN | exact gS rfl) rfl (OpV.loadB (b := bm) (e := e) (xs := ms) rfl hH8 (by simp [hmm]) (by omega)) ?_
        cases hmy : ms.getD y false with
        | true =>
          repeat' (first | refine zA ?_ | (refine zM ?_; intro _ _) | (apply Ws <;> intro hg))
          exact Ends.rd rfl rfl rfl hH8 .here fun H' h' => .inl ⟨rfl, dn ++ [y], zr, by simp [hdz], rfl, fun y' hy' => by
            rcases List.mem_append.1 hy' with h1 | h1
            · exact hdn y' h1
            · rw [List.mem_singleton.1 h1]; exact ⟨hyr', fun _ => hmy⟩, h'⟩
        | false =>
          repeat' (first | refine zA ?_ | (refine zM ?_; intro _ _) | (apply Ws <;> intro hg))
          rename_i hq
          exact Ends.rd rfl rfl rfl hq .here fun H' h' => .inr ⟨rfl, ⟨y, hyn, fun hgo => by have := hgo.2 (by assumption); rw [hmy] at this; cases this⟩, h'⟩
      · repeat' (first | refine zA ?_ | (refine zM ?_; intro _ _) | (apply Ws <;> intro hg))
        exact Ends.rd rfl rfl rfl hH8 .here fun H' h' => .inl ⟨rfl, dn ++ [y], zr, by simp [hdz], rfl, fun y' hy' => by
          rcases List.mem_append.1 hy' with h1 | h1
          · exact hdn y' h1
          · rw [List.mem_singleton.1 h1]; exact ⟨hyr', fun hlt => absurd hlt (by assumption)⟩, h'⟩
  · have hkn : k = ps.length := by omega
    subst hkn
    repeat' (first | refine zA ?_ | (refine zM ?_; intro _ _) | (apply Ws <;> intro hg))
    refine WR.storeBox (by first | exact gN | exact gS rfl) hH4 rfl rfl rfl (M' := Mx ++ (defds D ++ ((n + 1 + 1 + 1, .row 4 0 0 [.bool true]) :: (n + 1 + 1, .row 3 0 0 [.int .i64 h]) :: (n + 1, .row 101 0 0 [.pointer (some ⟨bm, 0, some 0⟩)]) :: (n, .row 82 0 0 [.pointer (some ⟨bg, 0, some 0⟩)]) :: M))) (Upd.app (Upd.app .here)) fun H5 hH5 => ?_
    repeat' (first | refine zA ?_ | (refine zM ?_; intro _ _) | (apply Ws <;> intro hg))
    refine Ends.retC1D (M0 := (n + 1 + 1 + 1, .row 4 0 0 [.bool true]) :: M) (v := .bool true) rfl (hH5.perm (M' := ((n + 1 + 1, .row 3 0 0 [.int .i64 h]) :: (n + 1, .row 101 0 0 [.pointer (some ⟨bm, 0, some 0⟩)]) :: (n, .row 82 0 0 [.pointer (some ⟨bg, 0, some 0⟩)]) :: Mx) ++ (defds D ++ (n + 1 + 1 + 1, .row 4 0 0 [.bool true]) :: M)) (by classical exact List.perm_iff_count.2 (fun a => by simp only [defds, List.map_cons, List.map_nil, List.count_append, List.count_cons, List.count_nil, List.cons_append, List.nil_append, List.append_nil]; omega))) (List.sublist_append_right _ _) (List.Perm.refl _) fun H9 hH9 => ⟨hH9.read (.head _) (.row _ _ _ _) (Nat.zero_le _) rfl, ?_, n4, by omega, hH9.tail⟩
    congr 1
    rw [eq_comm, decide_eq_true_iff]
    intro p hp y hy
    rw [hps] at hp
    obtain ⟨j, hj, rfl⟩ := List.mem_iff_getElem.1 hp
    exact hgd j hj _ (List.getElem?_eq_getElem hj) y hy

end Go.Proofs.Ytmogipomnjihcaa.Eb

namespace Go.Proofs.Ytmogipomnjihcaa.Eb
open Go Go.Abs Go.Low
set_option linter.unusedVariables false
set_option linter.unusedSimpArgs false
attribute [local irreducible] gOK WS WC WR WD Ends FS YS OpV seqK blockK loopK midK retK rdK asgK rangeEnd sat Cell

theorem mem_marked {ms : List Bool} {k p : Nat} : p ∈ marked ms k ↔ p < k ∧ ms.getD p false = true := by simp [marked]

theorem barsM_iff {c r : Nat} {hs : List Int} {ms : List Bool} {ps : List Nat} {h : Int} (hh : HS c r hs) (hps : ∀ p ∈ ps, p < r) (hms : ∀ q, q < 37 → ms.getD q false = decide (q ∈ ps)) : BarsM c r hs ms h ↔ Bars c r hs ps h := by
  have h36 := hh.r36
  have hin : ∀ p, p ∈ marked ms 37 ↔ p ∈ ps := by
    intro p
    rw [mem_marked]
    constructor
    · rintro ⟨h1, h2⟩; rw [hms p h1] at h2; exact of_decide_eq_true h2
    · intro h1
      have := hps p h1
      exact ⟨by omega, by rw [hms p (by omega)]; exact decide_eq_true h1⟩
  have hgood : ∀ p ∈ ps, ∀ y ∈ nbrs c r p, (goodN r hs ms h y ↔ (y ≠ r ∧ (hs.getD y 0 < h → y ∈ ps))) := by
    intro p hp y hy
    have hyr := nbrs_le hh.c1 hh.cr (Nat.le_of_lt (hps p hp)) hy
    unfold goodN
    rw [hms y (by omega), decide_eq_true_iff]
  constructor
  · intro hb p hp y hy
    exact (hgood p hp y hy).1 (hb p ((hin p).2 hp) y hy)
  · intro hb p hp y hy
    have hp' := (hin p).1 hp
    exact (hgood p hp' y hy).2 (hb p hp' y hy)

open Classical in
theorem Proves_fs {M : HL} {n : Nat} {H : Heap} (hH : hasH M n H) {r c : Int} {v vp : Value} {xs : List Int} {ps : List Nat} {h : Int} (hS : Sl M 1 v (ints xs)) (hP : Sl M 1 vp (nodes ps)) (hx : xs.length ≤ 1000) (hck : checkE r c xs = 0) (hps : ∀ p ∈ ps, p < xs.length) (hsort : ps.Pairwise (· < ·)) (hpl : ps.length ≤ 1000)
    (hh30 : 0 ≤ h ∧ h ≤ 30) :
    FS C 35 [.agg #[.int .i64 r, .int .i64 c, v], vp, .int .i64 h] H (fun e H' => e = .int .i64 (if Bars c.toNat xs.length (padded xs) ps h then 0 else 14) ∧ ∃ n', n ≤ n' ∧ hasH M n' H') := by
  have h1 := hS.one_
  obtain ⟨hh, hc6, hr36⟩ := HS_of hck
  have hnl : (nodes ps).length = ps.length := by simp
  refine FS.intro (pf := pf35) rfl rfl rfl ?_
  repeat' (first | refine zA ?_ | (refine zM ?_; intro _ _) | (apply Ws <;> intro hg))
  refine WR.call (by first | exact gN | exact gS rfl) rfl rfl (lay_fs (by assumption) hS.cons hx) ?_
  rintro _ H2 ⟨n2, hn2, ⟨hne, _⟩ | ⟨_, bg, rfl, hH2⟩⟩
  · exact absurd hck hne
  repeat' (first | refine zA ?_ | (refine zM ?_; intro _ _) | (apply Ws <;> intro hg))
  rename_i H3 hH3
  refine WR.op (by first | exact gN | exact gS rfl) rfl (OpV.lenS rfl hP) ?_
  rw [hnl]
  repeat' (first | refine zA ?_ | (refine zM ?_; intro _ _) | (apply Ws <;> intro hg))
  refine WC.loop (fun k : Nat => [(1, vp), (2, .int .i64 h), (7, .pointer (some ⟨bg, 0, some 0⟩)), (9, .pointer (some ⟨n2, 0, some 0⟩)), (20, vp), (21, .int .i64 (ps.length : Int)), (22, .int .i64 (k : Int))]) (fun _ => [])
    (fun k H => k ≤ ps.length ∧ ∃ ms : List Bool, ms.length = 37 ∧ (∀ q, q < 37 → ms.getD q false = decide (q ∈ ps.take k)) ∧
      hasH ((n2, .row 97 0 0 (bools ms)) :: (bg, .row 99 0 0 (gcells c.toNat xs.length (padded xs))) :: (n, .row 24 0 0 [.int .i64 r, .int .i64 c, v]) :: M) (n2 + 1) H)
    (fun k => ps.length - k) 0 (by repeat' (first | exact .nil | refine .cons rfl ?_)) rfl ⟨Nat.zero_le _, List.replicate 37 false, rfl, fun q hq => ?_, hH3⟩ ?_
  · rw [List.getD_eq_getElem?_getD, List.getElem?_replicate, if_pos hq]; simp
  clear hH3 hH2
  rintro k H4 ⟨hk, ms, hml, hms, hH4⟩
  have hP4 : Sl ((n2, .row 97 0 0 (bools ms)) :: (bg, .row 99 0 0 (gcells c.toNat xs.length (padded xs))) :: (n, .row 24 0 0 [.int .i64 r, .int .i64 c, v]) :: M) 1 vp (nodes ps) := hP.cons.cons.cons
  repeat' (first | refine zA ?_ | (refine zM ?_; intro _ _) | (apply Ws <;> intro hg))
  refine WC.condP rfl (fun hlt => ?_) (fun hlt => ?_)
  · have hk' : k < ps.length := by omega
    obtain ⟨p, hp⟩ : ∃ p, ps[k]? = some p := ⟨ps[k], List.getElem?_eq_getElem hk'⟩
    have hpr := hps p (List.mem_of_getElem? hp)
    have hpe : ps[k] = p := by rw [List.getElem?_eq_getElem hk'] at hp; exact Option.some.inj hp
    repeat' (first | refine zA ?_ | (refine zM ?_; intro _ _) | (apply Ws <;> intro hg))
    refine WR.idxSl (by first | exact gN | exact gS rfl) rfl rfl hP4 rfl rfl (c := .int .i64 (p : Int)) (by simp [hp]) fun b' o' u' hc => ?_
    repeat' (first | refine zA ?_ | (refine zM ?_; intro _ _) | (apply Ws <;> intro hg))
    refine WR.call (by first | exact gN | exact gS rfl) rfl rfl (isPlace_fs hH4 (.tail _ (.head _)) hr36 (p : Int)) ?_
    rintro _ _ ⟨rfl, rfl⟩
    repeat' (first | refine zA ?_ | (refine zM ?_; intro _ _) | (apply Ws <;> intro hg))
    refine WC.condP rfl (fun hq => ?_) (fun hq => ?_)
    · omega
    have hnext : ∀ q, q < 37 → (ms.set p true).getD q false = decide (q ∈ ps.take (k + 1)) := by
      intro q hq
      rw [List.take_succ_eq_append_getElem hk', hpe, List.getD_eq_getElem?_getD, List.getElem?_set]
      by_cases hpq : p = q
      · subst hpq; rw [if_pos rfl, if_pos (by omega)]; simp
      · rw [if_neg hpq, ← List.getD_eq_getElem?_getD, hms q hq]
        exact decide_eq_decide.2 (by simp [Ne.symm hpq])
    repeat' (first | refine zA ?_ | (refine zM ?_; intro _ _) | (apply Ws <;> intro hg))
    · -- behind the first one
      refine WR.op (by first | exact gN | exact gS rfl) rfl (OpV.sub' (c := ((k - 1 : Nat) : Int)) rfl rfl (by omega) (by omega)) ?_
      obtain ⟨p0, hp0⟩ : ∃ p0, ps[k - 1]? = some p0 := ⟨ps[k - 1], List.getElem?_eq_getElem (by omega)⟩
      have hlt0 : p0 < p := by
        have hk1 : k - 1 < ps.length := by omega
        have := List.pairwise_iff_getElem.1 hsort (k - 1) k hk1 hk' (by omega)
        rw [List.getElem?_eq_getElem hk1] at hp0
        rw [hpe, Option.some.inj hp0] at this
        exact this
      refine WR.idxSl (by first | exact gN | exact gS rfl) rfl rfl hP4 rfl rfl (c := .int .i64 (p0 : Int)) (by simp [hp0]) fun b' o' u' hc => ?_
      repeat' (first | refine zA ?_ | (refine zM ?_; intro _ _) | (apply Ws <;> intro hg))
      refine WC.condP rfl (fun hq2 => ?_) (fun hq2 => ?_)
      · omega
      repeat' (first | refine zA ?_ | (refine zM ?_; intro _ _) | (apply Ws <;> intro hg))
      refine WR.storeB (by first | exact gN | exact gS rfl) hH4 rfl rfl .here (by omega) fun H7 hH7 => ?_
      repeat' (first | refine zA ?_ | (refine zM ?_; intro _ _) | (apply Ws <;> intro hg))
      exact Ends.loop (k + 1) (by omega) (by repeat' (first | exact .nil | refine .cons rfl ?_)) rfl ⟨hk', _, by rw [List.length_set]; exact hml, hnext, hH7⟩
    · repeat' (first | refine zA ?_ | (refine zM ?_; intro _ _) | (apply Ws <;> intro hg))
      refine WR.storeB (by first | exact gN | exact gS rfl) hH4 rfl rfl .here (by omega) fun H7 hH7 => ?_
      repeat' (first | refine zA ?_ | (refine zM ?_; intro _ _) | (apply Ws <;> intro hg))
      exact Ends.loop (k + 1) (by omega) (by repeat' (first | exact .nil | refine .cons rfl ?_)) rfl ⟨hk', _, by rw [List.length_set]; exact hml, hnext, hH7⟩
  · have hkn : k = ps.length := by omega
    subst hkn
    rw [List.take_length] at hms
    repeat' (first | refine zA ?_ | (refine zM ?_; intro _ _) | (apply Ws <;> intro hg))
    refine WR.call (by first | exact gN | exact gS rfl) rfl rfl (isHeight_fs _ _) ?_
    rintro _ _ ⟨rfl, rfl⟩
    repeat' (first | refine zA ?_ | (refine zM ?_; intro _ _) | (apply Ws <;> intro hg))
    refine WC.condP rfl (fun hq => ?_) (fun hq => ?_)
    · exact absurd hh30 hq
    repeat' (first | refine zA ?_ | (refine zM ?_; intro _ _) | (apply Ws <;> intro hg))
    have hin : ∀ p ∈ marked ms 37, p < xs.length := by
      intro p hp
      rw [mem_marked] at hp
      rw [hms p hp.1] at hp
      exact hps p (of_decide_eq_true hp.2)
    refine WR.call (by first | exact gN | exact gS rfl) rfl rfl (isBarrier_fs hH4 (.tail _ (.head _)) (.head _) hml hh hc6 hin) ?_
    rintro _ H8 ⟨rfl, n8, hn8, hH8⟩
    repeat' (first | refine zA ?_ | (refine zM ?_; intro _ _) | (apply Ws <;> intro hg))
    refine WC.condP rfl (fun hb => ?_) (fun hb => ?_)
    · repeat' (first | refine zA ?_ | (refine zM ?_; intro _ _) | (apply Ws <;> intro hg))
      refine Ends.ret1 rfl ⟨?_, n8, by omega, hH8.tail.tail.tail⟩
      rw [if_neg (fun hbb => hb ((barsM_iff hh hps hms).2 hbb))]
    · repeat' (first | refine zA ?_ | (refine zM ?_; intro _ _) | (apply Ws <;> intro hg))
      refine Ends.ret1 rfl ⟨?_, n8, by omega, hH8.tail.tail.tail⟩
      rw [if_pos ((barsM_iff hh hps hms).1 (Decidable.not_not.1 hb))]

end Go.Proofs.Ytmogipomnjihcaa.Eb

namespace Go.Proofs.Ytmogipomnjihcaa.Eb
open Go Go.Abs Go.Low
set_option linter.unusedVariables false
set_option linter.unusedSimpArgs false
attribute [local irreducible] gOK WS WC WR WD Ends FS YS OpV seqK blockK loopK midK retK rdK asgK rangeEnd sat Cell

def placeE (r c : Int) (xs : List Int) (p : Int) : Int := if checkE r c xs ≠ 0 then checkE r c xs else if 0 ≤ p ∧ p ≤ (xs.length : Int) - 1 then 0 else 2

theorem layFor_fs {M : HL} {n : Nat} {H : Heap} (hH : hasH M n H) {r c : Int} {v : Value} {xs : List Int} (hS : Sl M 1 v (ints xs)) (hx : xs.length ≤ 1000) (p : Int) :
    FS C 72 [.agg #[.int .i64 r, .int .i64 c, v], .int .i64 p] H (fun e H' => ∃ n', n ≤ n' ∧ (placeE r c xs p ≠ 0 ∧ e = .tuple #[.pointer none, .int .i64 (placeE r c xs p)] ∧ hasH M n' H' ∨
      placeE r c xs p = 0 ∧ ∃ b, e = .tuple #[.pointer (some ⟨b, 0, some 0⟩), .int .i64 0] ∧ hasH ((b, .row 99 0 0 (gcells c.toNat xs.length (padded xs))) :: M) n' H')) := by
  have h1 := hS.one_
  refine FS.intro (pf := pf72) rfl rfl rfl ?_
  repeat' (first | refine zA ?_ | (refine zM ?_; intro _ _) | (apply Ws <;> intro hg))
  refine WR.call (by first | exact gN | exact gS rfl) rfl rfl (lay_fs (by assumption) hS.cons hx) ?_
  rintro _ H2 ⟨n2, hn2, ⟨hne, rfl, hH2⟩ | ⟨he0, b, rfl, hH2⟩⟩
  · have hl : placeE r c xs p = checkE r c xs := by simp [placeE, hne]
    repeat' (first | refine zA ?_ | (refine zM ?_; intro _ _) | (apply Ws <;> intro hg))
    refine WC.condP rfl (fun h => ?_) (fun h => ?_)
    · repeat' (first | refine zA ?_ | (refine zM ?_; intro _ _) | (apply Ws <;> intro hg))
      exact Ends.ret2 rfl rfl ⟨n2, by omega, .inl ⟨by rw [hl]; exact hne, by rw [hl], hH2.tail⟩⟩
    · exact absurd hne h
  · obtain ⟨hh, hc6, hr36⟩ := HS_of he0
    repeat' (first | refine zA ?_ | (refine zM ?_; intro _ _) | (apply Ws <;> intro hg))
    refine WR.call (by first | exact gN | exact gS rfl) rfl rfl (isPlace_fs hH2 (.head _) hr36 p) ?_
    rintro _ _ ⟨rfl, rfl⟩
    repeat' (first | refine zA ?_ | (refine zM ?_; intro _ _) | (apply Ws <;> intro hg))
    refine WC.condP rfl (fun h => ?_) (fun h => ?_)
    · have hl : placeE r c xs p = 2 := by simp only [placeE, he0, ne_eq, not_true_eq_false, if_false, h]
      repeat' (first | refine zA ?_ | (refine zM ?_; intro _ _) | (apply Ws <;> intro hg))
      exact Ends.ret2 rfl rfl ⟨n2, by omega, .inl ⟨by rw [hl]; decide, by rw [hl], hH2.tail.tail⟩⟩
    · have hl : placeE r c xs p = 0 := by simp only [placeE, he0, ne_eq, not_true_eq_false, if_false, Decidable.not_not.1 h, and_self, if_true]
      repeat' (first | refine zA ?_ | (refine zM ?_; intro _ _) | (apply Ws <;> intro hg))
      exact Ends.ret2 rfl rfl ⟨n2, by omega, .inr ⟨hl, b, rfl, hH2.sub (.cons_cons _ (List.sublist_cons_self _ _))⟩⟩

theorem place_ok {r c : Int} {xs : List Int} {p : Int} (h : placeE r c xs p = 0) : checkE r c xs = 0 ∧ 0 ≤ p ∧ p ≤ (xs.length : Int) - 1 := by
  unfold placeE at h
  split at h
  · exact absurd h (by assumption)
  · split at h
    · rename_i h1 h2; exact ⟨Decidable.not_not.1 h1, h2⟩
    · cases h

/-- The places of a way, so many. -/
def wayL (c r : Nat) (b : List Int) : Nat → Nat → List Nat
  | 0, _ => []
  | k + 1, p => p :: wayL c r b k (nextN c r b p)

theorem wayL_len (c r : Nat) (b : List Int) : ∀ k p, (wayL c r b k p).length = k
  | 0, _ => rfl
  | k + 1, p => by simp [wayL, wayL_len c r b k]

section
variable {c r : Nat} {hs : List Int} {h : Int} (hh : HS c r hs) (hc6 : c ≤ 6) {b : List Int} (D : Dist c r hs h b)
include hh hc6 D

theorem next_ok {p k : Nat} (hp : p ≤ r) (hk : b.getD p 0 = ((k + 1 : Nat) : Int)) (h37 : k + 1 ≠ 37) : nextN c r b p ∈ nbrs c r p ∧ nextN c r b p ≤ r ∧ b.getD (nextN c r b p) 0 = (k : Int) ∧ (∀ y ∈ nbrs c r p, b.getD y 0 = (k : Int) ↔ b.getD y 0 < b.getD p 0) ∧ hs.getD p 0 ≤ h := by
  obtain ⟨ht, x, hx, hxn, hxk⟩ := D.pred hh hp hk h37
  have hcc : 1 ≤ c ∧ c ≤ 6 := ⟨hh.c1, hc6⟩
  have hall : ∀ y ∈ nbrs c r p, b.getD y 0 = (k : Int) ↔ b.getD y 0 < b.getD p 0 := by
    intro y hy
    have hyr := nbrs_le hh.c1 hh.cr hp hy
    refine ⟨fun h1 => by omega, fun h1 => ?_⟩
    have h2 := nbrs_symm hcc hh.cr hp hy
    have hb37 : b.getD y 0 ≠ 37 := by
      rcases D.at_ hh hp with h3 | ⟨k', h3, _, h4⟩
      · omega
      · have := hh.r36; omega
    have h3 := (D.rel y hyr hb37 p h2 ht).2
    omega
  have hxp := nbrs_symm hcc hh.cr hx hxn
  have hex : ∃ z, (nbrs c r p).find? (fun y => decide (b.getD y 0 < b.getD p 0)) = some z := by
    cases hf : (nbrs c r p).find? (fun y => decide (b.getD y 0 < b.getD p 0)) with
    | some z => exact ⟨z, rfl⟩
    | none =>
      rw [List.find?_eq_none] at hf
      have h6 := hf x hxp
      have h5 := (hall x hxp).1 hxk
      rw [decide_eq_true h5] at h6
      exact absurd rfl h6
  obtain ⟨z, hz⟩ := hex
  have hzm := List.mem_of_find?_eq_some hz
  have hzd : decide (b.getD z 0 < b.getD p 0) = true := List.find?_some (p := fun y => decide (b.getD y 0 < b.getD p 0)) hz
  have hzl := of_decide_eq_true hzd
  have hn : nextN c r b p = z := by rw [nextN, hz]; rfl
  rw [hn]
  exact ⟨hzm, nbrs_le hh.c1 hh.cr hp hzm, (hall z hzm).2 hzl, hall, ht⟩

omit hh hc6 D in
theorem Dk_of_reach {t : Int} {y : Nat} (k : Go.Low.Reach c r hs r t y) : ∃ j, Dk c r hs t j y := by
  induction k with
  | start _ => exact ⟨0, .zero⟩
  | step _ hy ht ih => obtain ⟨j, hj⟩ := ih; exact ⟨j + 1, .succ hj hy ht⟩
end

structure WayR (r c : Int) (xs : List Int) (p : Nat) (l : List Nat) : Prop where
  ex : ∃ best b, Lowest c.toNat xs.length (padded xs) xs.length best ∧ Dist c.toNat xs.length (padded xs) (best.getD p 0) b ∧ l = wayL c.toNat xs.length b (b.getD p 0).toNat p

theorem dist_at {c r : Nat} {hs best b : List Int} (hh : HS c r hs) (hc6 : c ≤ 6) {p : Nat} (hp : p ≤ r) (hl : Lowest c r hs r best) (D : Dist c r hs (best.getD p 0) b) : ∃ k : Nat, b.getD p 0 = (k : Int) ∧ k ≤ r ∧ Dk c r hs (best.getD p 0) k p := by
  have h1 := (hl.out.done hh (Nat.le_refl _) (best_le hh hc6 hl hp) hp).1 (Int.le_refl _)
  obtain ⟨j, hj⟩ := Dk_of_reach h1
  have h2 := (D.min hh hj).1
  rcases D.at_ hh hp with h3 | ⟨k, h3, h4, h5⟩
  · exact absurd h3 h2
  · exact ⟨k, h3, h5, h4⟩

structure NV where
  k : Nat
  p : Nat
  v : Value
  Mx : HL
  n : Nat
  l : List Nat

set_option maxHeartbeats 1000000 in
theorem Way_fs {M : HL} {n : Nat} {H : Heap} (hH : hasH M n H) {r c : Int} {v : Value} {xs : List Int} (hS : Sl M 1 v (ints xs)) (hx : xs.length ≤ 1000) (p : Int) :
    FS C 31 [.agg #[.int .i64 r, .int .i64 c, v], .int .i64 p] H (fun e H' => ∃ n', n ≤ n' ∧ (placeE r c xs p ≠ 0 ∧ e = .tuple #[.slice none 0 0, .int .i64 (placeE r c xs p)] ∧ hasH M n' H' ∨
      placeE r c xs p = 0 ∧ ∃ v' Mx l, e = .tuple #[v', .int .i64 0] ∧ Own 3 1 v' (nodes l) Mx ∧ hasH (Mx ++ M) n' H' ∧ WayR r c xs p.toNat l)) := by
  have h1 := hS.one_
  refine FS.intro (pf := pf31) rfl rfl rfl ?_
  repeat' (first | refine zA ?_ | (refine zM ?_; intro _ _) | (apply Ws <;> intro hg))
  refine WR.call (by first | exact gN | exact gS rfl) rfl rfl (layFor_fs (by assumption) hS.cons hx p) ?_
  rintro _ H2 ⟨n2, hn2, ⟨hne, rfl, hH2⟩ | ⟨he0, bg, rfl, hH2⟩⟩
  · repeat' (first | refine zA ?_ | (refine zM ?_; intro _ _) | (apply Ws <;> intro hg))
    refine WC.condP rfl (fun h => ?_) (fun h => ?_)
    · repeat' (first | refine zA ?_ | (refine zM ?_; intro _ _) | (apply Ws <;> intro hg))
      exact Ends.ret2 rfl rfl ⟨n2, by omega, .inl ⟨hne, rfl, hH2.tail⟩⟩
    · exact absurd hne h
  · obtain ⟨hck, hp0, hp1⟩ := place_ok he0
    obtain ⟨hh, hc6, hr36⟩ := HS_of hck
    obtain ⟨q, rfl⟩ : ∃ q : Nat, p = q := ⟨p.toNat, by omega⟩
    have hq : q < xs.length := by omega
    repeat' (first | refine zA ?_ | (refine zM ?_; intro _ _) | (apply Ws <;> intro hg))
    refine WR.call (by first | exact gN | exact gS rfl) rfl rfl (sills_fs hH2 (by first | assumption | exact .head _ | exact .tail _ (.head _) | exact .tail _ (.tail _ (.head _)) | exact .tail _ (.tail _ (.tail _ (.head _))) | exact .tail _ (.tail _ (.tail _ (.tail _ (.head _)))) | exact .tail _ (.tail _ (.tail _ (.tail _ (.tail _ (.head _))))) | exact .tail _ (.tail _ (.tail _ (.tail _ (.tail _ (.tail _ (.head _)))))) | (repeat' (first | assumption | apply List.mem_cons_of_mem))) hh hc6) ?_
    rintro _ H3 ⟨best, n3, rfl, hn3, hH3, hl⟩
    have hbl := hl.len
    repeat' (first | refine zA ?_ | (refine zM ?_; intro _ _) | (apply Ws <;> intro hg))
    refine WR.op (by first | exact gN | exact gS rfl) rfl (OpV.idx (v := .int .i64 (best.getD q 0)) rfl rfl rfl (show q < 37 by omega) (by rw [Nat.mul_one]; exact toArray_get (ints_get (by omega)))) ?_
    refine WR.call (by first | exact gN | exact gS rfl) rfl rfl (steps_fs hH3 (by first | assumption | exact .head _ | exact .tail _ (.head _) | exact .tail _ (.tail _ (.head _)) | exact .tail _ (.tail _ (.tail _ (.head _))) | exact .tail _ (.tail _ (.tail _ (.tail _ (.head _)))) | exact .tail _ (.tail _ (.tail _ (.tail _ (.tail _ (.head _))))) | exact .tail _ (.tail _ (.tail _ (.tail _ (.tail _ (.tail _ (.head _)))))) | (repeat' (first | assumption | apply List.mem_cons_of_mem))) hh hc6) ?_
    rintro _ H4 ⟨b, n4, rfl, hn4, hH4, hD⟩
    have hbl2 := hD.len
    repeat' (first | refine zA ?_ | (refine zM ?_; intro _ _) | (apply Ws <;> intro hg))
    rename_i hq2
    refine WR.storeAll (by first | exact gN | exact gS rfl) hq2 rfl rfl (ls := ints b) (by simp [Value.cells]) (by simpa using hbl2) (by first | exact .here | exact .there .here | exact .there (.there .here) | exact .there (.there (.there .here)) | exact .there (.there (.there (.there .here))) | exact .there (.there (.there (.there (.there .here))))) (ints_one _) (by simpa using hbl2) fun H5 hH5 => ?_
    clear hq2 hH4 hH3 hH2
    obtain ⟨k0, hk0, hkr, _⟩ := dist_at hh hc6 (Nat.le_of_lt hq) hl hD
    have hmg : (bg, Ch.row 99 0 0 (gcells c.toNat xs.length (padded xs))) ∈ (n4, Ch.row 86 0 0 (ints b)) :: (bg, Ch.row 99 0 0 (gcells c.toNat xs.length (padded xs))) :: (n, .row 24 0 0 [.int .i64 r, .int .i64 c, v]) :: M := by simp
    have hmb : (n4, Ch.row 86 0 0 (ints b)) ∈ (n4, Ch.row 86 0 0 (ints b)) :: (bg, Ch.row 99 0 0 (gcells c.toNat xs.length (padded xs))) :: (n, .row 24 0 0 [.int .i64 r, .int .i64 c, v]) :: M := by simp
    have hback : ∀ {Z : HL} {n' : Nat} {H' : Heap}, hasH (Z ++ ((n4, Ch.row 86 0 0 (ints b)) :: (bg, Ch.row 99 0 0 (gcells c.toNat xs.length (padded xs))) :: (n, .row 24 0 0 [.int .i64 r, .int .i64 c, v]) :: M)) n' H' → hasH (Z ++ M) n' H' :=
      fun hq => hq.sub (.append (.refl _) (.cons _ (.cons _ (.cons _ (.refl _)))))
    have hH6 : hasH ([] ++ ((n4, Ch.row 86 0 0 (ints b)) :: (bg, Ch.row 99 0 0 (gcells c.toNat xs.length (padded xs))) :: (n, .row 24 0 0 [.int .i64 r, .int .i64 c, v]) :: M)) (n4 + 1) H5 := hH5
    generalize (n4, Ch.row 86 0 0 (ints b)) :: (bg, Ch.row 99 0 0 (gcells c.toNat xs.length (padded xs))) :: (n, .row 24 0 0 [.int .i64 r, .int .i64 c, v]) :: M = T at hmg hmb hback hH6
    clear hH5
    repeat' (first | refine zA ?_ | (refine zM ?_; intro _ _) | (apply Ws <;> intro hg))
    refine WC.loop (fun s : NV => [(6, .pointer (some ⟨bg, 0, some 0⟩)), (8, .pointer (some ⟨n4, 0, some 0⟩)), (9, s.v), (10, .int .i64 (s.p : Int))]) (fun _ => [])
      (fun s H => s.p ≤ xs.length ∧ b.getD s.p 0 = (s.k : Int) ∧ s.k ≤ xs.length ∧ s.l ++ wayL c.toNat xs.length b s.k s.p = wayL c.toNat xs.length b k0 q ∧ Own 3 1 s.v (nodes s.l) s.Mx ∧ hasH (s.Mx ++ T) s.n H ∧ n4 ≤ s.n)
      (fun s => s.k) ⟨k0, q, .slice none 0 0, [], n4 + 1, []⟩ (by repeat' (first | exact .nil | refine .cons rfl ?_)) rfl ⟨Nat.le_of_lt hq, hk0, hkr, rfl, .nil, hH6, by simp only; omega⟩ ?_
    clear hH6
    rintro ⟨k, y, v9, Mx, n6, l⟩ H6 ⟨hy, hk, hkx, hway, hO, hH6, hn6⟩
    simp only at hy hk hkx hway hO hH6 hn6
    dsimp only
    have hmX : (bg, Ch.row 99 0 0 (gcells c.toNat xs.length (padded xs))) ∈ Mx ++ T := List.mem_append_right _ hmg
    have hmX2 : (n4, Ch.row 86 0 0 (ints b)) ∈ Mx ++ T := List.mem_append_right _ hmb
    have hll : l.length + k = k0 := by have := congrArg List.length hway; rw [List.length_append, wayL_len, wayL_len] at this; exact this
    repeat' (first | refine zA ?_ | (refine zM ?_; intro _ _) | (apply Ws <;> intro hg))
    refine WC.condP rfl (fun hyr => ?_) (fun hyr => ?_)
    · have hyr' : y ≠ xs.length := by omega
      obtain ⟨k, rfl⟩ : ∃ k', k = k' + 1 := by
        cases k with
        | succ k' => exact ⟨k', rfl⟩
        | zero =>
          rcases hD.at_ hh hy with h3 | ⟨k', h3, h4, _⟩
          · omega
          · have : k' = 0 := by omega
            subst this
            exact absurd h4.zero_ hyr'
      obtain ⟨p1, p2, p3, p4, p5⟩ := next_ok hh hc6 hD hy hk (by omega)
      repeat' (first | refine zA ?_ | (refine zM ?_; intro _ _) | (apply Ws <;> intro hg))
      refine WR.append1F [] Mx T rfl rfl rfl rfl hO hH6 (new := [.int .i64 (y : Int)]) (by rfl) rfl rfl (Nat.le_refl _) (by omega) (by simp; omega) fun v3 Mx3 n9 H10 hO3 hH10 hn10 => ?_
      simp only [List.nil_append] at hH10
      repeat' (first | refine zA ?_ | (refine zM ?_; intro _ _) | (apply Ws <;> intro hg))
      refine WR.call (by first | exact gN | exact gS rfl) rfl rfl (nearer_fs hH10 (List.mem_append_right _ hmg) (List.mem_append_right _ hmb) hbl2 hh hc6 hy) ?_
      rintro _ H11 ⟨rfl, n11, hn11, hH11⟩
      repeat' (first | refine zA ?_ | (refine zM ?_; intro _ _) | (apply Ws <;> intro hg))
      refine Ends.loop ⟨k, nextN c.toNat xs.length b y, v3, Mx3, n11, l ++ [y]⟩ (by simp only; omega) (by repeat' (first | exact .nil | refine .cons rfl ?_)) rfl ⟨p2, p3, by simp only; omega, ?_, by simpa using hO3, hH11, by simp only; omega⟩
      simp only [List.append_assoc]
      exact hway
    · have hyr' : y = xs.length := by omega
      have hk2 : k = 0 := by have := hD.root; rw [← hyr', hk] at this; omega
      subst hk2
      repeat' (first | refine zA ?_ | (refine zM ?_; intro _ _) | (apply Ws <;> intro hg))
      refine Ends.ret2 rfl rfl ⟨n6, by omega, .inr ⟨he0, v9, Mx, l, rfl, hO, hback hH6, ⟨best, b, hl, by rw [Int.toNat_natCast]; exact hD, ?_⟩⟩⟩
      rw [Int.toNat_natCast, hk0, Int.toNat_natCast, ← hway]
      simp [wayL]
end Go.Proofs.Ytmogipomnjihcaa.Eb

namespace Go.Proofs.Ytmogipomnjihcaa.Eb
open Go Go.Abs Go.Low
set_option linter.unusedVariables false
set_option linter.unusedSimpArgs false
attribute [local irreducible] gOK WS WC WR WD Ends FS YS OpV seqK blockK loopK midK retK rdK asgK rangeEnd sat Cell

theorem nodesR (l : List Nat) : nodes l = ints (l.map fun (x : Nat) => (x : Int)) := by simp [nodes, ints]

theorem mem_castR {l : List Nat} {q : Nat} : ((q : Int) ∈ l.map fun (x : Nat) => (x : Int)) ↔ q ∈ l := by
  rw [List.mem_map]
  constructor
  · rintro ⟨x, hx, he⟩
    have : x = q := by omega
    exact this ▸ hx
  · exact fun h => ⟨q, h, rfl⟩

structure MV where
  k : Nat
  v : Value
  Mx : HL
  n : Nat
  pl : List Nat
end Go.Proofs.Ytmogipomnjihcaa.Eb

namespace Go.Proofs.Ytmogipomnjihcaa.Eb
open Go Go.Abs Go.Low
set_option linter.unusedVariables false
set_option linter.unusedSimpArgs false
set_option maxRecDepth 100000 in
theorem mul64_one (H : Heap) : ∀ m : Nat, m < 37 → ∃ k, runW C k (.call 85 [.int .u64 1, .int .u64 (m : Int)] H) = some (.val (.tuple #[.int .u64 0, .int .u64 (m : Int)]) H)
  | 0, _ => ⟨100, by kernel_rfl⟩
  | 1, _ => ⟨100, by kernel_rfl⟩
  | 2, _ => ⟨100, by kernel_rfl⟩
  | 3, _ => ⟨100, by kernel_rfl⟩
  | 4, _ => ⟨100, by kernel_rfl⟩
  | 5, _ => ⟨100, by kernel_rfl⟩
  | 6, _ => ⟨100, by kernel_rfl⟩
  | 7, _ => ⟨100, by kernel_rfl⟩
  | 8, _ => ⟨100, by kernel_rfl⟩
  | 9, _ => ⟨100, by kernel_rfl⟩
  | 10, _ => ⟨100, by kernel_rfl⟩
  | 11, _ => ⟨100, by kernel_rfl⟩
  | 12, _ => ⟨100, by kernel_rfl⟩
  | 13, _ => ⟨100, by kernel_rfl⟩
  | 14, _ => ⟨100, by kernel_rfl⟩
  | 15, _ => ⟨100, by kernel_rfl⟩
  | 16, _ => ⟨100, by kernel_rfl⟩
  | 17, _ => ⟨100, by kernel_rfl⟩
  | 18, _ => ⟨100, by kernel_rfl⟩
  | 19, _ => ⟨100, by kernel_rfl⟩
  | 20, _ => ⟨100, by kernel_rfl⟩
  | 21, _ => ⟨100, by kernel_rfl⟩
  | 22, _ => ⟨100, by kernel_rfl⟩
  | 23, _ => ⟨100, by kernel_rfl⟩
  | 24, _ => ⟨100, by kernel_rfl⟩
  | 25, _ => ⟨100, by kernel_rfl⟩
  | 26, _ => ⟨100, by kernel_rfl⟩
  | 27, _ => ⟨100, by kernel_rfl⟩
  | 28, _ => ⟨100, by kernel_rfl⟩
  | 29, _ => ⟨100, by kernel_rfl⟩
  | 30, _ => ⟨100, by kernel_rfl⟩
  | 31, _ => ⟨100, by kernel_rfl⟩
  | 32, _ => ⟨100, by kernel_rfl⟩
  | 33, _ => ⟨100, by kernel_rfl⟩
  | 34, _ => ⟨100, by kernel_rfl⟩
  | 35, _ => ⟨100, by kernel_rfl⟩
  | 36, _ => ⟨100, by kernel_rfl⟩
  | m + 37, h => absurd h (by omega)

theorem Mul_fs {H : Heap} {m : Nat} (h : m < 37) : FS C 85 [.int .u64 1, .int .u64 (m : Int)] H (fun v H' => v = .tuple #[.int .u64 0, .int .u64 (m : Int)] ∧ H' = H) := by
  obtain ⟨k, hk⟩ := mul64_one H m h
  exact ⟨_, _, ⟨k, hk⟩, rfl, rfl⟩

attribute [local irreducible] gOK WS WC WR WD Ends FS YS OpV seqK blockK loopK midK retK rdK asgK rangeEnd sat Cell

theorem u109 : C.c.P.underlying 109 = some (.int .u64) := by kernel_rfl

theorem splice_get {cs l : List Int} {i : Nat} (h : i + l.length ≤ cs.length) (j : Nat) : (cs.take i ++ l ++ cs.drop (i + l.length)).getD j 0 = if j < i then cs.getD j 0 else if j < i + l.length then l.getD (j - i) 0 else cs.getD j 0 := by
  simp only [List.getD_eq_getElem?_getD]
  by_cases h1 : j < i
  · rw [if_pos h1, List.append_assoc, List.getElem?_append_left (by simp; omega), List.getElem?_take_of_lt h1]
  · rw [if_neg h1]
    by_cases h2 : j < i + l.length
    · rw [if_pos h2, List.getElem?_append_left (by simp; omega), List.getElem?_append_right (by simp; omega)]
      congr 2; simp; omega
    · rw [if_neg h2, List.getElem?_append_right (by simp; omega), List.getElem?_drop]
      congr 2; simp; omega

theorem splice_ints {cs l : List Int} {i : Nat} : splice (ints cs) i (ints l) = ints (cs.take i ++ l ++ cs.drop (i + l.length)) := by
  simp [splice, ints, List.map_take, List.map_drop]

theorem Repeat_fs {M : HL} {n : Nat} {H : Heap} (hH : hasH M n H) {v : Value} {a : Int} (hS : Sl M 1 v (ints [a])) {m : Nat} (hm : 1 ≤ m ∧ m ≤ 36) :
    FS C 44 [v, .int .i64 (m : Int)] H (fun e H' => ∃ b n' ys, e = .slice (some ⟨b, 0, some 0⟩) m (2 * m + 1) ∧ n ≤ n' ∧ hasH ((b, .row 3 0 0 (ints ys)) :: M) n' H' ∧ ys.length = m ∧ ∀ j, j < m → ys.getD j 0 = a) := by
  have h1 := hS.one_
  refine FS.intro (pf := pf44) rfl rfl rfl ?_
  repeat' (first | refine zA ?_ | (refine zM ?_; intro _ _) | (apply Ws <;> intro hg))
  refine WR.op (by first | exact gN | exact gS rfl) rfl (OpV.lenSI rfl hS) ?_
  refine WR.op (by first | exact gN | exact gS rfl) rfl (OpV.conv u3 u109 rfl (c := (1 : Int)) rfl) ?_
  repeat' (first | refine zA ?_ | (refine zM ?_; intro _ _) | (apply Ws <;> intro hg))
  refine WR.op (by first | exact gN | exact gS rfl) rfl (OpV.conv u3 u109 rfl (c := (m : Int)) (IntWalk.u64_in _ (by omega))) ?_
  refine WR.call (by first | exact gN | exact gS rfl) rfl rfl (Mul_fs (by omega)) ?_
  rintro _ _ ⟨rfl, rfl⟩
  repeat' (first | refine zA ?_ | (refine zM ?_; intro _ _) | (apply Ws <;> intro hg))
  refine WC.condP rfl (fun hbig => ?_) (fun hbig => ?_)
  · omega
  repeat' (first | refine zA ?_ | (refine zM ?_; intro _ _) | (apply Ws <;> intro hg))
  refine WR.op (by first | exact gN | exact gS rfl) rfl (OpV.conv u109 u3 rfl (c := (m : Int)) (IntWalk.i64_in _ (by omega))) ?_
  refine WR.mkS (by first | exact gN | exact gS rfl) rfl hH rfl rfl (by omega) rfl fun H2 hH2 => ?_
  replace hH2 : hasH ((n, .row 3 0 0 (ints (List.replicate m 0))) :: M) (n + 1) H2 := by rw [ints, List.map_replicate]; exact hH2
  repeat' (first | refine zA ?_ | (refine zM ?_; intro _ _) | (apply Ws <;> intro hg))
  refine WR.copyMin (by first | exact gN | exact gS rfl) rfl rfl rfl (hS.cons (p := (n, .row 3 0 0 (ints (List.replicate m 0))))) hH2 .here (by simp [ints, one]) (Nat.le_refl _) (m := 1) (Nat.min_eq_left (by simpa using hm.1)) (Nat.le_refl _) (by simp; omega) rfl fun H3 hH3 => ?_
  rw [show splice (ints (List.replicate m 0)) (0 - 0) ((ints [a]).take 1) = ints ((List.replicate m 0).take 0 ++ [a] ++ (List.replicate m 0).drop (0 + [a].length)) from splice_ints (l := [a]) (i := 0)] at hH3
  have hl0 : ((List.replicate m (0 : Int)).take 0 ++ [a] ++ (List.replicate m 0).drop (0 + [a].length)).length = m := by simp; omega
  have ha0 : ∀ j, j < 1 → ((List.replicate m (0 : Int)).take 0 ++ [a] ++ (List.replicate m 0).drop (0 + [a].length)).getD j 0 = a := fun j hj => by
    have : j = 0 := by omega
    subst this; rfl
  generalize (List.replicate m (0 : Int)).take 0 ++ [a] ++ (List.replicate m 0).drop (0 + [a].length) = ys0 at hH3 hl0 ha0
  repeat' (first | refine zA ?_ | (refine zM ?_; intro _ _) | (apply Ws <;> intro hg))
  refine WC.loop (fun s : Nat × List Int => [(7, .slice (some ⟨n, 0, some 0⟩) m (2 * m + 1)), (8, .int .i64 (s.1 : Int))]) (fun _ => [])
    (fun s H => 1 ≤ s.1 ∧ s.1 ≤ m ∧ s.2.length = m ∧ (∀ j, j < s.1 → s.2.getD j 0 = a) ∧ hasH ((n, .row 3 0 0 (ints s.2)) :: M) (n + 1) H)
    (fun s => m - s.1) (1, ys0) (by repeat' (first | exact .nil | refine .cons rfl ?_)) rfl ⟨Nat.le_refl _, hm.1, hl0, ha0, hH3⟩ ?_
  clear hH3 hH2 ha0 hl0
  rintro ⟨k, ys⟩ H4 ⟨hk1, hk, hl, ha, hH4⟩
  simp only at hk1 hk hl ha hH4
  dsimp only
  repeat' (first | refine zA ?_ | (refine zM ?_; intro _ _) | (apply Ws <;> intro hg))
  refine WC.condP rfl (fun hlt => ?_) (fun hlt => ?_)
  · have hk' : k < m := by omega
    repeat' (first | refine zA ?_ | (refine zM ?_; intro _ _) | (apply Ws <;> intro hg))
    refine WR.op (by first | exact gN | exact gS rfl) rfl (OpV.slLoK rfl rfl (by omega) (Nat.le_refl _) hk') ?_
    repeat' (first | refine zA ?_ | (refine zM ?_; intro _ _) | (apply Ws <;> intro hg))
    refine WR.op (by first | exact gN | exact gS rfl) rfl (OpV.slHiK rfl rfl (by omega) (by omega)) ?_
    have hSl : Sl ((n, .row 3 0 0 (ints ys)) :: M) 1 (.slice (some ⟨n, 0, some 0⟩) k (2 * m + 1)) (ints (ys.take k)) :=
      .row (lo := 0) (cs := ints ys) (.head _) (.row _ _ _ _) (Nat.zero_le _) (by simp; omega) (by simp [ints, List.map_take]) (by simp; omega) (.inr ⟨m, rfl, by omega⟩)
    obtain ⟨d, hd⟩ : ∃ d, min k (m - k) = d := ⟨_, rfl⟩
    refine WR.copyMin (by first | exact gN | exact gS rfl) rfl rfl rfl hSl hH4 .here (ints_one _) (Nat.zero_le _) (m := d) (by rw [show (ints (ys.take k)).length = k by simp; omega]; exact hd) (by omega) (by simp; omega) rfl fun H5 hH5 => ?_
    rw [show (ints (ys.take k)).take d = ints ((ys.take k).take d) by simp [ints, List.map_take], show splice (ints ys) (0 + k - 0) (ints ((ys.take k).take d)) = ints (ys.take (0 + k - 0) ++ (ys.take k).take d ++ ys.drop ((0 + k - 0) + ((ys.take k).take d).length)) from splice_ints] at hH5
    have htl : ((ys.take k).take d).length = d := by simp; omega
    have hget := fun j => splice_get (cs := ys) (l := (ys.take k).take d) (i := 0 + k - 0) (by omega) j
    have hnl : (ys.take (0 + k - 0) ++ (ys.take k).take d ++ ys.drop ((0 + k - 0) + ((ys.take k).take d).length)).length = m := by simp; omega
    generalize ys.take (0 + k - 0) ++ (ys.take k).take d ++ ys.drop ((0 + k - 0) + ((ys.take k).take d).length) = ys2 at hH5 hget hnl
    repeat' (first | refine zA ?_ | (refine zM ?_; intro _ _) | (apply Ws <;> intro hg))
    refine Ends.loop (k + d, ys2) (by simp only; omega) (by repeat' (first | exact .nil | refine .cons rfl ?_)) rfl ⟨by simp only; omega, by simp only; omega, hnl, fun j hj => ?_, hH5⟩
    simp only at hj ⊢
    rw [hget, htl]
    split
    · exact ha j (by omega)
    · rw [if_pos (by omega), List.getD_eq_getElem?_getD, List.getElem?_take_of_lt (by omega), List.getElem?_take_of_lt (by omega), ← List.getD_eq_getElem?_getD]
      exact ha _ (by omega)
  have hkn : k = m := by omega
  subst hkn
  repeat' (first | refine zA ?_ | (refine zM ?_; intro _ _) | (apply Ws <;> intro hg))
  exact Ends.ret1 rfl ⟨n, n + 1, ys, rfl, by omega, hH4, hl, ha⟩
end Go.Proofs.Ytmogipomnjihcaa.Eb

namespace Go.Proofs.Ytmogipomnjihcaa.Eb
open Go Go.Abs Go.Low
set_option linter.unusedVariables false
set_option linter.unusedSimpArgs false
attribute [local irreducible] gOK WS WC WR WD Ends FS YS OpV seqK blockK loopK midK retK rdK asgK rangeEnd sat Cell

theorem filter_range_lt (f : Nat → Bool) (k : Nat) : ((List.range k).filter f).Pairwise (· < ·) := List.Pairwise.filter f List.pairwise_lt_range
section
variable {c r : Nat} {ms : List Bool} (hc : 1 ≤ c ∧ c ≤ 6) (hcr : c ≤ r) (hK : ∀ y, ms.getD y false = true → y < r)
include hc hcr hK
end
end Go.Proofs.Ytmogipomnjihcaa.Eb
