/- Texts of the law, joined. -/
import Derived.Test.YtckpocjeikkblaaJ2
import Derived.Test.YtckpocjeikkblaaJ1
namespace Go.Proofs.Ytckpocjeikkblaa.St
open Go Go.Abs Go.Mth
set_option linter.unusedVariables false
set_option linter.unusedSimpArgs false
attribute [local irreducible] gOK WS WC WR WD Ends FS YS OpV seqK blockK loopK midK retK rdK asgK rangeEnd sat Cell

/-- An order fits, in the reference's words. -/
noncomputable def fitR (fs : List (List Int)) (z : List Nat) : Bool := by classical exact decide (∀ i, i < fs.length → RN (bitF (fs.getD i []) (castI z)) (castI z).length = 1)
theorem fitR_iff {fs : List (List Int)} {z : List Nat} : fitR fs z = true ↔ ∀ i, i < fs.length → RN (bitF (fs.getD i []) (castI z)) (castI z).length = 1 := by simp [fitR]

section
variable {M : HL} {n0 : Nat} {H : Heap} {v w : Value} {fs : List (List Int)}
theorem fitting_fs {N : Nat} (hN : 1 ≤ N ∧ N ≤ 7) (hH : hasH M n0 H) (hR : RowsI M v fs) (hl : fs.length ≤ 1000) (hll : ∀ l ∈ fs, l.length ≤ 1000) :
    FS C 72 [.int .i64 (N : Int), v] H (fun e H' => ∃ n' Mx, n0 ≤ n' ∧ RowsI (Mx ++ M) e (((permsL N (List.range N)).filter (fitR fs)).map castI) ∧ hasH (Mx ++ M) n' H') := by
  refine FS.intro (pf := pf72) rfl rfl rfl ?_
  repeat' (first | refine zP ?_ | refine zA ?_ | (refine zM ?_; intro _ _) | refine zX ?_ | (refine zC ?_; intro _ _ _ _) | (refine zS ?_; intro _ _) | (apply Ws <;> intro hg))
  refine WR.call (by first | exact gN | exact gS rfl) rfl rfl (allR_fs hN N (T := []) (bg := []) (by simp) hH (fun q hq => by simp at hq) (.nil 0) (fun _ => rfl) (by have := allR_len hN.2; omega) (by rw [List.filter_eq_self.2 (fun _ _ => by simp)]; simp)) ?_
  rintro v1 H1 ⟨n1, M1, vs, hn1, hV, hvl, hvs, hH1⟩
  have hal := allR_len hN.2
  rw [allR_all] at hvl hvs hal
  generalize hP : permsL N (List.range N) = P at hvl hvs hal
  have hz : ∀ z ∈ P, z.length = N := fun z hz => by rw [← hP] at hz; have := ((mem_perms N _ (by simp)).1 hz).length_eq; simpa using this
  obtain ⟨T, hT⟩ : ∃ T, T = M1 ++ M := ⟨_, rfl⟩
  have hRT : RowsI T v fs := hR.mono fun q hq => by rw [hT]; exact List.mem_append_right _ hq
  have hvT : ∀ i, i < vs.length → Sl T 1 (vs.getD i undef) (ints (castI (P.getD i []))) := fun i hi => (hvs i hi).mono fun q hq => by rw [hT]; rw [List.append_nil] at hq; exact List.mem_append_left _ hq
  rw [← hT] at hV hH1
  clear hH
  repeat' (first | refine zP ?_ | refine zA ?_ | (refine zM ?_; intro _ _) | refine zX ?_ | (refine zC ?_; intro _ _ _ _) | (refine zS ?_; intro _ _) | (apply Ws <;> intro hg))
  refine WC.loopX [(0, _), (1, v), (6, v1)] (fun s : Nat × Value × List Value × HL × Nat => [(7, .int .i64 (s.1 : Int)), (5, s.2.1)]) []
    (fun s H' => s.1 ≤ P.length ∧ n0 ≤ s.2.2.2.2 ∧ Own 25 1 s.2.1 s.2.2.1 s.2.2.2.1 ∧ s.2.2.1.length = ((P.take s.1).filter (fitR fs)).length ∧ (∀ i, i < s.2.2.1.length → Sl T 1 (s.2.2.1.getD i undef) (ints (castI (((P.take s.1).filter (fitR fs)).getD i [])))) ∧ hasH (s.2.2.2.1 ++ T) s.2.2.2.2 H')
    (fun s => P.length - s.1) (0, .slice none 0 0, [], [], n1) (by repeat' (first | exact .nil | refine .cons rfl ?_)) rfl ⟨Nat.zero_le _, hn1, .nil, by simp, fun i hi => absurd hi (Nat.not_lt_zero _), hH1⟩ ?_
  clear hH1
  rintro ⟨k, u, us, Mx, n2⟩ H2 ⟨hk, hn2, hO, hul, hus, hH2⟩
  simp only at hk hn2 hO hul hus hH2
  have hV2 : Sl (Mx ++ T) 1 v1 vs := hV.mono fun q hq => List.mem_append_right _ hq
  have hR2 : RowsI (Mx ++ T) v fs := hRT.mono fun q hq => List.mem_append_right _ hq
  have hfl := List.length_filter_le (fitR fs) (P.take k)
  rw [List.length_take] at hfl
  dsimp only [List.cons_append, List.nil_append]
  repeat' (first | refine zP ?_ | refine zA ?_ | (refine zM ?_; intro _ _) | refine zX ?_ | (refine zC ?_; intro _ _ _ _) | (refine zS ?_; intro _ _) | (apply Ws <;> intro hg))
  refine WC.condP rfl (fun hlt => ?_) (fun hlt => ?_)
  · have hk' : k < P.length := by omega
    have hkv : k < vs.length := by omega
    have hE : Sl (Mx ++ T) 1 (vs.getD k undef) (ints (castI (P.getD k []))) := (hvT k hkv).mono fun q hq => List.mem_append_right _ hq
    have hzl := hz _ (getD_mem (a := []) hk')
    have htk : (P.take (k + 1)).filter (fitR fs) = (P.take k).filter (fitR fs) ++ if fitR fs (P.getD k []) then [P.getD k []] else [] := by
      rw [List.take_add_one, List.filter_append, List.getElem?_eq_getElem hk', getD_eq hk']
      simp only [Option.toList_some, List.filter_cons, List.filter_nil]
    repeat' (first | refine zP ?_ | refine zA ?_ | (refine zM ?_; intro _ _) | refine zX ?_ | (refine zC ?_; intro _ _ _ _) | (refine zS ?_; intro _ _) | (apply Ws <;> intro hg))
    refine WR.call (by first | exact gN | exact gS rfl) rfl rfl (fits_fs hH2 hR2 hl hll hE (by rw [castI_len]; omega)) ?_
    rintro _ _ ⟨b, rfl, rfl, hb⟩
    have hbf : b = fitR fs (P.getD k []) := by rw [Bool.eq_iff_iff, hb, fitR_iff]
    clear hb
    subst hbf
    cases hfit : fitR fs (P.getD k []) with
    | false =>
      rw [hfit] at htk
      simp only [Bool.false_eq_true, if_false, List.append_nil] at htk
      repeat' (first | refine zP ?_ | refine zA ?_ | (refine zM ?_; intro _ _) | refine zX ?_ | (refine zC ?_; intro _ _ _ _) | (refine zS ?_; intro _ _) | refine zO ?_ | (apply Ws <;> intro hg))
      exact Ends.loop (k + 1, u, us, Mx, n2) (by simp only; omega) (by repeat' (first | exact .nil | refine .cons rfl ?_)) rfl ⟨hk', hn2, hO, by simp only; rw [htk]; exact hul, by simp only; rw [htk]; exact hus, hH2⟩
    | true =>
      rw [hfit] at htk
      simp only [if_true] at htk
      repeat' (first | refine zP ?_ | refine zA ?_ | (refine zM ?_; intro _ _) | refine zX ?_ | (refine zC ?_; intro _ _ _ _) | (refine zS ?_; intro _ _) | refine zO ?_ | (apply Ws <;> intro hg))
      obtain ⟨ad, len, cap, hsl⟩ : ∃ ad len cap, vs.getD k undef = .slice ad len cap := by
        generalize ints (castI (P.getD k [])) = cs at hE
        generalize vs.getD k undef = q at hE
        cases hE <;> exact ⟨_, _, _, rfl⟩
      have hEk := hvT k hkv
      rw [hsl] at hEk ⊢
      refine WR.append1F [] Mx T rfl rfl rfl rfl hO hH2 (new := [.slice ad len cap]) (by rfl) rfl rfl (by decide) (by decide) (by rw [hul]; simp only [List.length_cons, List.length_nil]; omega) fun v7 M7 n7 H7 hO7 hH7 hn7 => ?_
      repeat' (first | refine zP ?_ | refine zA ?_ | (refine zM ?_; intro _ _) | refine zX ?_ | (refine zC ?_; intro _ _ _ _) | (refine zS ?_; intro _ _) | (apply Ws <;> intro hg))
      refine Ends.loop (k + 1, v7, us ++ [.slice ad len cap], M7, n7) (by simp only; omega) (by repeat' (first | exact .nil | refine .cons rfl ?_)) rfl ⟨hk', by simp only; omega, hO7, by simp only; rw [htk]; simp [hul], fun i hi => ?_, hH7⟩
      simp only at hi ⊢
      rw [htk]
      rcases Nat.lt_or_ge i us.length with h2 | h2
      · rw [getD_app_l h2, getD_app_l (by rw [← hul]; exact h2)]; exact hus i h2
      · have h3 : i = us.length := by rw [List.length_append, List.length_singleton] at hi; omega
        subst h3
        rw [getD_right (Nat.le_refl _), getD_right (by rw [hul]; exact Nat.le_refl _), ← hul, Nat.sub_self]
        exact hEk
  · have hkl : k = P.length := by omega
    subst hkl
    rw [List.take_length] at hul hus
    repeat' (first | refine zP ?_ | refine zA ?_ | (refine zM ?_; intro _ _) | refine zX ?_ | (refine zC ?_; intro _ _ _ _) | (refine zS ?_; intro _ _) | (apply Ws <;> intro hg))
    refine Ends.ret1 rfl ⟨n2, Mx ++ M1, hn2, ?_, by rw [List.append_assoc, ← hT]; exact hH2⟩
    rw [List.append_assoc, ← hT]
    refine ⟨us, hO.sl T, by rw [List.length_map]; exact hul, fun i hi => ?_⟩
    rw [List.length_map] at hi
    rw [getD_castI hi]
    exact (hus i (by rw [hul]; exact hi)).mono fun q hq => List.mem_append_right _ hq
end
end Go.Proofs.Ytckpocjeikkblaa.St

namespace Go.Proofs.Ytckpocjeikkblaa.St
open Go Go.Abs Go.Mth
set_option linter.unusedVariables false
set_option linter.unusedSimpArgs false

theorem both_perm {n : Int} {N : Nat} {fs : List (List Int)} {z : List Nat} (hf0 : findsE n fs = 0) (hn : n = N) (h : z ∈ permsL N (List.range N)) : bothE n fs (castI z) = 0 := by
  subst hn
  have hp := (mem_perms N _ (by simp)).1 h
  have hl : z.length = N := by rw [hp.length_eq]; simp
  have hnd : z.Nodup := hp.nodup_iff.2 List.nodup_range
  rw [bothE, if_neg (by rw [hf0]; simp), if_neg (by rw [castI_len, hl]; simp)]
  refine firstE_zero.2 fun i hi => ?_
  rw [castI_len] at hi
  have hg : (castI z).getD i 0 = (z[i] : Int) := by
    rw [getD_eq (by rw [castI_len]; exact hi)]; simp [castI]
  have hlt : z[i] < N := List.mem_range.1 (hp.mem_iff.1 (List.getElem_mem hi))
  unfold orderAt
  rw [hg, if_neg (by omega), if_neg]
  intro hm
  have hm2 : (z[i] : Int) ∈ castI (z.take i) := by simpa [castI, List.map_take] using hm
  obtain ⟨y, hy, he⟩ := List.mem_map.1 hm2
  have hyz : z[i] ∈ z.take i := by rw [← Int.ofNat.inj he]; exact hy
  obtain ⟨j, hj, hje⟩ := List.mem_iff_getElem.1 hyz
  rw [List.length_take] at hj
  rw [List.getElem_take] at hje
  have := (List.getElem_inj hnd).1 hje
  omega
theorem fit_same {n : Int} {N : Nat} {fs : List (List Int)} {z : List Nat} (hf0 : findsE n fs = 0) (hn : n = N) (h : z ∈ permsL N (List.range N)) : fitB fs z = fitR fs z := by
  have hb := both_perm hf0 hn h
  rw [Bool.eq_iff_iff, fitR_iff, fitB, decide_eq_true_eq, gsum_same hb _ (Nat.le_refl _)]
  exact (gsumF_zero hb _ (Nat.le_refl _)).2
theorem fitL_same {N : Nat} {fs : List (List Int)} (hf0 : findsE (N : Int) fs = 0) : (permsL N (List.range N)).filter (fitR fs) = fitL N fs :=
  List.filter_congr fun z hz => (fit_same hf0 rfl hz).symm
attribute [local irreducible] gOK WS WC WR WD Ends FS YS OpV seqK blockK loopK midK retK rdK asgK rangeEnd sat Cell

section
variable {M : HL} {n0 : Nat} {H : Heap} {v w : Value} {fs : List (List Int)}
theorem CountR_fs (hH : hasH M n0 H) (hR : RowsI M v fs) (hl : fs.length ≤ 1000) (hll : ∀ l ∈ fs, l.length ≤ 1000) (n : Int) :
    FS C 28 [.agg #[.int .i64 n, v]] H (fun e H' => e = .tuple #[.int .i64 ((if findsE n fs = 0 then (fitL n.toNat fs).length else 0 : Nat) : Int), .int .i64 (findsE n fs)] ∧ ∃ n', n0 ≤ n' ∧ hasH M n' H') := by
  have h1 := hR.one_
  refine FS.intro (pf := pf28) rfl rfl rfl ?_
  repeat' (first | refine zP ?_ | refine zA ?_ | (refine zM ?_; intro _ _) | refine zX ?_ | (refine zC ?_; intro _ _ _ _) | (refine zS ?_; intro _ _))
  rename_i H1 hH1
  have hR1 : RowsI ((n0, .row 28 0 0 [.int .i64 n, v]) :: M) v fs := hR.cons
  have hm1 : (n0, Ch.row 28 0 0 [.int .i64 n, v]) ∈ (n0, Ch.row 28 0 0 [.int .i64 n, v]) :: M := .head _
  have hback : ∀ {n' : Nat} {H' : Heap}, hasH ((n0, Ch.row 28 0 0 [.int .i64 n, v]) :: M) n' H' → hasH M n' H' := fun h => h.tail
  generalize (n0, Ch.row 28 0 0 [.int .i64 n, v]) :: M = T at hH1 hR1 hm1 hback
  refine WR.call (by first | exact gN | exact gS rfl) rfl rfl (CheckR_fs hH1 hR1 hl hll n) ?_
  rintro _ H2 ⟨rfl, n2, hn2, hH2⟩
  clear hH1
  repeat' (first | refine zP ?_ | refine zA ?_ | (refine zM ?_; intro _ _) | refine zX ?_ | (refine zC ?_; intro _ _ _ _) | (refine zS ?_; intro _ _) | (apply Ws <;> intro hg))
  refine WC.condP rfl (fun hne => ?_) (fun hne => ?_)
  · repeat' (first | refine zP ?_ | refine zA ?_ | (refine zM ?_; intro _ _) | refine zX ?_ | (refine zC ?_; intro _ _ _ _) | (refine zS ?_; intro _ _) | (apply Ws <;> intro hg))
    exact Ends.ret2 rfl rfl ⟨by rw [if_neg hne]; rfl, n2, by omega, hback hH2⟩
  have hf0 : findsE n fs = 0 := Decidable.not_not.1 hne
  obtain ⟨hn1, hn7, _⟩ := finds_ok hf0
  obtain ⟨N, rfl⟩ : ∃ N : Nat, n = N := ⟨n.toNat, by omega⟩
  repeat' (first | refine zP ?_ | refine zA ?_ | (refine zM ?_; intro _ _) | refine zX ?_ | (refine zC ?_; intro _ _ _ _) | (refine zS ?_; intro _ _) | (apply Ws <;> intro hg))
  refine WR.call (by first | exact gN | exact gS rfl) rfl rfl (fitting_fs (N := N) (by omega) hH2 hR1 hl hll) ?_
  rintro v3 H3 ⟨n3, Mx, hn3, ⟨us, hU, hul, hus⟩, hH3⟩
  rw [fitL_same hf0, List.length_map] at hul
  repeat' (first | refine zP ?_ | refine zA ?_ | (refine zM ?_; intro _ _) | refine zX ?_ | (refine zC ?_; intro _ _ _ _) | (refine zS ?_; intro _ _) | (apply Ws <;> intro hg))
  exact Ends.ret2 rfl rfl ⟨by rw [if_pos hf0, hf0, hul]; rfl, n3, by omega, hback (hH3.sub (List.sublist_append_right _ _))⟩
end
end Go.Proofs.Ytckpocjeikkblaa.St

namespace Go.Proofs.Ytckpocjeikkblaa.St
open Go Go.Abs Go.Mth
set_option linter.unusedVariables false
set_option linter.unusedSimpArgs false
attribute [local irreducible] gOK WS WC WR WD Ends FS YS OpV seqK blockK loopK midK retK rdK asgK rangeEnd sat Cell

section
variable {M : HL} {n0 : Nat} {H : Heap} {v w : Value} {fs : List (List Int)}
theorem FirstR_fs (hH : hasH M n0 H) (hR : RowsI M v fs) (hl : fs.length ≤ 1000) (hll : ∀ l ∈ fs, l.length ≤ 1000) (n : Int) :
    FS C 26 [.agg #[.int .i64 n, v]] H (fun e H' => ∃ n' Mx v', e = .tuple #[v', .int .i64 (firstC n fs)] ∧ n0 ≤ n' ∧ Sl (Mx ++ M) 1 v' (ints (firstO n fs)) ∧ hasH (Mx ++ M) n' H') := by
  have h1 := hR.one_
  refine FS.intro (pf := pf26) rfl rfl rfl ?_
  repeat' (first | refine zP ?_ | refine zA ?_ | (refine zM ?_; intro _ _) | refine zX ?_ | (refine zC ?_; intro _ _ _ _) | (refine zS ?_; intro _ _))
  rename_i H1 hH1
  have hR1 : RowsI ((n0, .row 28 0 0 [.int .i64 n, v]) :: M) v fs := hR.cons
  have hm1 : (n0, Ch.row 28 0 0 [.int .i64 n, v]) ∈ (n0, Ch.row 28 0 0 [.int .i64 n, v]) :: M := .head _
  obtain ⟨T, hT⟩ : ∃ T, T = (n0, Ch.row 28 0 0 [.int .i64 n, v]) :: M := ⟨_, rfl⟩
  rw [← hT] at hH1 hR1 hm1
  have hback : ∀ {n' : Nat} {H' : Heap} {A : HL}, hasH (A ++ T) n' H' → hasH ((A ++ [(n0, Ch.row 28 0 0 [.int .i64 n, v])]) ++ M) n' H' := fun h => by rw [List.append_assoc]; rw [hT] at h; exact h
  have hsl : ∀ {A : HL} {x : Value} {cs : List Value}, Sl (A ++ T) 1 x cs → Sl ((A ++ [(n0, Ch.row 28 0 0 [.int .i64 n, v])]) ++ M) 1 x cs := fun h => by rw [List.append_assoc]; rw [hT] at h; exact h
  generalize hA1 : [(n0, Ch.row 28 0 0 [.int .i64 n, v])] = A1 at hback hsl
  refine WR.call (by first | exact gN | exact gS rfl) rfl rfl (CheckR_fs hH1 hR1 hl hll n) ?_
  rintro _ H2 ⟨rfl, n2, hn2, hH2⟩
  clear hH1
  repeat' (first | refine zP ?_ | refine zA ?_ | (refine zM ?_; intro _ _) | refine zX ?_ | (refine zC ?_; intro _ _ _ _) | (refine zS ?_; intro _ _) | (apply Ws <;> intro hg))
  refine WC.condP rfl (fun hne => ?_) (fun hne => ?_)
  · repeat' (first | refine zP ?_ | refine zA ?_ | (refine zM ?_; intro _ _) | refine zX ?_ | (refine zC ?_; intro _ _ _ _) | (refine zS ?_; intro _ _) | (apply Ws <;> intro hg))
    exact Ends.ret2 rfl rfl ⟨n2, A1, _, by rw [firstC, if_neg hne], by omega, by rw [firstO, if_neg hne]; exact hsl (A := []) (.nil 0), hback (A := []) hH2⟩
  have hf0 : findsE n fs = 0 := Decidable.not_not.1 hne
  obtain ⟨hn1, hn7, _⟩ := finds_ok hf0
  obtain ⟨N, rfl⟩ : ∃ N : Nat, n = N := ⟨n.toNat, by omega⟩
  repeat' (first | refine zP ?_ | refine zA ?_ | (refine zM ?_; intro _ _) | refine zX ?_ | (refine zC ?_; intro _ _ _ _) | (refine zS ?_; intro _ _) | (apply Ws <;> intro hg))
  refine WR.call (by first | exact gN | exact gS rfl) rfl rfl (fitting_fs (N := N) (by omega) hH2 hR1 hl hll) ?_
  rintro v3 H3 ⟨n3, Mx, hn3, ⟨us, hU, hul, hus⟩, hH3⟩
  rw [fitL_same hf0] at hul hus
  rw [List.length_map] at hul
  clear hH2
  repeat' (first | refine zP ?_ | refine zA ?_ | (refine zM ?_; intro _ _) | refine zX ?_ | (refine zC ?_; intro _ _ _ _) | (refine zS ?_; intro _ _) | (apply Ws <;> intro hg))
  refine WC.condP rfl (fun hz0 => ?_) (fun hz0 => ?_)
  · have hd0 : fitL N fs = [] := List.length_eq_zero_iff.1 (by omega)
    repeat' (first | refine zP ?_ | refine zA ?_ | (refine zM ?_; intro _ _) | refine zX ?_ | (refine zC ?_; intro _ _ _ _) | (refine zS ?_; intro _ _) | (apply Ws <;> intro hg))
    exact Ends.ret2 rfl rfl ⟨n3, Mx ++ A1, _, by rw [firstC, if_pos hf0, if_pos (by exact hd0)], by omega, by rw [firstO, if_pos hf0, show fitL (N : Int).toNat fs = [] from hd0]; exact hsl (A := Mx) (.nil 0), hback (A := Mx) hH3⟩
  · have hd1 : 0 < us.length := by omega
    obtain ⟨z, zs, hzs⟩ : ∃ z zs, fitL N fs = z :: zs := by
      cases h : fitL N fs with
      | nil => rw [h, List.length_nil] at hul; omega
      | cons z zs => exact ⟨z, zs, rfl⟩
    have h0 := hus 0 (by rw [List.length_map, hzs]; simp)
    rw [hzs] at h0
    repeat' (first | refine zP ?_ | refine zA ?_ | (refine zM ?_; intro _ _) | refine zX ?_ | (refine zC ?_; intro _ _ _ _) | (refine zS ?_; intro _ _) | (apply Ws <;> intro hg))
    exact Ends.ret2 rfl rfl ⟨n3, Mx ++ A1, _, by rw [firstC, if_pos hf0, if_neg (by rw [show fitL (N : Int).toNat fs = z :: zs from hzs]; simp)], by omega, by rw [firstO, if_pos hf0, show fitL (N : Int).toNat fs = z :: zs from hzs]; exact hsl (A := Mx) h0, hback (A := Mx) hH3⟩
end
end Go.Proofs.Ytckpocjeikkblaa.St

namespace Go.Proofs.Ytckpocjeikkblaa.St
open Go Go.Abs Go.Mth
set_option linter.unusedVariables false
set_option linter.unusedSimpArgs false
attribute [local irreducible] gOK WS WC WR WD Ends FS YS OpV seqK blockK loopK midK retK rdK asgK rangeEnd sat Cell

theorem castI_getD {z : List Nat} {i : Nat} (h : i < z.length) : (castI z).getD i 0 = ((z.getD i 0 : Nat) : Int) := by
  rw [getD_eq (by rw [castI_len]; exact h), getD_eq h]; simp [castI]

theorem adj_mono (z : List Nat) (a c k : Nat) : ∀ d, adj z a c k ≤ adj z a c (k + d)
  | 0 => Nat.le_refl _
  | d + 1 => by have := adj_mono z a c k d; rw [← Nat.add_assoc, adj]; omega

section
variable {M : HL} {n0 : Nat} {H : Heap} {v w : Value}
theorem next_fs (hH : hasH M n0 H) {z : List Nat} (hS : Sl M 1 v (ints (castI z))) (hz : 1 ≤ z.length ∧ z.length ≤ 7) (a c : Nat) :
    FS C 75 [v, .int .i64 (a : Int), .int .i64 (c : Int)] H (fun e H' => e = .bool (decide (adj z a c (z.length - 1) ≠ 0)) ∧ H' = H) := by
  have hcl := castI_len z
  refine FS.intro (pf := pf75) rfl rfl rfl ?_
  repeat' (first | refine zP ?_ | refine zA ?_ | (refine zM ?_; intro _ _) | refine zX ?_ | (refine zC ?_; intro _ _ _ _) | (refine zS ?_; intro _ _) | (apply Ws <;> intro hg))
  refine WC.loopX [(0, _), (1, _), (2, _)] (fun k : Nat => [(7, .int .i64 (k : Int))]) [] (fun k H' => H' = H ∧ k + 1 ≤ z.length ∧ adj z a c k = 0) (fun k => z.length - k) 0 (by repeat' (first | exact .nil | refine .cons rfl ?_)) rfl ⟨rfl, hz.1, rfl⟩ ?_
  rintro k HA ⟨rfl, hk, hno⟩
  dsimp only [List.cons_append, List.nil_append]
  repeat' (first | refine zP ?_ | refine zA ?_ | (refine zM ?_; intro _ _) | refine zX ?_ | (refine zC ?_; intro _ _ _ _) | (refine zS ?_; intro _ _) | (apply Ws <;> intro hg))
  refine WC.condP rfl (fun hlt => ?_) (fun hlt => ?_)
  · have hk' : k + 1 < z.length := by omega
    have e1 := castI_getD (z := z) (i := k) (by omega)
    have e2 := castI_getD (z := z) (i := k + 1) hk'
    have e3 : (castI z).getD ((k : Int) + 1).toNat 0 = ((z.getD (k + 1) 0 : Nat) : Int) := by rw [show ((k : Int) + 1).toNat = k + 1 by omega]; exact e2
    have hm := adj_mono z a c (k + 1) (z.length - 1 - (k + 1))
    rw [show k + 1 + (z.length - 1 - (k + 1)) = z.length - 1 by omega] at hm
    by_cases hq : (z.getD k 0 = a ∧ z.getD (k + 1) 0 = c) ∨ (z.getD k 0 = c ∧ z.getD (k + 1) 0 = a)
    · have hA : adj z a c (k + 1) = 1 := by rw [adj, if_pos hq, hno]
      have hT : decide (adj z a c (z.length - 1) ≠ 0) = true := by rw [decide_eq_true_eq]; omega
      rw [hT]
      repeat' (first | refine zP ?_ | refine zA ?_ | (refine zM ?_; intro _ _) | refine zX ?_ | (refine zC ?_; intro _ _ _ _) | (refine zS ?_; intro _ _) | refine zO ?_ | (apply Ws <;> intro hg))
      all_goals first
        | exact Ends.ret1 rfl ⟨rfl, rfl⟩
        | (exfalso; omega)
    · have hA : adj z a c (k + 1) = 0 := by rw [adj, if_neg hq, hno]
      repeat' (first | refine zP ?_ | refine zA ?_ | (refine zM ?_; intro _ _) | refine zX ?_ | (refine zC ?_; intro _ _ _ _) | (refine zS ?_; intro _ _) | refine zO ?_ | (apply Ws <;> intro hg))
      all_goals first
        | (exfalso; omega)
        | exact Ends.loop (k + 1) (by omega) (by repeat' (first | exact .nil | refine .cons rfl ?_)) rfl ⟨rfl, by omega, hA⟩
  · have hkl : k = z.length - 1 := by omega
    subst hkl
    repeat' (first | refine zP ?_ | refine zA ?_ | (refine zM ?_; intro _ _) | refine zX ?_ | (refine zC ?_; intro _ _ _ _) | (refine zS ?_; intro _ _) | (apply Ws <;> intro hg))
    exact Ends.ret1 rfl ⟨by rw [hno]; rfl, rfl⟩
end
end Go.Proofs.Ytckpocjeikkblaa.St

namespace Go.Proofs.Ytckpocjeikkblaa.St
open Go Go.Abs Go.Mth
set_option linter.unusedVariables false
set_option linter.unusedSimpArgs false

/-- Two are next to one another at one place at most. -/
theorem adj_one {z : List Nat} {N a c : Nat} (hd : ∀ i j, i < N → j < N → z.getD i 0 = z.getD j 0 → i = j) :
    ∀ k, k + 1 ≤ N → adj z a c k ≤ 1 ∧ (adj z a c k ≠ 0 → ∃ i, i < k ∧ (z.getD i 0 = a ∨ z.getD i 0 = c))
  | 0, _ => ⟨by simp [adj], fun h => absurd rfl h⟩
  | k + 1, hk => by
    obtain ⟨h1, h2⟩ := adj_one hd k (by omega)
    rw [adj]
    by_cases hq : (z.getD k 0 = a ∧ z.getD (k + 1) 0 = c) ∨ (z.getD k 0 = c ∧ z.getD (k + 1) 0 = a)
    · rw [if_pos hq]
      by_cases h0 : adj z a c k = 0
      · exact ⟨by omega, fun _ => ⟨k, by omega, by omega⟩⟩
      · obtain ⟨i, hi, h3⟩ := h2 h0
        have e1 := hd i k (by omega) (by omega)
        have e2 := hd i (k + 1) (by omega) (by omega)
        omega
    · rw [if_neg hq, Nat.add_zero]
      exact ⟨h1, fun h => by obtain ⟨i, hi, h3⟩ := h2 h; exact ⟨i, by omega, h3⟩⟩

theorem adjS_all {N a c : Nat} : ∀ {zs : List (List Nat)}, (∀ z ∈ zs, adj z a c (N - 1) ≤ 1) → adjS N a c zs ≤ zs.length ∧ (adjS N a c zs = zs.length ↔ ∀ z ∈ zs, adj z a c (N - 1) ≠ 0)
  | [], _ => ⟨Nat.le_refl _, by simp [adjS]⟩
  | z :: zs, h => by
    obtain ⟨h1, h2⟩ := adjS_all fun y hy => h y (.tail _ hy)
    have h3 := h z (.head _)
    rw [adjS, List.length_cons]
    refine ⟨by omega, ⟨fun h4 y hy => ?_, fun h4 => ?_⟩⟩
    · rcases List.mem_cons.1 hy with rfl | hy
      · omega
      · exact h2.1 (by omega) y hy
    · have h5 := h4 z (.head _)
      have h6 := h2.2 fun y hy => h4 y (.tail _ hy)
      omega

theorem adj_perm {N a c : Nat} {z : List Nat} (hN : 1 ≤ N) (h : z ∈ permsL N (List.range N)) : adj z a c (N - 1) ≤ 1 := by
  have hp := (mem_perms N _ (by simp)).1 h
  have hl : z.length = N := by rw [hp.length_eq]; simp
  have hnd : z.Nodup := hp.nodup_iff.2 List.nodup_range
  exact (adj_one (N := N) (fun i j hi hj he => by
    rw [getD_eq (by omega), getD_eq (by omega)] at he
    exact (List.getElem_inj hnd).1 he) (N - 1) (by omega)).1
end Go.Proofs.Ytckpocjeikkblaa.St

namespace Go.Proofs.Ytckpocjeikkblaa.St
open Go Go.Abs Go.Mth
set_option linter.unusedVariables false
set_option linter.unusedSimpArgs false
attribute [local irreducible] gOK WS WC WR WD Ends FS YS OpV seqK blockK loopK midK retK rdK asgK rangeEnd sat Cell

section
variable {M : HL} {n0 : Nat} {H : Heap} {v w : Value} {fs : List (List Int)}
theorem BesideR_fs (hH : hasH M n0 H) (hR : RowsI M v fs) (hl : fs.length ≤ 1000) (hll : ∀ l ∈ fs, l.length ≤ 1000) (n : Int) :
    FS C 30 [.agg #[.int .i64 n, v]] H (fun e H' => ∃ n' Mx v', e = .tuple #[v', .int .i64 (firstC n fs)] ∧ n0 ≤ n' ∧ Sl (Mx ++ M) 2 v' (pcells (besideL n fs)) ∧ hasH (Mx ++ M) n' H') := by
  have h1 := hR.one_
  refine FS.intro (pf := pf30) rfl rfl rfl ?_
  repeat' (first | refine zP ?_ | refine zA ?_ | (refine zM ?_; intro _ _) | refine zX ?_ | (refine zC ?_; intro _ _ _ _) | (refine zS ?_; intro _ _))
  rename_i H1 hH1
  have hR1 : RowsI ((n0, .row 28 0 0 [.int .i64 n, v]) :: M) v fs := hR.cons
  have hm1 : (n0, Ch.row 28 0 0 [.int .i64 n, v]) ∈ (n0, Ch.row 28 0 0 [.int .i64 n, v]) :: M := .head _
  obtain ⟨T, hT⟩ : ∃ T, T = (n0, Ch.row 28 0 0 [.int .i64 n, v]) :: M := ⟨_, rfl⟩
  rw [← hT] at hH1 hR1 hm1
  have hback : ∀ {n' : Nat} {H' : Heap} {A : HL}, hasH (A ++ T) n' H' → hasH ((A ++ [(n0, Ch.row 28 0 0 [.int .i64 n, v])]) ++ M) n' H' := fun h => by rw [List.append_assoc]; rw [hT] at h; exact h
  have hsl : ∀ {A : HL} {x : Value} {cs : List Value}, Sl (A ++ T) 2 x cs → Sl ((A ++ [(n0, Ch.row 28 0 0 [.int .i64 n, v])]) ++ M) 2 x cs := fun h => by rw [List.append_assoc]; rw [hT] at h; exact h
  generalize hA1 : [(n0, Ch.row 28 0 0 [.int .i64 n, v])] = A1 at hback hsl
  refine WR.call (by first | exact gN | exact gS rfl) rfl rfl (CheckR_fs hH1 hR1 hl hll n) ?_
  rintro _ H2 ⟨rfl, n2, hn2, hH2⟩
  clear hH1
  repeat' (first | refine zP ?_ | refine zA ?_ | (refine zM ?_; intro _ _) | refine zX ?_ | (refine zC ?_; intro _ _ _ _) | (refine zS ?_; intro _ _) | (apply Ws <;> intro hg))
  refine WC.condP rfl (fun hne => ?_) (fun hne => ?_)
  · repeat' (first | refine zP ?_ | refine zA ?_ | (refine zM ?_; intro _ _) | refine zX ?_ | (refine zC ?_; intro _ _ _ _) | (refine zS ?_; intro _ _) | (apply Ws <;> intro hg))
    exact Ends.ret2 rfl rfl ⟨n2, A1, _, by rw [firstC, if_neg hne], by omega, by rw [besideL, if_neg hne]; exact hsl (A := []) (.nil 0), hback (A := []) hH2⟩
  have hf0 : findsE n fs = 0 := Decidable.not_not.1 hne
  obtain ⟨hn1, hn7, _⟩ := finds_ok hf0
  obtain ⟨N, rfl⟩ : ∃ N : Nat, n = N := ⟨n.toNat, by omega⟩
  repeat' (first | refine zP ?_ | refine zA ?_ | (refine zM ?_; intro _ _) | refine zX ?_ | (refine zC ?_; intro _ _ _ _) | (refine zS ?_; intro _ _) | (apply Ws <;> intro hg))
  refine WR.call (by first | exact gN | exact gS rfl) rfl rfl (fitting_fs (N := N) (by omega) hH2 hR1 hl hll) ?_
  rintro v3 H3 ⟨n3, M3, hn3, ⟨us, hU, hul, hus⟩, hH3⟩
  rw [fitL_same hf0] at hul hus
  rw [List.length_map] at hul
  have hFp : ∀ z ∈ fitL N fs, z ∈ permsL N (List.range N) := fun z hz => (List.mem_filter.1 hz).1
  have hFl := fitL_len (N := N) (fs := fs) (by omega)
  obtain ⟨F, hF⟩ : ∃ F, F = fitL N fs := ⟨_, rfl⟩
  rw [← hF] at hul hus hFp hFl
  have hF2 : fitL (N : Int).toNat fs = F := hF.symm
  clear hH2
  repeat' (first | refine zP ?_ | refine zA ?_ | (refine zM ?_; intro _ _) | refine zX ?_ | (refine zC ?_; intro _ _ _ _) | (refine zS ?_; intro _ _) | (apply Ws <;> intro hg))
  refine WC.condP rfl (fun hz0 => ?_) (fun hz0 => ?_)
  · have hd0 : F = [] := List.length_eq_zero_iff.1 (by omega)
    repeat' (first | refine zP ?_ | refine zA ?_ | (refine zM ?_; intro _ _) | refine zX ?_ | (refine zC ?_; intro _ _ _ _) | (refine zS ?_; intro _ _) | (apply Ws <;> intro hg))
    exact Ends.ret2 rfl rfl ⟨n3, M3 ++ A1, _, by rw [firstC, if_pos hf0, hF2, if_pos hd0], by omega, by rw [besideL, if_pos hf0, hF2, if_pos hd0]; exact hsl (A := M3) (.nil 0), hback (A := M3) hH3⟩
  have hd0 : F ≠ [] := fun h => hz0 (by rw [hul, h]; rfl)
  obtain ⟨p, hp⟩ : ∃ p : Nat → Nat → Bool, p = fun a c => decide (adjS N a c F = F.length) := ⟨_, rfl⟩
  have hpa : ∀ a c, p a c = true ↔ ∀ z ∈ F, adj z a c (N - 1) ≠ 0 := fun a c => by
    rw [hp]; simp only [decide_eq_true_eq]
    exact (adjS_all fun z hz => adj_perm (by omega) (hFp z hz)).2
  have hbs : besideL (N : Int) fs = prows p N N := by rw [besideL, if_pos hf0, hF2, if_neg hd0, hp]; rfl
  obtain ⟨T3, hT3⟩ : ∃ T3, T3 = M3 ++ T := ⟨_, rfl⟩
  rw [← hT3] at hH3 hU hus
  have hm3 : (n0, Ch.row 28 0 0 [.int .i64 (N : Int), v]) ∈ T3 := by rw [hT3]; exact List.mem_append_right _ hm1
  repeat' (first | refine zP ?_ | refine zA ?_ | (refine zM ?_; intro _ _) | refine zX ?_ | (refine zC ?_; intro _ _ _ _) | (refine zS ?_; intro _ _) | (apply Ws <;> intro hg))
  refine WC.loopX [(1, .pointer (some ⟨n0, 0, some 0⟩)), (5, v3)] (fun s : Nat × Value × HL × Nat => [(7, .int .i64 (s.1 : Int)), (6, s.2.1)]) []
    (fun s H' => s.1 ≤ N ∧ n3 ≤ s.2.2.2 ∧ Own 70 2 s.2.1 (pcells (prows p N s.1)) s.2.2.1 ∧ hasH (s.2.2.1 ++ T3) s.2.2.2 H') (fun s => N - s.1) (0, .slice none 0 0, [], n3) (by repeat' (first | exact .nil | refine .cons rfl ?_)) rfl ⟨Nat.zero_le _, Nat.le_refl _, .nil, hH3⟩ ?_
  clear hH3
  rintro ⟨k, u, Mx, n4⟩ H4 ⟨hk, hn4, hO, hH4⟩
  simp only at hk hn4 hO hH4
  have hm4 : (n0, Ch.row 28 0 0 [.int .i64 (N : Int), v]) ∈ Mx ++ T3 := List.mem_append_right _ hm3
  dsimp only [List.cons_append, List.nil_append]
  repeat' (first | refine zP ?_ | refine zA ?_ | (refine zM ?_; intro _ _) | refine zX ?_ | (refine zC ?_; intro _ _ _ _) | (refine zS ?_; intro _ _) | (apply Ws <;> intro hg))
  refine WC.condP rfl (fun hlt => ?_) (fun hlt => ?_)
  · have hk' : k < N := by omega
    repeat' (first | refine zP ?_ | refine zA ?_ | (refine zM ?_; intro _ _) | refine zX ?_ | (refine zC ?_; intro _ _ _ _) | (refine zS ?_; intro _ _) | (apply Ws <;> intro hg))
    refine WC.loopX [(1, .pointer (some ⟨n0, 0, some 0⟩)), (5, v3), (7, .int .i64 (k : Int))] (fun s : Nat × Value × HL × Nat => [(8, .int .i64 ((k + 1 + s.1 : Nat) : Int)), (6, s.2.1)]) []
      (fun s H' => s.1 ≤ N - (k + 1) ∧ n3 ≤ s.2.2.2 ∧ Own 70 2 s.2.1 (pcells (prows p N k ++ prow p k s.1)) s.2.2.1 ∧ hasH (s.2.2.1 ++ T3) s.2.2.2 H') (fun s => N - s.1) (0, u, Mx, n4) (by repeat' (first | exact .nil | refine .cons rfl ?_)) rfl ⟨Nat.zero_le _, hn4, by simpa [prow] using hO, hH4⟩ ?_
    clear hH4 hO hn4 hm4
    rintro ⟨j, u, Mx, n4⟩ H4 ⟨hj, hn4, hO, hH4⟩
    simp only at hj hn4 hO hH4
    have hm4 : (n0, Ch.row 28 0 0 [.int .i64 (N : Int), v]) ∈ Mx ++ T3 := List.mem_append_right _ hm3
    have hl1 := prows_len p N k
    have hl2 := prow_len p k j
    have hl3 : N * k ≤ 7 * 7 := Nat.mul_le_mul (by omega) (by omega)
    dsimp only [List.cons_append, List.nil_append]
    repeat' (first | refine zP ?_ | refine zA ?_ | (refine zM ?_; intro _ _) | refine zX ?_ | (refine zC ?_; intro _ _ _ _) | (refine zS ?_; intro _ _) | (apply Ws <;> intro hg))
    refine WC.condP rfl (fun hlt2 => ?_) (fun hlt2 => ?_)
    · have hj' : j < N - (k + 1) := by omega
      have hU4 : Sl (Mx ++ T3) 1 v3 us := hU.mono fun q hq => List.mem_append_right _ hq
      repeat' (first | refine zP ?_ | refine zA ?_ | (refine zM ?_; intro _ _) | refine zX ?_ | (refine zC ?_; intro _ _ _ _) | (refine zS ?_; intro _ _) | (apply Ws <;> intro hg))
      refine WC.loopX [(1, .pointer (some ⟨n0, 0, some 0⟩)), (5, v3), (7, .int .i64 (k : Int)), (8, .int .i64 ((k + 1 + j : Nat) : Int)), (6, u)] (fun s : Nat × Bool => [(10, .int .i64 (s.1 : Int)), (9, .bool s.2)]) []
        (fun s H' => s.1 ≤ F.length ∧ hasH (Mx ++ T3) n4 H' ∧ (s.2 = true ↔ ∀ i, i < s.1 → adj (F.getD i []) k (k + 1 + j) (N - 1) ≠ 0)) (fun s => F.length - s.1) (0, true) (by repeat' (first | exact .nil | refine .cons rfl ?_)) rfl ⟨Nat.zero_le _, hH4, ⟨fun _ i hi => absurd hi (Nat.not_lt_zero _), fun _ => rfl⟩⟩ ?_
      clear hH4
      rintro ⟨i, b⟩ H5 ⟨hi, hH5, hb⟩
      simp only at hi hH5 hb
      dsimp only [List.cons_append, List.nil_append]
      repeat' (first | refine zP ?_ | refine zA ?_ | (refine zM ?_; intro _ _) | refine zX ?_ | (refine zC ?_; intro _ _ _ _) | (refine zS ?_; intro _ _) | (apply Ws <;> intro hg))
      refine WC.condP rfl (fun hlt3 => ?_) (fun hlt3 => ?_)
      · have hi' : i < F.length := by omega
        have hiu : i < us.length := by omega
        have hz := perm_facts (hFp _ (getD_mem (a := []) hi')) (by omega)
        have hE : Sl (Mx ++ T3) 1 (us.getD i undef) (ints (castI (F.getD i []))) := by
          have := hus i (by rw [List.length_map]; exact hi')
          rw [getD_castI hi'] at this
          exact this.mono fun q hq => List.mem_append_right _ hq
        have hstep : (∀ i', i' < i + 1 → adj (F.getD i' []) k (k + 1 + j) (N - 1) ≠ 0) ↔ (∀ i', i' < i → adj (F.getD i' []) k (k + 1 + j) (N - 1) ≠ 0) ∧ adj (F.getD i []) k (k + 1 + j) (N - 1) ≠ 0 :=
          ⟨fun h => ⟨fun i' h' => h i' (by omega), h i (by omega)⟩, fun h i' h' => by
            rcases Nat.lt_or_ge i' i with h2 | h2
            · exact h.1 i' h2
            · have : i' = i := by omega
              subst this; exact h.2⟩
        cases b with
        | false =>
          repeat' (first | refine zP ?_ | refine zA ?_ | (refine zM ?_; intro _ _) | refine zX ?_ | (refine zC ?_; intro _ _ _ _) | (refine zS ?_; intro _ _) | refine zO ?_ | (apply Ws <;> intro hg))
          exact Ends.loop (i + 1, false) (by simp only; omega) (by repeat' (first | exact .nil | refine .cons rfl ?_)) rfl ⟨hi', hH5, by simp only; rw [hstep, ← hb]; simp⟩
        | true =>
          repeat' (first | refine zP ?_ | refine zA ?_ | (refine zM ?_; intro _ _) | refine zX ?_ | (refine zC ?_; intro _ _ _ _) | (refine zS ?_; intro _ _) | refine zO ?_ | (apply Ws <;> intro hg))
          refine WR.call (by first | exact gN | exact gS rfl) rfl rfl (next_fs hH5 hE (by omega) k (k + 1 + j)) ?_
          rintro _ _ ⟨rfl, rfl⟩
          repeat' (first | refine zP ?_ | refine zA ?_ | (refine zM ?_; intro _ _) | refine zX ?_ | (refine zC ?_; intro _ _ _ _) | (refine zS ?_; intro _ _) | refine zO ?_ | (apply Ws <;> intro hg))
          exact Ends.loop (i + 1, decide (adj (F.getD i []) k (k + 1 + j) ((F.getD i []).length - 1) ≠ 0)) (by simp only; omega) (by repeat' (first | exact .nil | refine .cons rfl ?_)) rfl ⟨hi', hH5, by simp only; rw [hstep, ← hb, hz.1]; simp⟩
      · have hil : i = F.length := by omega
        subst hil
        have hpb : b = p k (k + 1 + j) := by
          rw [Bool.eq_iff_iff, hb, hpa]
          exact ⟨fun h z hz => by obtain ⟨i, hi, rfl⟩ := List.mem_iff_getElem.1 hz; rw [← getD_eq (a := []) hi]; exact h i hi, fun h i hi => h _ (getD_mem hi)⟩
        subst hpb
        cases hpt : p k (k + 1 + j) with
        | true =>
          repeat' (first | refine zP ?_ | refine zA ?_ | (refine zM ?_; intro _ _) | refine zX ?_ | (refine zC ?_; intro _ _ _ _) | (refine zS ?_; intro _ _) | refine zO ?_ | (apply Ws <;> intro hg))
          refine WR.op (by first | exact gN | exact gS rfl) rfl (OpV.bldA (vs := [(0, .int .i64 (k : Int)), (1, .int .i64 ((k + 1 + j : Nat) : Int))]) rfl (cs := #[.int .i64 (k : Int), .int .i64 ((k + 1 + j : Nat) : Int)]) (by rfl)) ?_
          refine WR.append1F [] Mx T3 rfl rfl rfl rfl hO hH5 (new := [.int .i64 (k : Int), .int .i64 ((k + 1 + j : Nat) : Int)]) (by rfl) rfl rfl (by decide) (by decide) (by rw [pcells_len]; simp; omega) fun v7 M7 n7 H7 hO7 hH7 hn7 => ?_
          rw [pcells_app, List.append_assoc] at hO7
          repeat' (first | refine zP ?_ | refine zA ?_ | (refine zM ?_; intro _ _) | refine zX ?_ | (refine zC ?_; intro _ _ _ _) | (refine zS ?_; intro _ _) | (apply Ws <;> intro hg))
          refine Ends.loop (j + 1, v7, M7, n7) (by simp only; omega) (by repeat' (first | exact .nil | refine .cons rfl ?_)) rfl ⟨hj', by simp only; omega, ?_, hH7⟩
          simp only
          rw [prow, if_pos hpt]
          exact hO7
        | false =>
          repeat' (first | refine zP ?_ | refine zA ?_ | (refine zM ?_; intro _ _) | refine zX ?_ | (refine zC ?_; intro _ _ _ _) | (refine zS ?_; intro _ _) | refine zO ?_ | (apply Ws <;> intro hg))
          refine Ends.loop (j + 1, u, Mx, n4) (by simp only; omega) (by repeat' (first | exact .nil | refine .cons rfl ?_)) rfl ⟨hj', hn4, ?_, hH5⟩
          simp only
          rw [prow, if_neg (by simp [hpt]), List.append_nil]
          exact hO
    · have hjl : j = N - (k + 1) := by omega
      subst hjl
      repeat' (first | refine zP ?_ | refine zA ?_ | (refine zM ?_; intro _ _) | refine zX ?_ | (refine zC ?_; intro _ _ _ _) | (refine zS ?_; intro _ _) | (apply Ws <;> intro hg))
      exact Ends.loop (k + 1, u, Mx, n4) (by simp only; omega) (by repeat' (first | exact .nil | refine .cons rfl ?_)) rfl ⟨hk', hn4, hO, hH4⟩
  · have hkl : k = N := by omega
    subst hkl
    repeat' (first | refine zP ?_ | refine zA ?_ | (refine zM ?_; intro _ _) | refine zX ?_ | (refine zC ?_; intro _ _ _ _) | (refine zS ?_; intro _ _) | (apply Ws <;> intro hg))
    rw [hT3] at hH4
    exact Ends.ret2 rfl rfl ⟨n4, Mx ++ M3 ++ A1, _, by rw [firstC, if_pos hf0, hF2, if_neg hd0], by omega, by rw [hbs]; exact hsl (A := Mx ++ M3) (by rw [List.append_assoc, ← hT3]; exact hO.sl T3), hback (A := Mx ++ M3) (by rw [List.append_assoc]; exact hH4)⟩
end
end Go.Proofs.Ytckpocjeikkblaa.St

namespace Go.Proofs.Ytckpocjeikkblaa.St
open Go Go.Abs Go.Mth
set_option linter.unusedVariables false
set_option linter.unusedSimpArgs false
attribute [local irreducible] gOK WS WC WR WD Ends FS YS OpV seqK blockK loopK midK retK rdK asgK rangeEnd sat Cell

abbrev bytesV (us : List Int) : List Value := us.map (Value.int .u8)
/-- The numbers below one. -/
def upTo (n : Nat) : List Int := (List.range n).map fun (x : Nat) => (x : Int)
structure PV where
  k : Nat
  cp : Nat
  R : Nat
  ys : List Int
  v : Value
  Mx : HL
  n : Nat
  o : List Int

structure OV where
  k : Nat
  v : Value
  Mx : HL
  n : Nat

section
variable {M : HL} {n0 : Nat} {H : Heap}
end
end Go.Proofs.Ytckpocjeikkblaa.St

namespace Go.Proofs.Ytckpocjeikkblaa.St
open Go Go.Abs Go.Mth
set_option linter.unusedVariables false
set_option linter.unusedSimpArgs false
attribute [local irreducible] gOK WS WC WR WD Ends FS YS OpV seqK blockK loopK midK retK rdK asgK rangeEnd sat Cell

def trays (a b : Int) (hs : List Int) : List Value := .int .u8 a :: .int .u8 b :: bytesV hs
def bitsOf (n x : Nat) : List Int := ((List.range n).filter fun i => x.testBit i).map fun (i : Nat) => (i : Int)
def formB (n x : Nat) : List Int := if bitsOf n x = [] then [0] else bitsOf n x
def traysF (n m : Nat) (hs : List Int) : List (List Int) := (hs.take m).map fun x => formB n x.toNat

structure TV where
  k : Nat
  v : Value
  vs : List Value
  Mo : HL
  Mi : HL
  n : Nat

section
variable {M : HL} {n0 : Nat} {H : Heap}
end
end Go.Proofs.Ytckpocjeikkblaa.St

namespace Go.Proofs.Ytckpocjeikkblaa.St
open Go Go.Abs Go.Mth
set_option linter.unusedVariables false
set_option linter.unusedSimpArgs false
attribute [local irreducible] gOK WS WC WR WD Ends FS YS OpV seqK blockK loopK midK retK rdK asgK rangeEnd sat Cell
section
variable {n : Int} {fs : List (List Int)} {o : List Int}
end
end Go.Proofs.Ytckpocjeikkblaa.St

namespace Go.Proofs.Ytckpocjeikkblaa.St
open Go Go.Abs Go.Mth
set_option linter.unusedVariables false
set_option linter.unusedSimpArgs false
attribute [local irreducible] gOK WS WC WR WD Ends FS YS OpV seqK blockK loopK midK retK rdK asgK rangeEnd sat Cell
end Go.Proofs.Ytckpocjeikkblaa.St

namespace Go.Proofs.Ytckpocjeikkblaa.St
open Go Go.Abs Go.Mth
set_option linter.unusedVariables false
set_option linter.unusedSimpArgs false

theorem prows_lenT (p : Nat → Nat → Bool) {N : Nat} (h : N ≤ 7) : (prows p N N).length ≤ 1000 := by
  have h1 := prows_len p N N
  have h2 : N * N ≤ 7 * 7 := Nat.mul_le_mul h h
  omega
theorem beside_len {n : Int} {fs : List (List Int)} : (besideL n fs).length ≤ 1000 := by
  unfold besideL
  split
  · rename_i h
    have := (finds_ok h).2.1
    split
    · simp
    · exact prows_lenT _ (by omega)
  · simp
theorem firstO_len {n : Int} {fs : List (List Int)} : (firstO n fs).length ≤ 1000 := by
  unfold firstO
  split
  · rename_i h
    have h7 := (finds_ok h).2.1
    rw [castI_len]
    cases hF : fitL n.toNat fs with
    | nil => simp
    | cons z zs =>
      have h2 : z ∈ fitL n.toNat fs := by rw [hF]; exact .head _
      have := (perm_facts (List.mem_filter.1 h2).1 (by omega)).1
      simp only [List.headD_cons]; omega
  · simp
attribute [local irreducible] gOK WS WC WR WD Ends FS YS OpV seqK blockK loopK midK retK rdK asgK rangeEnd sat Cell

theorem same_fs {M : HL} {n0 : Nat} {H : Heap} {v w : Value} {o : List Int} (hH : hasH M n0 H) (ho : o.length ≤ 1000) (hS : Sl M 1 v (ints o)) (hU : Sl M 1 w (ints o)) :
    FS C 31 [v, w] H (fun e H' => e = .bool true ∧ H' = H) := by
  refine FS.intro (pf := pf31) rfl rfl rfl ?_
  repeat' (first | refine zP ?_ | refine zA ?_ | (refine zM ?_; intro _ _) | refine zX ?_ | (refine zC ?_; intro _ _ _ _) | (refine zS ?_; intro _ _) | refine zO ?_ | (apply Ws <;> intro hg))
  refine WC.loopX [(0, _), (1, _)] (fun k : Nat => [(5, .int .i64 (k : Int))]) [] (fun k H' => H' = H ∧ k ≤ o.length) (fun k => o.length - k) 0 (by repeat' (first | exact .nil | refine .cons rfl ?_)) rfl ⟨rfl, Nat.zero_le _⟩ ?_
  rintro k _ ⟨rfl, hk⟩
  dsimp only [List.cons_append, List.nil_append]
  repeat' (first | refine zP ?_ | refine zA ?_ | (refine zM ?_; intro _ _) | refine zX ?_ | (refine zC ?_; intro _ _ _ _) | (refine zS ?_; intro _ _) | (apply Ws <;> intro hg))
  refine WC.condP rfl (fun hlt => ?_) (fun hlt => ?_)
  · have hk' : k < o.length := by omega
    repeat' (first | refine zP ?_ | refine zA ?_ | (refine zM ?_; intro _ _) | refine zX ?_ | (refine zC ?_; intro _ _ _ _) | (refine zS ?_; intro _ _) | refine zO ?_ | (apply Ws <;> intro hg))
    exact Ends.loop (k + 1) (by omega) (by repeat' (first | exact .nil | refine .cons rfl ?_)) rfl ⟨rfl, hk'⟩
  · repeat' (first | refine zP ?_ | refine zA ?_ | (refine zM ?_; intro _ _) | refine zX ?_ | (refine zC ?_; intro _ _ _ _) | (refine zS ?_; intro _ _) | refine zO ?_ | (apply Ws <;> intro hg))
    exact Ends.ret1 rfl ⟨rfl, rfl⟩

theorem StyleFits_fs {M : HL} {n0 : Nat} {H : Heap} (hH : hasH M n0 H) {v : Value} {fs : List (List Int)} {n : Int} (hR : RowsI M v fs) :
    FS C 4 [.agg #[.int .i64 n, v]] H (fun e H' => e = .bool true) := by
  have h1 := hR.one_
  refine FS.intro (pf := pf4) rfl rfl rfl ?_
  repeat' (first | refine zP ?_ | refine zA ?_ | (refine zM ?_; intro _ _) | refine zX ?_ | (refine zC ?_; intro _ _ _ _) | (refine zS ?_; intro _ _))
  rename_i H1 hH1
  have hR1 : RowsI ((n0, .row 24 0 0 [.int .i64 n, v]) :: M) v fs := hR.cons
  refine WR.call (by first | exact gN | exact gS rfl) rfl rfl (large_fs hH1 hR1 n) ?_
  rintro _ H2 ⟨b, rfl, ⟨n2, hn2, hH2⟩, hb⟩
  clear hH1
  cases b with
  | true =>
    repeat' (first | refine zP ?_ | refine zA ?_ | (refine zM ?_; intro _ _) | refine zX ?_ | (refine zC ?_; intro _ _ _ _) | (refine zS ?_; intro _ _) | (apply Ws <;> intro hg))
    refine WR.call (by first | exact gN | exact gS rfl) rfl rfl (FS.works (C := C) (R := fun v H' => v = .bool true) rfl) ?_
    rintro _ _ rfl
    repeat' (first | refine zP ?_ | refine zA ?_ | (refine zM ?_; intro _ _) | refine zX ?_ | (refine zC ?_; intro _ _ _ _) | (refine zS ?_; intro _ _) | (apply Ws <;> intro hg))
    exact Ends.ret1 rfl rfl
  | false =>
  obtain ⟨hl, hll⟩ := hb rfl
  have hl1 : fs.length ≤ 1000 := by omega
  have hll1 : ∀ l ∈ fs, l.length ≤ 1000 := fun l h => by have := hll l h; omega
  repeat' (first | refine zP ?_ | refine zA ?_ | (refine zM ?_; intro _ _) | refine zX ?_ | (refine zC ?_; intro _ _ _ _) | (refine zS ?_; intro _ _) | (apply Ws <;> intro hg))
  rename_i H3 hH3
  refine WR.storeAll (by first | exact gN | exact gS rfl) hH3 rfl rfl (ls := [.int .i64 n, v]) rfl rfl .here (by (repeat' (first | exact all_nil | refine all_cons (by first | rfl | assumption) ?_))) rfl fun H4 hH4 => ?_
  clear hH3 hH2
  have hm1 : (n0, Ch.row 24 0 0 [.int .i64 n, v]) ∈ (n2, Ch.row 28 0 0 [.int .i64 n, v]) :: (n0, Ch.row 24 0 0 [.int .i64 n, v]) :: M := by simp
  have hm2 : (n2, Ch.row 28 0 0 [.int .i64 n, v]) ∈ (n2, Ch.row 28 0 0 [.int .i64 n, v]) :: (n0, Ch.row 24 0 0 [.int .i64 n, v]) :: M := by simp
  have hR2 := hR1.cons (p := (n2, .row 28 0 0 [.int .i64 n, v]))
  generalize (n2, Ch.row 28 0 0 [.int .i64 n, v]) :: (n0, Ch.row 24 0 0 [.int .i64 n, v]) :: M = T at hH4 hm1 hm2 hR2
  clear hR1
  repeat' (first | refine zP ?_ | refine zA ?_ | (refine zM ?_; intro _ _) | refine zX ?_ | (refine zC ?_; intro _ _ _ _) | (refine zS ?_; intro _ _) | (apply Ws <;> intro hg))
  refine WR.call (by first | exact gN | exact gS rfl) rfl rfl (First_fs hH4 hR2 hl1 hll1 n) ?_
  rintro _ H5 ⟨n5, M5, va, rfl, hn5, hSa, hH5⟩
  clear hH4
  replace hm1 := List.mem_append_right M5 hm1
  replace hm2 := List.mem_append_right M5 hm2
  replace hR2 : RowsI (M5 ++ T) v fs := hR2.mono fun q hq => List.mem_append_right _ hq
  generalize M5 ++ T = T at hH5 hm1 hm2 hR2 hSa
  repeat' (first | refine zP ?_ | refine zA ?_ | (refine zM ?_; intro _ _) | refine zX ?_ | (refine zC ?_; intro _ _ _ _) | (refine zS ?_; intro _ _) | (apply Ws <;> intro hg))
  refine WR.call (by first | exact gN | exact gS rfl) rfl rfl (FirstR_fs hH5 hR2 hl1 hll1 n) ?_
  rintro _ H6 ⟨n6, M6, vb, rfl, hn6, hSb, hH6⟩
  clear hH5
  replace hm1 := List.mem_append_right M6 hm1
  replace hm2 := List.mem_append_right M6 hm2
  replace hR2 : RowsI (M6 ++ T) v fs := hR2.mono fun q hq => List.mem_append_right _ hq
  replace hSa : Sl (M6 ++ T) 1 va (ints (firstO n fs)) := hSa.mono fun q hq => List.mem_append_right _ hq
  generalize M6 ++ T = T at hH6 hm1 hm2 hR2 hSa hSb
  repeat' (first | refine zP ?_ | refine zA ?_ | (refine zM ?_; intro _ _) | refine zX ?_ | (refine zC ?_; intro _ _ _ _) | (refine zS ?_; intro _ _) | (apply Ws <;> intro hg))
  refine WR.call (by first | exact gN | exact gS rfl) rfl rfl (Count_fs hH6 hR2 hl1 hll1 n) ?_
  rintro _ H7 ⟨rfl, n7, hn7, hH7⟩
  clear hH6
  repeat' (first | refine zP ?_ | refine zA ?_ | (refine zM ?_; intro _ _) | refine zX ?_ | (refine zC ?_; intro _ _ _ _) | (refine zS ?_; intro _ _) | (apply Ws <;> intro hg))
  refine WR.call (by first | exact gN | exact gS rfl) rfl rfl (CountR_fs hH7 hR2 hl1 hll1 n) ?_
  rintro _ H8 ⟨rfl, n8, hn8, hH8⟩
  clear hH7
  repeat' (first | refine zP ?_ | refine zA ?_ | (refine zM ?_; intro _ _) | refine zX ?_ | (refine zC ?_; intro _ _ _ _) | (refine zS ?_; intro _ _) | (apply Ws <;> intro hg))
  refine WR.call (by first | exact gN | exact gS rfl) rfl rfl (Beside_fs hH8 hR2 hl1 hll1 n) ?_
  rintro _ H9 ⟨n9, M9, vl, rfl, hn9, hSl, hH9⟩
  clear hH8
  replace hm1 := List.mem_append_right M9 hm1
  replace hm2 := List.mem_append_right M9 hm2
  replace hR2 : RowsI (M9 ++ T) v fs := hR2.mono fun q hq => List.mem_append_right _ hq
  replace hSa : Sl (M9 ++ T) 1 va (ints (firstO n fs)) := hSa.mono fun q hq => List.mem_append_right _ hq
  replace hSb : Sl (M9 ++ T) 1 vb (ints (firstO n fs)) := hSb.mono fun q hq => List.mem_append_right _ hq
  generalize M9 ++ T = T at hH9 hm1 hm2 hR2 hSa hSb hSl
  repeat' (first | refine zP ?_ | refine zA ?_ | (refine zM ?_; intro _ _) | refine zX ?_ | (refine zC ?_; intro _ _ _ _) | (refine zS ?_; intro _ _) | (apply Ws <;> intro hg))
  refine WR.call (by first | exact gN | exact gS rfl) rfl rfl (BesideR_fs hH9 hR2 hl1 hll1 n) ?_
  rintro _ H10 ⟨n10, M10, vm, rfl, hn10, hSm, hH10⟩
  clear hH9
  replace hSa : Sl (M10 ++ T) 1 va (ints (firstO n fs)) := hSa.mono fun q hq => List.mem_append_right _ hq
  replace hSb : Sl (M10 ++ T) 1 vb (ints (firstO n fs)) := hSb.mono fun q hq => List.mem_append_right _ hq
  replace hSl : Sl (M10 ++ T) 2 vl (pcells (besideL n fs)) := hSl.mono fun q hq => List.mem_append_right _ hq
  generalize M10 ++ T = T at hH10 hSa hSb hSl hSm
  have hfo := firstO_len (n := n) (fs := fs)
  have hbo := beside_len (n := n) (fs := fs)
  generalize (if findsE n fs = 0 then (fitL n.toNat fs).length else 0) = cc
  repeat' (first | refine zP ?_ | refine zA ?_ | (refine zM ?_; intro _ _) | refine zX ?_ | (refine zC ?_; intro _ _ _ _) | (refine zS ?_; intro _ _) | (apply Ws <;> intro hg))
  refine WR.call (by first | exact gN | exact gS rfl) rfl rfl (same_fs hH10 hfo hSa hSb) ?_
  rintro _ _ ⟨rfl, rfl⟩
  repeat' (first | refine zP ?_ | refine zA ?_ | (refine zM ?_; intro _ _) | refine zX ?_ | (refine zC ?_; intro _ _ _ _) | (refine zS ?_; intro _ _))
  rw [dec_refl]
  repeat' (first | refine zP ?_ | refine zA ?_ | (refine zM ?_; intro _ _) | refine zX ?_ | (refine zC ?_; intro _ _ _ _) | (refine zS ?_; intro _ _))
  rw [dec_refl]
  repeat' (first | refine zP ?_ | refine zA ?_ | (refine zM ?_; intro _ _) | refine zX ?_ | (refine zC ?_; intro _ _ _ _) | (refine zS ?_; intro _ _))
  rw [dec_refl]
  repeat' (first | refine zP ?_ | refine zA ?_ | (refine zM ?_; intro _ _) | refine zX ?_ | (refine zC ?_; intro _ _ _ _) | (refine zS ?_; intro _ _))
  refine WR.call (by first | exact gN | exact gS rfl) rfl rfl (pairs_fs hH10 hbo hSl hSm) ?_
  rintro _ _ ⟨rfl, rfl⟩
  repeat' (first | refine zP ?_ | refine zA ?_ | (refine zM ?_; intro _ _) | refine zX ?_ | (refine zC ?_; intro _ _ _ _) | (refine zS ?_; intro _ _))
  rw [dec_refl]
  repeat' (first | refine zP ?_ | refine zA ?_ | (refine zM ?_; intro _ _) | refine zX ?_ | (refine zC ?_; intro _ _ _ _) | (refine zS ?_; intro _ _))
  refine WR.call (by first | exact gN | exact gS rfl) rfl rfl (FS.works (C := C) (R := fun v H' => v = .bool true) rfl) ?_
  rintro _ _ rfl
  repeat' (first | refine zP ?_ | refine zA ?_ | (refine zM ?_; intro _ _) | refine zX ?_ | (refine zC ?_; intro _ _ _ _) | (refine zS ?_; intro _ _) | (apply Ws <;> intro hg))
  exact Ends.ret1 rfl rfl
end Go.Proofs.Ytckpocjeikkblaa.St
