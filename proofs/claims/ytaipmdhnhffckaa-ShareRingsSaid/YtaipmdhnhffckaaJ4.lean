/- Texts of the law, joined. -/
import Derived.Test.YtaipmdhnhffckaaJ3
namespace Go.Proofs.Ytaipmdhnhffckaa.Sh
open Go Go.Abs Go.Mth
set_option linter.unusedVariables false
set_option linter.unusedSimpArgs false
theorem way_next {vs : List (List Nat)} {ss : List Nat} {t : Nat} (h : (wayL vs ss t).Nodup) (hn : posW vs ss t ∉ wayL vs ss t) : (wayL vs ss (t + 1)).Nodup := by
  rw [way_succ]
  exact List.nodup_append.2 ⟨h, by simp, fun x hx y hy => by rw [List.mem_singleton.1 hy]; rintro rfl; exact hn hx⟩
/-- A ring is turned one by one. -/
def rotTo (r ss : List Nat) : Nat → List Nat
  | 0 => ss
  | q + 1 => (rotTo r ss q).set (r.getD q 0) (ss.getD (r.getD ((q + (r.length - 1)) % r.length) 0) 0)
theorem rotTo_len (r ss : List Nat) : ∀ q, (rotTo r ss q).length = ss.length
  | 0 => rfl
  | q + 1 => by unfold rotTo; rw [List.length_set, rotTo_len r ss q]
theorem rotTo_get {r ss : List Nat} (hr : r.Nodup) (hb : ∀ x ∈ r, x < ss.length) {j : Nat} : ∀ q, q ≤ r.length → (rotTo r ss q).getD j 0 = if ∃ i, i < q ∧ r.getD i 0 = j then (rotTo r ss q).getD j 0 else ss.getD j 0
  | 0, _ => by rw [if_neg (by rintro ⟨i, h, _⟩; omega)]; rfl
  | q + 1, h => by
    split
    · rfl
    · rename_i hn
      have hq : r.getD q 0 ≠ j := fun e => hn ⟨q, by omega, e⟩
      unfold rotTo
      rw [getD_set' (by rw [rotTo_len]; exact hb _ (getD_mem (by omega))), if_neg (fun e => hq e.symm), rotTo_get hr hb q (by omega), if_neg (by rintro ⟨i, hi, e⟩; exact hn ⟨i, by omega, e⟩)]
theorem rotTo_at {r ss : List Nat} (hr : r.Nodup) (hb : ∀ x ∈ r, x < ss.length) {i : Nat} : ∀ q, q ≤ r.length → i < q → (rotTo r ss q).getD (r.getD i 0) 0 = ss.getD (r.getD ((i + (r.length - 1)) % r.length) 0) 0
  | 0, _, h => absurd h (Nat.not_lt_zero _)
  | q + 1, h, hi => by
    unfold rotTo
    rw [getD_set' (by rw [rotTo_len]; exact hb _ (getD_mem (by omega)))]
    by_cases e : i = q
    · subst e; rw [if_pos rfl]
    · rw [if_neg, rotTo_at hr hb q (by omega) (by omega)]
      intro he
      rw [getD_eq (by omega), getD_eq (by omega)] at he
      exact e (nodup_inj hr (by omega) (by omega) he)
theorem rotTo_rot {r ss : List Nat} (hr : r.Nodup) (hb : ∀ x ∈ r, x < ss.length) (h1 : 1 ≤ r.length) : RotR r ss (rotTo r ss r.length) := by
  refine ⟨rotTo_len _ _ _, fun q hq => ?_, fun j hj => ?_⟩
  · rw [rotTo_at hr hb _ (Nat.le_refl _) (Nat.mod_lt _ (by omega))]
    have : ((q + 1) % r.length + (r.length - 1)) % r.length = q := by
      rw [Nat.mod_add_mod, show q + 1 + (r.length - 1) = q + r.length by omega, Nat.add_mod_right, Nat.mod_eq_of_lt hq]
    rw [this]
  · rw [rotTo_get hr hb _ (Nat.le_refl _), if_neg]
    rintro ⟨i, hi, rfl⟩
    exact hj (getD_mem hi)
structure KG where
  k : Nat
  ss : List Nat
  n : Nat
attribute [local irreducible] gOK WS WC WR WD Ends FS YS OpV seqK blockK loopK midK retK rdK asgK rangeEnd sat Cell
section
variable {M : HL} {n0 : Nat} {H : Heap} {vv sv : Value} {vs : List (List Nat)} {ss : List Nat} {n m : Nat}
theorem unenvied_fs (hD : DivM M vv sv vs ss n m) (hH : hasH M n0 H) :
    FS C 117 [.agg [vv, sv].toArray] H (fun e H' => e = .int .i64 (calmP vs ss) ∧ ∃ n', n0 ≤ n' ∧ hasH M n' H') := by
  have hv1 := hD.vals.one_
  have hs1 := hD.shar.one_
  have hvl := hD.ok.len
  have hsl := hD.len
  have hn4 := hD.ok.n4
  have hone : [vv, sv].all one = true := by simp [hv1, hs1]
  have hcalm : calmP vs ss = firstN (fun j => decide (enP vs ss j < 0)) n := by unfold calmP; rw [hvl]
  rw [hcalm]
  refine FS.intro (pf := pf117) rfl rfl rfl ?_
  repeat' (first | refine zP ?_ | refine zA ?_ | (refine zM ?_; intro _ _) | refine zX ?_ | (refine zC ?_; intro _ _ _ _) | (refine zS ?_; intro _ _) | (apply Ws <;> intro hg))
  rename_i H1 hH1
  have hS1 := hD.shar.cons (p := (n0, .row 78 0 0 [vv, sv]))
  have hD1 := hD.mono (M' := (n0, .row 78 0 0 [vv, sv]) :: M) fun q hq => .tail _ hq
  repeat' (first | refine zP ?_ | refine zA ?_ | (refine zM ?_; intro _ _) | refine zX ?_ | (refine zC ?_; intro _ _ _ _) | (refine zS ?_; intro _ _) | (apply Ws <;> intro hg))
  rw [hsl]
  clear hS1
  refine WC.loopX [(1, _), (6, _)] (fun s : KC => [(7, .int .i64 (s.k : Int))]) []
    (fun s H' => s.k ≤ n ∧ n0 ≤ s.n ∧ hasH ((n0, .row 78 0 0 [vv, sv]) :: M) s.n H' ∧ ∀ j, j < s.k → decide (enP vs ss j < 0) = false) (fun s => n - s.k) ⟨0, n0 + 1⟩ (by repeat' (first | exact .nil | refine .cons rfl ?_)) rfl ⟨Nat.zero_le _, by simp only; omega, hH1, fun j h => absurd h (Nat.not_lt_zero _)⟩ ?_
  clear hH1
  rintro ⟨k, n2⟩ H2 ⟨hk, hn2, hH2, hno⟩
  simp only at hk hn2 hH2 hno
  dsimp only [List.cons_append, List.nil_append]
  repeat' (first | refine zP ?_ | refine zA ?_ | (refine zM ?_; intro _ _) | refine zX ?_ | (refine zC ?_; intro _ _ _ _) | (refine zS ?_; intro _ _) | (apply Ws <;> intro hg))
  refine WC.condP rfl (fun hlt => ?_) (fun hlt => ?_)
  · have hk' : k < n := by omega
    have hbd := first_bd (p := fun i => envP vs ss i k) vs.length
    replace hbd : -1 ≤ enP vs ss k ∧ enP vs ss k < _ := hbd
    repeat' (first | refine zP ?_ | refine zA ?_ | (refine zM ?_; intro _ _) | refine zX ?_ | (refine zC ?_; intro _ _ _ _) | (refine zS ?_; intro _ _) | (apply Ws <;> intro hg))
    refine WR.call (by first | exact gN | exact gS rfl) rfl rfl (envier_fs hD1 hH2 hk') ?_
    rintro _ H3 ⟨rfl, n3, hn3, hH3⟩
    by_cases he : enP vs ss k = -1
    · repeat' (first | refine zP ?_ | refine zA ?_ | (refine zM ?_; intro _ _) | refine zX ?_ | (refine zC ?_; intro _ _ _ _) | (refine zS ?_; intro _ _) | refine zO ?_ | (apply Ws <;> intro hg))
      exact Ends.ret1 rfl ⟨by rw [first_at hk' (decide_eq_true (by omega)) hno], n3, by omega, hH3.tail⟩
    · repeat' (first | refine zP ?_ | refine zA ?_ | (refine zM ?_; intro _ _) | refine zX ?_ | (refine zC ?_; intro _ _ _ _) | (refine zS ?_; intro _ _) | refine zO ?_ | (apply Ws <;> intro hg))
      rw [show (k : Int) + 1 = ((k + 1 : Nat) : Int) by omega]
      refine Ends.loop ⟨k + 1, n3⟩ (by simp only; omega) (by repeat' (first | exact .nil | refine .cons rfl ?_)) rfl ⟨hk', by simp only; omega, hH3, fun j hj => ?_⟩
      simp only at hj
      by_cases e : j = k
      · rw [e]; exact decide_eq_false (by omega)
      · exact hno j (by omega)
  · have hkn : k = n := by omega
    subst hkn
    repeat' (first | refine zP ?_ | refine zA ?_ | (refine zM ?_; intro _ _) | refine zX ?_ | (refine zC ?_; intro _ _ _ _) | (refine zS ?_; intro _ _) | (apply Ws <;> intro hg))
    refine Ends.ret1 rfl ⟨?_, n2, hn2, hH2.tail⟩
    have h1 := (first_none (p := fun j => decide (enP vs ss j < 0)) (n := k)).2 hno
    have h2 := first_bd (p := fun j => decide (enP vs ss j < 0)) k
    rw [show firstN (fun j => decide (enP vs ss j < 0)) k = -1 by omega]
set_option maxHeartbeats 1000000 in
theorem ring_fs (hD : DivM M vv sv vs ss n m) (hH : hasH M n0 H) (hc : calmP vs ss < 0) :
    FS C 119 [.agg [vv, sv].toArray] H (fun e H' => ∃ r Mx n', RingR vs ss r ∧ Sl Mx 1 e (nodes r) ∧ n0 ≤ n' ∧ hasH (Mx ++ M) n' H') := by
  have hv1 := hD.vals.one_
  have hs1 := hD.shar.one_
  have hvl := hD.ok.len
  have hn4 := hD.ok.n4
  have hn1 := hD.ok.pos
  have hone : [vv, sv].all one = true := by simp [hv1, hs1]
  refine FS.intro (pf := pf119) rfl rfl rfl ?_
  repeat' (first | refine zP ?_ | refine zA ?_ | (refine zM ?_; intro _ _) | refine zX ?_ | (refine zC ?_; intro _ _ _ _) | (refine zS ?_; intro _ _) | (apply Ws <;> intro hg))
  rename_i H1 hH1
  refine WC.loopX [(1, _)] (fun s : KW2 => [(3, s.v), (4, .int .i64 (posW vs ss s.t : Nat))]) []
    (fun s H' => (wayL vs ss s.t).Nodup ∧ n0 ≤ s.n ∧ Own 3 1 s.v (nodes (wayL vs ss s.t)) s.Mx ∧ hasH (s.Mx ++ ((n0, .row 78 0 0 [vv, sv]) :: M)) s.n H') (fun s => n + 1 - s.t) ⟨0, .slice none 0 0, [], n0 + 1⟩ (by repeat' (first | exact .nil | refine .cons rfl ?_)) rfl
    ⟨by simp [wayL], by simp only; omega, .nil, hH1⟩ ?_
  clear hH1
  rintro ⟨t, v, Mx, n2⟩ H2 ⟨hnd, hn2, hO, hH2⟩
  simp only at hnd hn2 hO hH2
  have hS := hO.sl ((n0, .row 78 0 0 [vv, sv]) :: M)
  have htn := way_short (by omega) hc hnd
  have hwl := way_len vs ss t
  have hpl := pos_lt (by omega) hc t
  have hSi : Sl (Mx ++ ((n0, .row 78 0 0 [vv, sv]) :: M)) 1 v (ints (IL (wayL vs ss t))) := Sl.asInts hS
  have hil : (IL (wayL vs ss t)).length = t := by simp [hwl]
  have hmem : ((posW vs ss t : Nat) : Int) ∈ IL (wayL vs ss t) ↔ posW vs ss t ∈ wayL vs ss t := mem_cast
  dsimp only [List.cons_append, List.nil_append]
  repeat' (first | refine zP ?_ | refine zA ?_ | (refine zM ?_; intro _ _) | refine zX ?_ | (refine zC ?_; intro _ _ _ _) | (refine zS ?_; intro _ _) | (apply Ws <;> intro hg))
  refine WR.call (by first | exact gN | exact gS rfl) rfl rfl (Contains_fs hH2 hSi (by omega) _) ?_
  rintro _ _ ⟨rfl, rfl⟩
  by_cases hin : posW vs ss t ∈ wayL vs ss t
  · rw [decide_eq_true (hmem.2 hin)]
    repeat' (first | refine zP ?_ | refine zA ?_ | (refine zM ?_; intro _ _) | refine zX ?_ | (refine zC ?_; intro _ _ _ _) | (refine zS ?_; intro _ _) | refine zO ?_ | (apply Ws <;> intro hg))
    refine WR.call (by first | exact gN | exact gS rfl) rfl rfl (Index_fs hH2 hSi (by omega) _) ?_
    rintro _ _ ⟨rfl, ⟨s, hs, he, _, rfl⟩ | ⟨hno, _⟩⟩
    · have hst : s < t := by omega
      rw [IL_get (by omega), way_get hst] at he
      have hS0 : Sl Mx 1 v (nodes (wayL vs ss t)) := by have := hO.sl []; rwa [List.append_nil] at this
      refine WR.slS (vl := some (.int .i64 (s : Int))) (vh := none) (a := s) (b := t) (by first | exact gN | exact gS rfl) rfl rfl hS0 (by rfl) rfl rfl (fun len h => ?_) (by omega) (by simp [hwl]) (Nat.le_refl _) fun v' hv' => ?_
      · simp [hwl] at h
        show some len = some t
        rw [h]
      · repeat' (first | refine zP ?_ | refine zA ?_ | (refine zM ?_; intro _ _) | refine zX ?_ | (refine zC ?_; intro _ _ _ _) | (refine zS ?_; intro _ _) | (apply Ws <;> intro hg))
        refine Ends.ret1 rfl ⟨(wayL vs ss t).drop s, Mx ++ [(n0, .row 78 0 0 [vv, sv])], n2, ⟨s, t, hst, hnd, by omega, rfl⟩, ?_, hn2, by rw [List.append_assoc]; exact hH2⟩
        rw [Nat.mul_one, Nat.mul_one, List.take_of_length_le (by simp [hwl])] at hv'
        refine Sl.mono (M := Mx) ?_ fun q hq => List.mem_append_left _ hq
        simpa [List.map_drop] using hv'
    · exact absurd (hmem.2 hin) hno
  · rw [decide_eq_false (fun h => hin (hmem.1 h))]
    have hD2 := hD.mono (M' := (n0, .row 78 0 0 [vv, sv]) :: M) fun q hq => .tail _ hq
    repeat' (first | refine zP ?_ | refine zA ?_ | (refine zM ?_; intro _ _) | refine zX ?_ | (refine zC ?_; intro _ _ _ _) | (refine zS ?_; intro _ _) | refine zO ?_ | (apply Ws <;> intro hg))
    refine WR.append1F [] Mx ((n0, .row 78 0 0 [vv, sv]) :: M) rfl rfl rfl rfl hO hH2 (new := [.int .i64 (posW vs ss t : Nat)]) (by rfl) rfl rfl (Nat.le_refl _) (by omega) (by simp [hwl]; omega) fun v3 M3 n6 H6 hO3 hH6 hn6 => ?_
    have hm6 : (n0, Ch.row 78 0 0 [vv, sv]) ∈ M3 ++ ((n0, .row 78 0 0 [vv, sv]) :: M) := List.mem_append_right _ (.head _)
    replace hH6 : hasH (M3 ++ ((n0, .row 78 0 0 [vv, sv]) :: M)) n6 H6 := hH6
    repeat' (first | refine zP ?_ | refine zA ?_ | (refine zM ?_; intro _ _) | refine zX ?_ | (refine zC ?_; intro _ _ _ _) | (refine zS ?_; intro _ _) | (apply Ws <;> intro hg))
    refine WR.call (by first | exact gN | exact gS rfl) rfl rfl (envier_fs (hD2.mono fun q hq => List.mem_append_right M3 hq) hH6 (by omega)) ?_
    rintro _ H7 ⟨rfl, n7, hn7, hH7⟩
    have hen := all_envied hc hpl
    repeat' (first | refine zP ?_ | refine zA ?_ | (refine zM ?_; intro _ _) | refine zX ?_ | (refine zC ?_; intro _ _ _ _) | (refine zS ?_; intro _ _) | (apply Ws <;> intro hg))
    rw [show enP vs ss (posW vs ss t) = ((posW vs ss (t + 1) : Nat) : Int) by show _ = (((enP vs ss (posW vs ss t)).toNat : Nat) : Int); omega]
    refine Ends.loop ⟨t + 1, v3, M3, n7⟩ (by simp only; omega) (by repeat' (first | exact .nil | refine .cons rfl ?_)) rfl ⟨way_next hnd hin, by simp only; omega, ?_, hH7⟩
    simp only
    rw [way_succ]
    simpa [nodes] using hO3
theorem cloneS_fs (hH : hasH M n0 H) (hS : Sl M 1 sv (u64s ss)) (hl : ss.length ≤ 100) (h1 : 1 ≤ ss.length) :
    FS C 130 [sv] H (fun e H' => ∃ b n', e = .slice (some ⟨b, 0, some 0⟩) ss.length (2 * 1) ∧ n0 ≤ n' ∧ hasH ((b, .row 116 0 0 (u64s ss)) :: M) n' H') := by
  have hne : u64s ss ≠ [] := fun h => by have := List.map_eq_nil_iff.1 h; subst this; simp at h1
  have hsm : ∃ a len cap, sv = .slice (some a) len cap := by
    generalize u64s ss = cs at hS hne
    cases hS with
    | nil c => exact absurd rfl hne
    | emp a => exact ⟨_, _, _, rfl⟩
    | row => exact ⟨_, _, _, rfl⟩
  obtain ⟨a, len, cap, rfl⟩ := hsm
  refine FS.intro (pf := pf130) rfl rfl rfl ?_
  repeat' (first | refine zP ?_ | refine zA ?_ | (refine zM ?_; intro _ _) | refine zX ?_ | (refine zC ?_; intro _ _ _ _) | (refine zS ?_; intro _ _) | (apply Ws <;> intro hg))
  refine WR.bldS (by first | exact gN | exact gS rfl) rfl hH (vs := []) rfl (cs := []) (by rfl) rfl fun H3 hH3 => ?_
  repeat' (first | refine zP ?_ | refine zA ?_ | (refine zM ?_; intro _ _) | refine zX ?_ | (refine zC ?_; intro _ _ _ _) | (refine zS ?_; intro _ _) | (apply Ws <;> intro hg))
  obtain ⟨hk, hsr⟩ := (hS.cons (p := (n0, .row 116 0 0 []))).src hH3 hne
  rw [show (u64s ss).length = ss.length by simp] at hk
  refine WR.appendNew (by first | exact gN | exact gS rfl) rfl rfl rfl hH3 (.head _) (.row _ _ _ _) (Nat.zero_le _) (Nat.zero_le _) hk (by have := hsr _ (Nat.le_refl _); rw [List.take_length, show (u64s ss).length = ss.length by simp] at this; exact this) (by simp) h1 (u64s_one _) (by omega) (by omega) (by omega) fun H' hH' => ?_
  repeat' (first | refine zP ?_ | refine zA ?_ | (refine zM ?_; intro _ _) | refine zX ?_ | (refine zC ?_; intro _ _ _ _) | (refine zS ?_; intro _ _) | (apply Ws <;> intro hg))
  exact Ends.ret1 rfl ⟨n0 + 1, n0 + 2, rfl, by omega, hH'.sub (.cons_cons _ (List.sublist_cons_self _ _))⟩
set_option maxHeartbeats 1000000 in
theorem turn_fs {w : Value} {b N : Nat} {r : List Nat} (hv : one vv = true) (hH : hasH ((b, .row 116 0 0 (u64s ss)) :: M) n0 H) (hN : ss.length = N) (hl : N ≤ 100) (h1 : 1 ≤ N) (hS : Sl M 1 w (nodes r)) (hr : r.Nodup) (hb : ∀ x ∈ r, x < N) (hr1 : 1 ≤ r.length) (hrl : r.length ≤ 100) :
    FS C 118 [.agg [vv, .slice (some ⟨b, 0, some 0⟩) N (2 * N + 1)].toArray, w] H (fun _ H' => ∃ ss' n', RotR r ss ss' ∧ n0 ≤ n' ∧ hasH ((b, .row 116 0 0 (u64s ss')) :: M) n' H') := by
  refine FS.intro (pf := pf118) rfl rfl rfl ?_
  repeat' (first | refine zP ?_ | refine zA ?_ | (refine zM ?_; intro _ _) | refine zX ?_ | (refine zC ?_; intro _ _ _ _) | (refine zS ?_; intro _ _) | (apply Ws <;> intro hg))
  rename_i H1 hH1
  have hS0 : Sl ((b, .row 116 0 0 (u64s ss)) :: M) 1 (.slice (some ⟨b, 0, some 0⟩) N (2 * N + 1)) (u64s ss) := Sl.mkd (by simp [hN])
  refine WR.call (by first | exact gN | exact gS rfl) rfl rfl (cloneS_fs hH1 (ss := ss) hS0.cons (by omega) (by omega)) ?_
  rintro _ H2 ⟨c, n2, rfl, hn2, hH2⟩
  clear hH1 hS0
  replace hH2 := hH2.perm (M' := (b, .row 116 0 0 (u64s ss)) :: (c, .row 116 0 0 (u64s ss)) :: (n0, .row 78 0 0 [vv, .slice (some ⟨b, 0, some 0⟩) N (2 * N + 1)]) :: M) (List.Perm.trans (List.Perm.cons _ (List.Perm.swap _ _ _)) (List.Perm.swap _ _ _))
  have hcl : ∀ {l : List Nat}, Sl ((b, .row 116 0 0 (u64s l)) :: (c, .row 116 0 0 (u64s ss)) :: (n0, .row 78 0 0 [vv, .slice (some ⟨b, 0, some 0⟩) N (2 * N + 1)]) :: M) 1 (.slice (some ⟨c, 0, some 0⟩) ss.length (2 * 1)) (u64s ss) ∧ Sl ((b, .row 116 0 0 (u64s l)) :: (c, .row 116 0 0 (u64s ss)) :: (n0, .row 78 0 0 [vv, .slice (some ⟨b, 0, some 0⟩) N (2 * N + 1)]) :: M) 1 w (nodes r) := fun {l} =>
    ⟨(sl_row (by simp)).cons, hS.cons.cons.cons⟩
  generalize Value.slice (some ⟨c, 0, some 0⟩) ss.length (2 * 1) = u at hcl ⊢
  obtain ⟨c1, c2⟩ := hcl (l := ss)
  repeat' (first | refine zP ?_ | refine zA ?_ | (refine zM ?_; intro _ _) | refine zX ?_ | (refine zC ?_; intro _ _ _ _) | (refine zS ?_; intro _ _) | (apply Ws <;> intro hg))
  clear c1 c2
  refine WC.loopX [(1, _), (2, _), (4, _), (17, _), (18, _)] (fun s : Nat => [(5, .int .i64 (r.getD ((s + (r.length - 1)) % r.length) 0 : Nat)), (19, .int .i64 (s : Int))]) []
    (fun s H' => s ≤ r.length ∧ hasH ((b, .row 116 0 0 (u64s (rotTo r ss s))) :: (c, .row 116 0 0 (u64s ss)) :: (n0, .row 78 0 0 [vv, .slice (some ⟨b, 0, some 0⟩) N (2 * N + 1)]) :: M) n2 H') (fun s => r.length - s) 0 (by simp only [Nat.zero_add, Nat.mod_eq_of_lt (show r.length - 1 < r.length by omega)]; exact (by repeat' (first | exact .nil | refine .cons rfl ?_))) rfl
    ⟨Nat.zero_le _, hH2⟩ ?_
  clear hH2
  rintro q H3 ⟨hq, hH3⟩
  obtain ⟨c1, c2⟩ := hcl (l := rotTo r ss q)
  dsimp only [List.cons_append, List.nil_append]
  repeat' (first | refine zP ?_ | refine zA ?_ | (refine zM ?_; intro _ _) | refine zX ?_ | (refine zC ?_; intro _ _ _ _) | (refine zS ?_; intro _ _) | (apply Ws <;> intro hg))
  refine WC.condP rfl (fun hlt => ?_) (fun hlt => ?_)
  · have hq' : q < r.length := by omega
    have hx := hb _ (getD_mem (a := 0) hq')
    have hmod := Nat.mod_lt (q + (r.length - 1)) (show 0 < r.length by omega)
    have hy := hb _ (getD_mem (a := 0) hmod)
    have hrt := rotTo_len r ss q
    have hsucc : rotTo r ss (q + 1) = (rotTo r ss q).set (r.getD q 0) (ss.getD (r.getD ((q + (r.length - 1)) % r.length) 0) 0) := rfl
    have hnx : (q + 1 + (r.length - 1)) % r.length = q := by rw [show q + 1 + (r.length - 1) = q + r.length by omega, Nat.add_mod_right, Nat.mod_eq_of_lt hq']
    generalize r.getD ((q + (r.length - 1)) % r.length) 0 = y at hy hsucc ⊢
    repeat' (first | refine zP ?_ | refine zA ?_ | (refine zM ?_; intro _ _) | refine zX ?_ | (refine zC ?_; intro _ _ _ _) | (refine zS ?_; intro _ _) | (apply Ws <;> intro hg))
    rename_i H4 hH4
    rw [show (q : Int) + 1 = ((q + 1 : Nat) : Int) by omega]
    refine Ends.loop (q + 1) (by omega) (by rw [hnx]; exact (by repeat' (first | exact .nil | refine .cons rfl ?_))) rfl ⟨hq', ?_⟩
    rw [hsucc]
    exact hH4
  · have hql : q = r.length := by omega
    rw [hql] at hH3
    repeat' (first | refine zP ?_ | refine zA ?_ | (refine zM ?_; intro _ _) | refine zX ?_ | (refine zC ?_; intro _ _ _ _) | (refine zS ?_; intro _ _) | (apply Ws <;> intro hg))
    exact Ends.end0 ⟨_, n2, rotTo_rot hr (by rw [hN]; exact hb) hr1, by omega, hH3.sub (.cons_cons _ ((List.sublist_cons_self _ _).trans (List.sublist_cons_self _ _)))⟩
end
end Go.Proofs.Ytaipmdhnhffckaa.Sh

namespace Go.Proofs.Ytaipmdhnhffckaa.Sh
open Go Go.Abs Go.Mth
set_option linter.unusedVariables false
set_option linter.unusedSimpArgs false
theorem mem_lt_of {ss : List Nat} {n x : Nat} (hl : ss.length = n) (h : ∀ i, i < n → ss.getD i 0 < x) : ∀ s ∈ ss, s < x := fun s hs => by
  obtain ⟨i, hi, rfl⟩ := List.mem_iff_getElem.1 hs
  have := h i (by omega)
  rwa [getD_eq hi] at this
theorem calm_bd (vs : List (List Nat)) (ss : List Nat) : -1 ≤ calmP vs ss ∧ calmP vs ss < vs.length := first_bd _
structure KS where
  ss : List Nat
  n : Nat
theorem give_bd {vs : List (List Nat)} {n m k : Nat} {a b : List Nat} (hV : OKV vs n m) (h : GiveR vs n k a) (hk : k ≤ m) (ht : TurnsR vs a b) : b.length = n ∧ ∀ s ∈ b, s < 2 ^ k := by
  obtain ⟨h1, h2, _⟩ := give_all hV h hk
  have hn : 1 ≤ vs.length := by rw [hV.len]; exact hV.pos
  have h3 := ht.len hn
  have h4 := ht.lt hn (by rw [hV.len]; exact h2)
  rw [hV.len] at h4
  exact ⟨by omega, mem_lt_of (by omega) h4⟩
theorem lt_mono {l : List Nat} {k m : Nat} (h : ∀ s ∈ l, s < 2 ^ k) (hk : k ≤ m) : ∀ s ∈ l, s < 2 ^ m := fun s hs => Nat.lt_of_lt_of_le (h s hs) (Nat.pow_le_pow_right (by omega) hk)
attribute [local irreducible] gOK WS WC WR WD Ends FS YS OpV seqK blockK loopK midK retK rdK asgK rangeEnd sat Cell
section
variable {M : HL} {n0 : Nat} {H : Heap} {v : Value} {vs : List (List Nat)} {n m : Nat}
set_option maxHeartbeats 4000000 in
theorem oneAfter_fs (hH : hasH M n0 H) (hV : OKV vs n m) (hR : ValsN M v vs) :
    FS C 88 [v] H (fun e H' => ∃ b ss n', GiveR vs n m ss ∧ n0 ≤ n' ∧ e = .agg [v, .slice (some ⟨b, 0, some 0⟩) n (2 * n + 1)].toArray ∧ hasH ((b, .row 116 0 0 (u64s ss)) :: M) n' H') := by
  have hv1 := hR.one_
  have hm6 := hV.m6
  have hn4 := hV.n4
  have hn1 := hV.pos
  have hvl := hV.len
  obtain ⟨ws, hW, hwl, hws⟩ := hR.ex
  have hvs := hW.same
  refine FS.intro (pf := pf88) rfl rfl rfl ?_
  repeat' (first | refine zP ?_ | refine zA ?_ | (refine zM ?_; intro _ _) | refine zX ?_ | (refine zC ?_; intro _ _ _ _) | (refine zS ?_; intro _ _) | (apply Ws <;> intro hg))
  rename_i H1 hH1
  refine WR.call (by first | exact gN | exact gS rfl) rfl rfl (divide_fs hH1 hW.cons (by omega) (o := []) (.nil 0) (by simp) (fun x h => by cases h)) ?_
  rintro _ H2 ⟨b, n2, hn2, rfl, hH2⟩
  rw [hwl, hvl, shs_nil] at hH2
  rw [hwl, hvl]
  clear hH1
  repeat' (first | refine zP ?_ | refine zA ?_ | (refine zM ?_; intro _ _) | refine zX ?_ | (refine zC ?_; intro _ _ _ _) | (refine zS ?_; intro _ _) | (apply Ws <;> intro hg))
  rename_i H3 hH3
  refine WR.store2 (by first | exact gN | exact gS rfl) hH3 rfl rfl hv1 rfl .here fun H4 hH4 => ?_
  replace hH4 := hH4.swap
  clear hH2 hH3
  have hc : ∀ {l : List Nat}, Sl ((b, .row 116 0 0 (u64s l)) :: (n2, .row 78 0 0 [v, .slice (some ⟨b, 0, some 0⟩) n (2 * n + 1)]) :: (n0, .row 78 0 0 [.slice none 0 0, .slice none 0 0]) :: M) 1 v ws ∧
      Sl ((b, .row 116 0 0 (u64s l)) :: (n2, .row 78 0 0 [v, .slice (some ⟨b, 0, some 0⟩) n (2 * n + 1)]) :: (n0, .row 78 0 0 [.slice none 0 0, .slice none 0 0]) :: M) 1 (ws.getD 0 undef) (nodes (vs.getD 0 [])) := fun {l} =>
    ⟨hW.cons.cons.cons, (hws 0 (by omega)).cons.cons.cons⟩
  have hDv : ∀ {l : List Nat}, l.length = n → (∀ s ∈ l, s < 2 ^ m) → DivM ((b, .row 116 0 0 (u64s l)) :: (n2, .row 78 0 0 [v, .slice (some ⟨b, 0, some 0⟩) n (2 * n + 1)]) :: (n0, .row 78 0 0 [.slice none 0 0, .slice none 0 0]) :: M) v (.slice (some ⟨b, 0, some 0⟩) n (2 * n + 1)) vs l n m := fun {l} h1 h2 =>
    ⟨hV, hR.cons.cons.cons, Sl.mkd (by simp [h1]), h1, h2⟩
  obtain ⟨c1, c2⟩ := hc (l := List.replicate n 0)
  have hr0 := hV.rowLen hn1
  repeat' (first | refine zP ?_ | refine zA ?_ | (refine zM ?_; intro _ _) | refine zX ?_ | (refine zC ?_; intro _ _ _ _) | (refine zS ?_; intro _ _) | (apply Ws <;> intro hg))
  rw [hr0]
  clear c1 c2
  refine WC.loopX [(0, _), (2, _), (3, _), (11, _)] (fun s : KG => [(12, .int .i64 (s.k : Int))]) []
    (fun s H' => s.k ≤ m ∧ GiveR vs n s.k s.ss ∧ n0 ≤ s.n ∧ hasH ((b, .row 116 0 0 (u64s s.ss)) :: (n2, .row 78 0 0 [v, .slice (some ⟨b, 0, some 0⟩) n (2 * n + 1)]) :: (n0, .row 78 0 0 [.slice none 0 0, .slice none 0 0]) :: M) s.n H') (fun s => m - s.k) ⟨0, List.replicate n 0, n2 + 1⟩ (by repeat' (first | exact .nil | refine .cons rfl ?_)) rfl
    ⟨Nat.zero_le _, .zero, by simp only; omega, hH4⟩ ?_
  clear hH4
  rintro ⟨k, ss, n5⟩ H5 ⟨hk, hG, hn5, hH5⟩
  simp only at hk hG hn5 hH5
  dsimp only [List.cons_append, List.nil_append]
  repeat' (first | refine zP ?_ | refine zA ?_ | (refine zM ?_; intro _ _) | refine zX ?_ | (refine zC ?_; intro _ _ _ _) | (refine zS ?_; intro _ _) | (apply Ws <;> intro hg))
  refine WC.condP rfl (fun hlt => ?_) (fun hlt => ?_)
  · have hk' : k < m := by omega
    obtain ⟨g1, g2⟩ := give_bd hV hG hk (.refl ss)
    repeat' (first | refine zP ?_ | refine zA ?_ | (refine zM ?_; intro _ _) | refine zX ?_ | (refine zC ?_; intro _ _ _ _) | (refine zS ?_; intro _ _) | (apply Ws <;> intro hg))
    refine WR.call (by first | exact gN | exact gS rfl) rfl rfl (unenvied_fs (hDv g1 (lt_mono g2 hk)) hH5) ?_
    rintro _ H6 ⟨rfl, n6, hn6, hH6⟩
    repeat' (first | refine zP ?_ | refine zA ?_ | (refine zM ?_; intro _ _) | refine zX ?_ | (refine zC ?_; intro _ _ _ _) | (refine zS ?_; intro _ _) | (apply Ws <;> intro hg))
    refine WC.loopX [(0, _), (2, _), (3, _), (4, _), (11, _), (12, _)] (fun s : KS => [(5, .int .i64 (calmP vs s.ss))]) []
      (fun s H' => TurnsR vs ss s.ss ∧ n0 ≤ s.n ∧ hasH ((b, .row 116 0 0 (u64s s.ss)) :: (n2, .row 78 0 0 [v, .slice (some ⟨b, 0, some 0⟩) n (2 * n + 1)]) :: (n0, .row 78 0 0 [.slice none 0 0, .slice none 0 0]) :: M) s.n H') (fun s => 481 - ownS vs s.ss) ⟨ss, n6⟩ (by repeat' (first | exact .nil | refine .cons rfl ?_)) rfl
      ⟨.refl ss, by simp only; omega, hH6⟩ ?_
    clear hH5 hH6 g1 g2
    rintro ⟨cur, n7⟩ H7 ⟨hT, hn7, hH7⟩
    simp only at hT hn7 hH7
    obtain ⟨g1, g2⟩ := give_bd hV hG hk hT
    have hcb := calm_bd vs cur
    dsimp only [List.cons_append, List.nil_append]
    repeat' (first | refine zP ?_ | refine zA ?_ | (refine zM ?_; intro _ _) | refine zX ?_ | (refine zC ?_; intro _ _ _ _) | (refine zS ?_; intro _ _) | (apply Ws <;> intro hg))
    refine WC.condP rfl (fun hcm => ?_) (fun hcm => ?_)
    · have hneg : calmP vs cur < 0 := by omega
      have hDc := hDv g1 (lt_mono g2 hk)
      repeat' (first | refine zP ?_ | refine zA ?_ | (refine zM ?_; intro _ _) | refine zX ?_ | (refine zC ?_; intro _ _ _ _) | (refine zS ?_; intro _ _) | (apply Ws <;> intro hg))
      refine WC.regionD ?_
      repeat' (first | refine zD ?_ | (refine zE ?_; intro _ _ _ _))
      refine WD.call (by first | exact gN | exact gS rfl) rfl rfl (ring_fs hDc hH7 hneg) ?_
      rintro w H8 ⟨r, Mx, n8, hRr, hSr, hn8, hH8⟩
      refine ⟨stands_cons (.inl rfl) (stands_cons (.inr (holdsN' (read2 hH8 (List.mem_append_right _ (.tail _ (.head _)))) (by simp [sameL, hvs, same_sl]))) stands_nil'), ?_⟩
      obtain ⟨p1, p2, p3, p4⟩ := ring_props (by omega) hneg hRr
      rw [hvl] at p3
      have hrl : r.length ≤ n := nodup_le n r p2 p3
      replace hH8 : hasH ((b, .row 116 0 0 (u64s cur)) :: (Mx ++ ((n2, .row 78 0 0 [v, .slice (some ⟨b, 0, some 0⟩) n (2 * n + 1)]) :: (n0, .row 78 0 0 [.slice none 0 0, .slice none 0 0]) :: M))) n8 H8 := hH8.perm List.perm_middle
      refine WD.call (by first | exact gN | exact gS rfl) rfl rfl (turn_fs hv1 hH8 g1 (by omega) hn1 (hSr.mono fun q hq => List.mem_append_left _ hq) p2 p3 p1 (by omega)) ?_
      rintro _ H9 ⟨nx, n9, hRot, hn9, hH9⟩
      refine ⟨stands_cons (.inl rfl) (stands_cons (.inl rfl) stands_nil'), ?_⟩
      refine WD.toWR rfl ?_
      have htr : TurnR vs cur nx := ⟨r, hRr, hRot⟩
      have hT2 := hT.snoc hneg htr
      have hgr := own_grows (by omega) hneg htr
      have hole := own_le hV nx
      obtain ⟨e1, e2⟩ := give_bd hV hG hk hT2
      replace hH9 := hH9.sub (.cons_cons _ (List.sublist_append_right _ _))
      repeat' (first | refine zP ?_ | refine zA ?_ | (refine zM ?_; intro _ _) | refine zX ?_ | (refine zC ?_; intro _ _ _ _) | (refine zS ?_; intro _ _) | (apply Ws <;> intro hg))
      refine WR.call (by first | exact gN | exact gS rfl) rfl rfl (unenvied_fs (hDv e1 (lt_mono e2 hk)) hH9) ?_
      rintro _ HA ⟨rfl, nA, hnA, hHA⟩
      repeat' (first | refine zP ?_ | refine zA ?_ | (refine zM ?_; intro _ _) | refine zX ?_ | (refine zC ?_; intro _ _ _ _) | (refine zS ?_; intro _ _) | (apply Ws <;> intro hg))
      exact Ends.loop ⟨nx, nA⟩ (by simp only; omega) (by repeat' (first | exact .nil | refine .cons rfl ?_)) rfl ⟨hT2, by simp only; omega, hHA⟩
    · obtain ⟨j, hj⟩ : ∃ j : Nat, calmP vs cur = j := ⟨(calmP vs cur).toNat, by omega⟩
      rw [hj]
      repeat' (first | refine zP ?_ | refine zA ?_ | (refine zM ?_; intro _ _) | refine zX ?_ | (refine zC ?_; intro _ _ _ _) | (refine zS ?_; intro _ _) | (apply Ws <;> intro hg))
      refine WR.call (by first | exact gN | exact gS rfl) rfl rfl (give_fs hH7 hv1 (by omega) g1 (show j < n by omega) (fun s hs => lt_pow (g2 s hs) (by omega))) ?_
      rintro _ H8 ⟨n8, hn8, hH8⟩
      repeat' (first | refine zP ?_ | refine zA ?_ | (refine zM ?_; intro _ _) | refine zX ?_ | (refine zC ?_; intro _ _ _ _) | (refine zS ?_; intro _ _) | (apply Ws <;> intro hg))
      rw [show (k : Int) + 1 = ((k + 1 : Nat) : Int) by omega]
      exact Ends.loop ⟨k + 1, cur.set j (cur.getD j 0 ||| 2 ^ k), n8⟩ (by simp only; omega) (by repeat' (first | exact .nil | refine .cons rfl ?_)) rfl ⟨hk', .succ hG hT hj, by simp only; omega, hH8⟩
  · have hkm : k = m := by omega
    rw [hkm] at hG
    obtain ⟨av, cv, hv⟩ := hW.len
    repeat' (first | refine zP ?_ | refine zA ?_ | (refine zM ?_; intro _ _) | refine zX ?_ | (refine zC ?_; intro _ _ _ _) | (refine zS ?_; intro _ _) | (apply Ws <;> intro hg))
    refine WR.store2 (by first | exact gN | exact gS rfl) hH5 rfl rfl hv1 rfl (.there (.there .here)) fun H7 hH7 => ?_
    repeat' (first | refine zP ?_ | refine zA ?_ | (refine zM ?_; intro _ _) | refine zX ?_ | (refine zC ?_; intro _ _ _ _) | (refine zS ?_; intro _ _) | (apply Ws <;> intro hg))
    exact Ends.retCN rfl (read2 hH7 (.tail _ (.tail _ (.head _)))) ⟨b, ss, n5, hG, hn5, rfl, hH7.sub (.cons_cons _ ((List.sublist_cons_self _ _).trans (List.sublist_cons_self _ _)))⟩
theorem Rings_fs (hH : hasH M n0 H) {fs : List (List Int)} (hR : RowsI M v fs) (hl : fs.length ≤ 1000) (hll : ∀ l ∈ fs, l.length ≤ 1000) :
    FS C 35 [v] H (fun e H' => ∃ n', n0 ≤ n' ∧ ((valsE fs ≠ 0 ∧ e = .tuple #[.slice none 0 0, .int .i64 (valsE fs)] ∧ hasH M n' H') ∨
      (valsE fs = 0 ∧ ∃ b ss, GiveR (natV fs) fs.length (fs.getD 0 []).length ss ∧ e = .tuple #[.slice (some ⟨b, 0, some 0⟩) (fs.getD 0 []).length (2 * (fs.getD 0 []).length + 1), .int .i64 0] ∧ hasH ((b, .row 3 0 0 (ints ((List.range (fs.getD 0 []).length).map (ownN ss)))) :: M) n' H'))) := by
  refine FS.intro (pf := pf35) rfl rfl rfl ?_
  repeat' (first | refine zP ?_ | refine zA ?_ | (refine zM ?_; intro _ _) | refine zX ?_ | (refine zC ?_; intro _ _ _ _) | (refine zS ?_; intro _ _) | (apply Ws <;> intro hg))
  refine WR.call (by first | exact gN | exact gS rfl) rfl rfl (Check_fs hH hR hl hll) ?_
  rintro _ _ ⟨rfl, rfl⟩
  by_cases h1 : valsE fs = 0
  · obtain ⟨vs, n, m, rfl, hV⟩ := vals_ok h1
    have hfl : (ILL vs).length = n := by simp [hV.len]
    have hr0 : ((ILL vs).getD 0 []).length = m := by rw [map_getD (a := []) (by rw [hV.len]; exact hV.pos), List.length_map, hV.rowLen hV.pos]
    have hR' := RowsI.vals hR
    rw [h1, natV_ILL, hfl, hr0]
    repeat' (first | refine zP ?_ | refine zA ?_ | (refine zM ?_; intro _ _) | refine zX ?_ | (refine zC ?_; intro _ _ _ _) | (refine zS ?_; intro _ _) | refine zO ?_ | (apply Ws <;> intro hg))
    refine WR.call (by first | exact gN | exact gS rfl) rfl rfl (oneAfter_fs hH hV hR') ?_
    rintro _ H1 ⟨b, ss, n1, hG, hn1, rfl, hH1⟩
    obtain ⟨g1, g2⟩ := give_bd hV hG (Nat.le_refl _) (.refl ss)
    refine WR.call (by first | exact gN | exact gS rfl) rfl rfl (owners_fs (vs := vs) (ss := ss) (n := n) (m := m) hH1 ⟨hV, hR'.cons, Sl.mkd (by simp [g1]), g1, g2⟩) ?_
    rintro _ H2 ⟨b2, n2, rfl, hn2, hH2⟩
    repeat' (first | refine zP ?_ | refine zA ?_ | (refine zM ?_; intro _ _) | refine zX ?_ | (refine zC ?_; intro _ _ _ _) | (refine zS ?_; intro _ _) | (apply Ws <;> intro hg))
    exact Ends.ret2 rfl rfl ⟨n2, by omega, .inr ⟨rfl, b2, ss, hG, rfl, hH2.sub (.cons_cons _ (List.sublist_cons_self _ _))⟩⟩
  · repeat' (first | refine zP ?_ | refine zA ?_ | (refine zM ?_; intro _ _) | refine zX ?_ | (refine zC ?_; intro _ _ _ _) | (refine zS ?_; intro _ _) | refine zO ?_ | (apply Ws <;> intro hg))
    exact Ends.ret2 rfl rfl ⟨n0, Nat.le_refl _, .inl ⟨h1, rfl, hH⟩⟩
end
end Go.Proofs.Ytaipmdhnhffckaa.Sh

/- One after the other: the law's side. -/
namespace Go.Proofs.Ytaipmdhnhffckaa.Sh
open Go Go.Abs Go.Mth
set_option linter.unusedVariables false
set_option linter.unusedSimpArgs false
def AskN (M : HL) (g : FuncId) (vb : List Value) (p : Nat → Bool) (N : Nat) : Prop :=
  ∀ {X : HL} {n : Nat} {H : Heap} {x : Nat}, (∀ q ∈ M, q ∈ X) → hasH X n H → x < N → FS C g ([] ++ [.int .i64 (x : Int)] ++ vb) H (fun e H' => e = .bool (p x) ∧ ∃ n', n ≤ n' ∧ hasH X n' H')
/-- A division in which the first things have owners. -/
def PartO (o : List Int) (n m k : Nat) : Prop := o.length = m ∧ ∀ i, i < m → (i < k → 0 ≤ o.getD i 0 ∧ o.getD i 0 < (n : Int)) ∧ (k ≤ i → o.getD i 0 = -1)
theorem PartO.part {o : List Int} {n m k : Nat} (h : PartO o n m k) (hn : 1 ≤ n) : OKP o n m := ⟨h.1, fun x hx => by
  obtain ⟨i, hi, rfl⟩ := List.mem_iff_getElem.1 hx
  obtain ⟨h1, h2⟩ := h.2 i (by rw [← h.1]; exact hi)
  rw [getD_eq hi] at h1 h2
  rcases Nat.lt_or_ge i k with h3 | h3
  · have := h1 h3; omega
  · have := h2 h3; omega⟩
theorem PartO.full {o : List Int} {n m : Nat} (h : PartO o n m m) : OKD o n m := ⟨h.1, fun x hx => by
  obtain ⟨i, hi, rfl⟩ := List.mem_iff_getElem.1 hx
  obtain ⟨h1, _⟩ := h.2 i (by rw [← h.1]; exact hi)
  rw [getD_eq hi] at h1
  exact h1 (by rw [← h.1]; exact hi)⟩
theorem PartO.zero (n m : Nat) : PartO (List.replicate m (-1)) n m 0 := ⟨by simp, fun i hi => ⟨fun h => absurd h (Nat.not_lt_zero _), fun _ => by rw [getD_eq (by simpa using hi), List.getElem_replicate]⟩⟩
theorem PartO.next {o : List Int} {n m k j : Nat} (h : PartO o n m k) (hk : k < m) (hj : j < n) : PartO (o.set k (j : Int)) n m (k + 1) := ⟨by rw [List.length_set]; exact h.1, fun i hi => by
  rw [getD_set' (by rw [h.1]; exact hk)]
  obtain ⟨h1, h2⟩ := h.2 i hi
  by_cases e : i = k
  · rw [if_pos e]; exact ⟨fun _ => by omega, fun h => by omega⟩
  · rw [if_neg e]; exact ⟨fun h => h1 (by omega), fun h => h2 (by omega)⟩⟩
theorem PartO.free {o : List Int} {n m k : Nat} (h : PartO o n m k) (hk : k < m) : freeO o k = true := by
  unfold freeO
  rw [getD_eq (by rw [h.1]; exact hk), ← getD_eq (a := 0) (by rw [h.1]; exact hk), (h.2 k hk).2 (Nat.le_refl _)]; rfl
/-- Who gets what somebody has, when a ring is turned. -/
def RX (r : List Nat) (x y : Int) : Prop := (∃ q, q < r.length ∧ x = ((r.getD q 0 : Nat) : Int) ∧ y = ((r.getD ((q + 1) % r.length) 0 : Nat) : Int)) ∨ (x ∉ IL r ∧ y = x)
theorem next_inj {l q q' : Nat} (hq : q < l) (hq' : q' < l) (h : (q + 1) % l = (q' + 1) % l) : q = q' := by
  have h1 : (q + 1) % l = if q + 1 = l then 0 else q + 1 := by
    split
    · rename_i e; rw [e, Nat.mod_self]
    · exact Nat.mod_eq_of_lt (by omega)
  have h2 : (q' + 1) % l = if q' + 1 = l then 0 else q' + 1 := by
    split
    · rename_i e; rw [e, Nat.mod_self]
    · exact Nat.mod_eq_of_lt (by omega)
  rw [h1, h2] at h
  split at h <;> split at h <;> omega
theorem RX.iff {r : List Nat} {x y : Int} (hr : r.Nodup) (h : RX r x y) {q : Nat} (hq : q < r.length) : y = ((r.getD ((q + 1) % r.length) 0 : Nat) : Int) ↔ x = ((r.getD q 0 : Nat) : Int) := by
  have hl : 0 < r.length := by omega
  have inj : ∀ {a b : Nat}, a < r.length → b < r.length → r.getD a 0 = r.getD b 0 → a = b := fun ha hb e => by
    rw [getD_eq ha, getD_eq hb] at e; exact nodup_inj hr ha hb e
  rcases h with ⟨q', h1, rfl, rfl⟩ | ⟨h1, rfl⟩
  · constructor
    · intro e
      have := inj (Nat.mod_lt _ hl) (Nat.mod_lt _ hl) (Int.ofNat.inj e)
      have := next_inj h1 hq this
      subst this; rfl
    · intro e
      have := inj h1 hq (Int.ofNat.inj e)
      subst this; rfl
  · constructor
    · intro e
      exact absurd (by rw [e]; exact mem_cast.2 (getD_mem (Nat.mod_lt _ hl))) h1
    · intro e
      exact absurd (by rw [e]; exact mem_cast.2 (getD_mem hq)) h1
theorem RX.out {r : List Nat} {x y : Int} (h : RX r x y) {j : Nat} (hj : j ∉ r) : y = (j : Int) ↔ x = (j : Int) := by
  rcases h with ⟨q', h1, rfl, rfl⟩ | ⟨h1, rfl⟩
  · constructor
    · intro e
      exact absurd (by rw [← Int.ofNat.inj e]; exact getD_mem (Nat.mod_lt _ (by omega))) hj
    · intro e
      exact absurd (by rw [← Int.ofNat.inj e]; exact getD_mem h1) hj
  · exact Iff.rfl
theorem rot_owners {r : List Nat} {o c : List Int} {n m : Nat} (hr : r.Nodup) (hb : ∀ x ∈ r, x < n) (ho : o.length = m) (hc : c.length = m) (h : ∀ i, i < m → RX r (o.getD i 0) (c.getD i 0)) : RotR r (shs n o) (shs n c) := by
  have hbit : ∀ {q : List Int} {j i : Nat}, q.length = m → ((shr q j).testBit i = true ↔ i < m ∧ q.getD i 0 = (j : Int)) := fun {q j i} hq => by
    rw [shr_bit, hq]
    refine and_congr_right fun hi => ?_
    rw [getD_eq (by omega), getD_eq (by omega)]
  refine ⟨by simp [shs], fun q hq => ?_, fun j hj => ?_⟩
  · have h1 := hb _ (getD_mem (a := 0) hq)
    have h2 := hb _ (getD_mem (a := 0) (Nat.mod_lt (q + 1) (show 0 < r.length by omega)))
    rw [shs_get _ h1, shs_get _ h2]
    refine Nat.eq_of_testBit_eq fun i => ?_
    rw [Bool.eq_iff_iff, hbit hc, hbit ho]
    exact and_congr_right fun hi => (h i hi).iff hr hq
  · by_cases hjn : j < n
    · rw [shs_get _ hjn, shs_get _ hjn]
      refine Nat.eq_of_testBit_eq fun i => ?_
      rw [Bool.eq_iff_iff, hbit hc, hbit ho]
      exact and_congr_right fun hi => (h i hi).out hj
    · rw [List.getD_eq_getElem?_getD, List.getD_eq_getElem?_getD, List.getElem?_eq_none (by simp [shs]; omega), List.getElem?_eq_none (by simp [shs]; omega)]
theorem PartO.turned {r : List Nat} {o c : List Int} {n m k : Nat} (hb : ∀ x ∈ r, x < n) (hp : PartO o n m k) (hc : c.length = m) (h : ∀ i, i < m → RX r (o.getD i 0) (c.getD i 0)) : PartO c n m k := ⟨hc, fun i hi => by
  obtain ⟨h1, h2⟩ := hp.2 i hi
  rcases h i hi with ⟨q, g1, g2, g3⟩ | ⟨g1, g2⟩
  · have := hb _ (getD_mem (a := 0) (Nat.mod_lt (q + 1) (show 0 < r.length by omega)))
    refine ⟨fun _ => by omega, fun hk => ?_⟩
    have := h2 hk; omega
  · rw [g2]; exact ⟨h1, h2⟩⟩
theorem give_fair {vs : List (List Nat)} {n m k : Nat} {ss : List Nat} (hV : OKV vs n m) (h : GiveR vs n k ss) (hk : k ≤ m) : 0 < fairN vs ss := fair_pos.2 (give_all hV h hk).2.2
structure KOO where
  k : Nat
  o : List Int
  n : Nat
structure KIN where
  o : List Int
  n : Nat
attribute [local irreducible] gOK WS WC WR WD Ends FS YS OpV seqK blockK loopK midK retK rdK asgK rangeEnd sat Cell
section
variable {M : HL} {n0 : Nat} {H : Heap} {v w : Value} {vs : List (List Nat)} {n m : Nat} {o : List Int}
theorem lfirst_fs (hH : hasH M n0 H) {N : Nat} {g : FuncId} {vb : List Value} {p : Nat → Bool} (hq : AskN M g vb p N) (hN : N ≤ 100) :
    FS C 48 [.int .i64 (N : Int), .func (.func g) [].toArray vb.toArray] H (fun e H' => e = .int .i64 (firstN p N) ∧ ∃ n', n0 ≤ n' ∧ hasH M n' H') := by
  refine FS.intro (pf := pf48) rfl rfl rfl ?_
  repeat' (first | refine zP ?_ | refine zA ?_ | (refine zM ?_; intro _ _) | refine zX ?_ | (refine zC ?_; intro _ _ _ _) | (refine zS ?_; intro _ _) | (apply Ws <;> intro hg))
  refine WC.loopX [(0, _), (1, _), (6, _)] (fun s : KC => [(7, .int .i64 (s.k : Int))]) [] (fun s H' => s.k ≤ N ∧ n0 ≤ s.n ∧ hasH M s.n H' ∧ ∀ j, j < s.k → p j = false) (fun s => N - s.k) ⟨0, n0⟩ (by repeat' (first | exact .nil | refine .cons rfl ?_)) rfl ⟨Nat.zero_le _, Nat.le_refl _, hH, fun j h => absurd h (Nat.not_lt_zero _)⟩ ?_
  clear hH
  rintro ⟨k, n1⟩ H1 ⟨hk, hn1, hH1, hno⟩
  simp only at hk hn1 hH1 hno
  dsimp only [List.cons_append, List.nil_append]
  repeat' (first | refine zP ?_ | refine zA ?_ | (refine zM ?_; intro _ _) | refine zX ?_ | (refine zC ?_; intro _ _ _ _) | (refine zS ?_; intro _ _) | (apply Ws <;> intro hg))
  refine WC.condP rfl (fun hlt => ?_) (fun hlt => ?_)
  · have hk' : k < N := by omega
    repeat' (first | refine zP ?_ | refine zA ?_ | (refine zM ?_; intro _ _) | refine zX ?_ | (refine zC ?_; intro _ _ _ _) | (refine zS ?_; intro _ _) | (apply Ws <;> intro hg))
    refine WR.callV (va := []) (by first | exact gN | exact gS rfl) rfl rfl rfl (hq (fun q h => h) hH1 hk') ?_
    rintro _ H2 ⟨rfl, n2, hn2, hH2⟩
    cases hp : p k with
    | true =>
      repeat' (first | refine zP ?_ | refine zA ?_ | (refine zM ?_; intro _ _) | refine zX ?_ | (refine zC ?_; intro _ _ _ _) | (refine zS ?_; intro _ _) | (apply Ws <;> intro hg))
      exact Ends.ret1 rfl ⟨by rw [first_at hk' hp hno], n2, by omega, hH2⟩
    | false =>
      repeat' (first | refine zP ?_ | refine zA ?_ | (refine zM ?_; intro _ _) | refine zX ?_ | (refine zC ?_; intro _ _ _ _) | (refine zS ?_; intro _ _) | (apply Ws <;> intro hg))
      rw [show (k : Int) + 1 = ((k + 1 : Nat) : Int) by omega]
      refine Ends.loop ⟨k + 1, n2⟩ (by simp only; omega) (by repeat' (first | exact .nil | refine .cons rfl ?_)) rfl ⟨hk', by simp only; omega, hH2, fun j hj => ?_⟩
      simp only at hj
      by_cases e : j = k
      · rw [e]; exact hp
      · exact hno j (by omega)
  · have hkl : k = N := by omega
    subst hkl
    repeat' (first | refine zP ?_ | refine zA ?_ | (refine zM ?_; intro _ _) | refine zX ?_ | (refine zC ?_; intro _ _ _ _) | (refine zS ?_; intro _ _) | (apply Ws <;> intro hg))
    refine Ends.ret1 rfl ⟨?_, n1, hn1, hH1⟩
    have h1 := (first_none (p := p) (n := k)).2 hno
    have h2 := first_bd (p := p) k
    rw [show firstN p k = -1 by omega]
theorem enemy1_fs {nw nj j i : Nat} {u : Value} {us : List Value} (hH : hasH M n0 H) (hV : OKV vs n m) (hu : Sl M 1 u us) (hR : RowsN M us (worM vs (shs n o))) (hi : i < n) (hj : j < n) (hmw : (nw, Ch.row 22 0 0 [u]) ∈ M) (hmj : (nj, Ch.row 3 0 0 [.int .i64 (j : Int)]) ∈ M) :
    FS C 101 [.int .i64 (i : Int), .pointer (some ⟨nw, 0, some 0⟩), .pointer (some ⟨nj, 0, some 0⟩)] H (fun e H' => e = .bool (envP vs (shs n o) i j) ∧ H' = H) := by
  have hvl := hV.len
  have hwl : (worM vs (shs n o)).length = n := by simp [worM, hvl]
  have hul : us.length = n := by rw [hR.1, hwl]
  have hri := hR.2 i (by omega)
  have hRl : ((worM vs (shs n o)).getD i []).length = n := by rw [worM_get (by omega), List.length_map, shs_len]
  have hRj : ((worM vs (shs n o)).getD i []).getD j 0 = wor (vs.getD i []) (shr o j) := by rw [worM_at (by omega) (by rw [shs_len]; exact hj), shs_get _ hj]
  have hRi : ((worM vs (shs n o)).getD i []).getD i 0 = wor (vs.getD i []) (shr o i) := by rw [worM_at (by omega) (by rw [shs_len]; exact hi), shs_get _ hi]
  generalize (worM vs (shs n o)).getD i [] = R at hri hRl hRj hRi
  refine FS.intro (pf := pf101) rfl rfl rfl ?_
  repeat' (first | refine zP ?_ | refine zA ?_ | (refine zM ?_; intro _ _) | refine zX ?_ | (refine zC ?_; intro _ _ _ _) | (refine zS ?_; intro _ _) | (apply Ws <;> intro hg))
  refine Ends.ret1 rfl ⟨?_, rfl⟩
  congr 1
  unfold envP envB
  rw [shs_get _ hi, shs_get _ hj, decide_eq_decide, hRj, hRi]; omega
theorem enemy_fs (hH : hasH M n0 H) (hV : OKV vs n m) (hR : ValsN M v vs) (hO : Sl M 1 w (ints o)) (ho : OKP o n m) {j : Nat} (hj : j < n) :
    FS C 50 [v, w, .int .i64 (j : Int)] H (fun e H' => e = .int .i64 (enP vs (shs n o) j) ∧ ∃ n', n0 ≤ n' ∧ hasH M n' H') := by
  have hvl := hV.len
  have hn4 := hV.n4
  refine FS.intro (pf := pf50) rfl rfl rfl ?_
  repeat' (first | refine zP ?_ | refine zA ?_ | (refine zM ?_; intro _ _) | refine zX ?_ | (refine zC ?_; intro _ _ _ _) | (refine zS ?_; intro _ _) | (apply Ws <;> intro hg))
  rename_i H1 hH1
  refine WR.call (by first | exact gN | exact gS rfl) rfl rfl (worths_fs hH1 hV hR.cons hO.cons ho) ?_
  rintro _ H2 ⟨us, Mi, n2, rfl, hRW, hn2, hH2⟩
  have hul : us.length = n := by rw [hRW.1]; simp [worM, hvl]
  have hSu : Sl ((n0 + 1, .row 23 0 0 us) :: (Mi ++ (n0, .row 3 0 0 [.int .i64 (j : Int)]) :: M)) 1 (.slice (some ⟨n0 + 1, 0, some 0⟩) n (2 * n + 1)) us := Sl.mkd hul
  have hRU : RowsN ((n0 + 1, .row 23 0 0 us) :: (Mi ++ (n0, .row 3 0 0 [.int .i64 (j : Int)]) :: M)) us (worM vs (shs n o)) := hRW.cons
  have hmj : (n0, Ch.row 3 0 0 [.int .i64 (j : Int)]) ∈ (n0 + 1, Ch.row 23 0 0 us) :: (Mi ++ (n0, .row 3 0 0 [.int .i64 (j : Int)]) :: M) := .tail _ (List.mem_append_right _ (.head _))
  have hback : ∀ {n' : Nat} {H' : Heap}, hasH ((n0 + 1, Ch.row 23 0 0 us) :: (Mi ++ (n0, .row 3 0 0 [.int .i64 (j : Int)]) :: M)) n' H' → hasH M n' H' := fun h => h.sub (((List.sublist_cons_self _ _).trans (List.sublist_append_right _ _)).trans (List.sublist_cons_self _ _))
  clear hH1 hRW
  generalize (n0 + 1, Ch.row 23 0 0 us) :: (Mi ++ (n0, Ch.row 3 0 0 [Value.int .i64 (j : Int)]) :: M) = T at hH2 hSu hRU hmj hback
  have hu1 := hSu.one_
  generalize Value.slice (some ⟨n0 + 1, 0, some 0⟩) n (2 * n + 1) = u at hSu hu1 ⊢
  repeat' (first | refine zP ?_ | refine zA ?_ | (refine zM ?_; intro _ _) | refine zX ?_ | (refine zC ?_; intro _ _ _ _) | (refine zS ?_; intro _ _) | (apply Ws <;> intro hg))
  rename_i H3 hH3 H4 hH4
  have hSu4 := hSu.cons (p := (n2, .row 22 0 0 [u]))
  repeat' (first | refine zP ?_ | refine zA ?_ | (refine zM ?_; intro _ _) | refine zX ?_ | (refine zC ?_; intro _ _ _ _) | (refine zS ?_; intro _ _) | (apply Ws <;> intro hg))
  rw [hul]
  refine WR.call (by first | exact gN | exact gS rfl) rfl rfl (lfirst_fs (p := fun i => envP vs (shs n o) i j) hH4 (g := 101) (vb := [.pointer (some ⟨n2, 0, some 0⟩), .pointer (some ⟨n0, 0, some 0⟩)]) (fun {X n' H' x} hX hH' hx => (enemy1_fs hH' hV (hSu4.mono hX) (hRU.cons.mono hX) hx hj (hX _ (.head _)) (hX _ (.tail _ hmj))).mono fun e H2 ⟨g1, g2⟩ => ⟨g1, n', Nat.le_refl _, by rw [g2]; exact hH'⟩) (by omega)) ?_
  rintro _ H5 ⟨rfl, n5, hn5, hH5⟩
  repeat' (first | refine zP ?_ | refine zA ?_ | (refine zM ?_; intro _ _) | refine zX ?_ | (refine zC ?_; intro _ _ _ _) | (refine zS ?_; intro _ _) | (apply Ws <;> intro hg))
  refine Ends.ret1 rfl ⟨?_, n5, by omega, hback hH5.tail⟩
  unfold enP
  rw [hvl]
theorem quiet1_fs {nv no j : Nat} (hH : hasH M n0 H) (hV : OKV vs n m) (hR : ValsN M v vs) (hO : Sl M 1 w (ints o)) (ho : OKP o n m) (hj : j < n) (hmv : (nv, Ch.row 22 0 0 [v]) ∈ M) (hmo : (no, Ch.row 23 0 0 [w]) ∈ M) :
    FS C 49 [.int .i64 (j : Int), .pointer (some ⟨nv, 0, some 0⟩), .pointer (some ⟨no, 0, some 0⟩)] H (fun e H' => e = .bool (decide (enP vs (shs n o) j < 0)) ∧ ∃ n', n0 ≤ n' ∧ hasH M n' H') := by
  refine FS.intro (pf := pf49) rfl rfl rfl ?_
  repeat' (first | refine zP ?_ | refine zA ?_ | (refine zM ?_; intro _ _) | refine zX ?_ | (refine zC ?_; intro _ _ _ _) | (refine zS ?_; intro _ _) | (apply Ws <;> intro hg))
  refine WR.call (by first | exact gN | exact gS rfl) rfl rfl (enemy_fs hH hV hR hO ho hj) ?_
  rintro _ H1 ⟨rfl, n1, hn1, hH1⟩
  repeat' (first | refine zP ?_ | refine zA ?_ | (refine zM ?_; intro _ _) | refine zX ?_ | (refine zC ?_; intro _ _ _ _) | (refine zS ?_; intro _ _) | (apply Ws <;> intro hg))
  exact Ends.ret1 rfl ⟨rfl, n1, hn1, hH1⟩
theorem quiet2_fs {nv no j : Nat} (hH : hasH M n0 H) (hV : OKV vs n m) (hR : ValsN M v vs) (hO : Sl M 1 w (ints o)) (ho : OKP o n m) (hj : j < n) (hmv : (nv, Ch.row 22 0 0 [v]) ∈ M) (hmo : (no, Ch.row 23 0 0 [w]) ∈ M) :
    FS C 54 [.int .i64 (j : Int), .pointer (some ⟨nv, 0, some 0⟩), .pointer (some ⟨no, 0, some 0⟩)] H (fun e H' => e = .bool (decide (enP vs (shs n o) j < 0)) ∧ ∃ n', n0 ≤ n' ∧ hasH M n' H') := by
  refine FS.intro (pf := pf54) rfl rfl rfl ?_
  repeat' (first | refine zP ?_ | refine zA ?_ | (refine zM ?_; intro _ _) | refine zX ?_ | (refine zC ?_; intro _ _ _ _) | (refine zS ?_; intro _ _) | (apply Ws <;> intro hg))
  refine WR.call (by first | exact gN | exact gS rfl) rfl rfl (enemy_fs hH hV hR hO ho hj) ?_
  rintro _ H1 ⟨rfl, n1, hn1, hH1⟩
  repeat' (first | refine zP ?_ | refine zA ?_ | (refine zM ?_; intro _ _) | refine zX ?_ | (refine zC ?_; intro _ _ _ _) | (refine zS ?_; intro _ _) | (apply Ws <;> intro hg))
  exact Ends.ret1 rfl ⟨rfl, n1, hn1, hH1⟩
end
end Go.Proofs.Ytaipmdhnhffckaa.Sh

namespace Go.Proofs.Ytaipmdhnhffckaa.Sh
open Go Go.Abs Go.Mth
set_option linter.unusedVariables false
set_option linter.unusedSimpArgs false
theorem pairs_empty {p : Nat → Nat → Bool} {n : Nat} (h : ∀ a b, a < n → b < n → p a b = false) : pairsL p n = [] := pairs_nil.2 h
structure KLL where
  i : Nat
  l : List Int
attribute [local irreducible] gOK WS WC WR WD Ends FS YS OpV seqK blockK loopK midK retK rdK asgK rangeEnd sat Cell
section
variable {M : HL} {n0 : Nat} {H : Heap}
set_option maxHeartbeats 16000000 in
theorem ShareRings_fs (hH : hasH M n0 H) {a b : Int} {hs : List Int} (ha : 0 ≤ a ∧ a ≤ 255) (hb : 0 ≤ b ∧ b ≤ 255) (hl : hs.length = 24) (hu : ∀ x ∈ hs, 0 ≤ x ∧ x ≤ 255) :
    FS C 7 [.agg (heapV a b hs).toArray] H (fun e H' => e = .bool true) := by
  have hone := heap_one a b hs
  refine FS.intro (pf := pf7) rfl rfl rfl ?_
  repeat' (first | refine zP ?_ | refine zA ?_ | (refine zM ?_; intro _ _) | refine zX ?_ | (refine zC ?_; intro _ _ _ _) | (refine zS ?_; intro _ _))
  rename_i H1 hH1
  refine WR.op (by first | exact gN | exact gS rfl) rfl (OpV.loadAll (k := 26) rfl hH1 (.head _) (.row _ _ _ _) (by simp [heapV, hl])) ?_
  refine WR.call (by first | exact gN | exact gS rfl) rfl rfl (made_fs hH1 ha hb hl hu (fi := 4) (th := 6) (most := 20) (by omega) (by omega) (by omega)) ?_
  rintro v H3 ⟨ws, Mo, Mi, n3, hO, hR, hn3, hH3⟩
  clear hH1
  have hV := made_ok (a := a) (b := b) (hs := hs) (fi := 4) (th := 6) (most := 20) (by omega) (by omega) (by omega)
  have hSv := hO.own.sl (Mi ++ (n0, Ch.row 49 0 0 (heapV a b hs)) :: M)
  have hRU := hR.mono (M' := Mo ++ (Mi ++ (n0, Ch.row 49 0 0 (heapV a b hs)) :: M)) fun q hq => List.mem_append_right _ hq
  have hwl : ws.length = 1 + a.toNat % 4 := by rw [hR.1, hV.len]
  clear hO hone hR
  generalize Mo ++ (Mi ++ (n0, Ch.row 49 0 0 (heapV a b hs)) :: M) = U at hH3 hRU hSv
  generalize madeVs a b hs 4 6 20 = vs at hRU hV
  generalize 1 + a.toNat % 4 = N at hV hwl
  generalize b.toNat % (6 + 1) = m at hV
  have hN1 := hV.pos
  have hN4 := hV.n4
  have hm6 := hV.m6
  have hvl := hV.len
  have hv1 := hSv.one_
  have hr0 := hRU.2 0 (by omega)
  have hrl := hV.rowLen hN1
  repeat' (first | refine zP ?_ | refine zA ?_ | (refine zM ?_; intro _ _) | refine zX ?_ | (refine zC ?_; intro _ _ _ _) | (refine zS ?_; intro _ _) | (apply Ws <;> intro hg))
  rename_i H4 hH4 H5 hH5
  clear hH3 hH4
  have hSv5 := hSv.cons (p := (n3, .row 22 0 0 [v]))
  have hr05 := hr0.cons (p := (n3, .row 22 0 0 [v]))
  refine WR.bldS (by first | exact gN | exact gS rfl) rfl hH5 (vs := [(0, .int .i64 (-1))]) rfl (cs := ints [-1]) (by rfl) rfl fun H6 hH6 => ?_
  replace hSv5 := hSv5.cons (p := (n3 + 1, .row 3 0 0 (ints [-1])))
  replace hr05 := hr05.cons (p := (n3 + 1, .row 3 0 0 (ints [-1])))
  repeat' (first | refine zP ?_ | refine zA ?_ | (refine zM ?_; intro _ _) | refine zX ?_ | (refine zC ?_; intro _ _ _ _) | (refine zS ?_; intro _ _) | (apply Ws <;> intro hg))
  rw [hrl]
  refine WR.call (by first | exact gN | exact gS rfl) rfl rfl (Repeat_fs hH6 (a := -1) (Sl.mkd rfl) hm6) ?_
  rintro _ H7 ⟨rb, n7, rfl, hn7, hH7⟩
  clear hH5 hH6
  replace hH7 : hasH ((rb, .row 3 0 0 (ints (List.replicate m (-1)))) :: (n3, .row 22 0 0 [v]) :: U) n7 H7 := hH7.sub (.cons_cons _ (List.sublist_cons_self _ _))
  clear hSv5 hr05
  repeat' (first | refine zP ?_ | refine zA ?_ | (refine zM ?_; intro _ _) | refine zX ?_ | (refine zC ?_; intro _ _ _ _) | (refine zS ?_; intro _ _) | (apply Ws <;> intro hg))
  rename_i H8 hH8 H9 hH9
  clear hH7 hH8
  replace hH9 := hH9.swap
  have hmv : (n3, Ch.row 22 0 0 [v]) ∈ (n7, Ch.row 23 0 0 [.slice (some ⟨rb, 0, some 0⟩) m (2 * m + 1)]) :: (n3, .row 22 0 0 [v]) :: U := .tail _ (.head _)
  have hmo : (n7, Ch.row 23 0 0 [.slice (some ⟨rb, 0, some 0⟩) m (2 * m + 1)]) ∈ (n7, Ch.row 23 0 0 [.slice (some ⟨rb, 0, some 0⟩) m (2 * m + 1)]) :: (n3, .row 22 0 0 [v]) :: U := .head _
  replace hSv := (hSv.cons (p := (n3, .row 22 0 0 [v]))).cons (p := (n7, Ch.row 23 0 0 [.slice (some ⟨rb, 0, some 0⟩) m (2 * m + 1)]))
  replace hRU := (hRU.cons (p := (n3, .row 22 0 0 [v]))).cons (p := (n7, Ch.row 23 0 0 [.slice (some ⟨rb, 0, some 0⟩) m (2 * m + 1)]))
  clear hr0
  generalize (n7, Ch.row 23 0 0 [Value.slice (some ⟨rb, 0, some 0⟩) m (2 * m + 1)]) :: (n3, Ch.row 22 0 0 [v]) :: U = X at hH9 hmv hmo hSv hRU
  have hVal : ValsN X v vs := ⟨ws, hSv, hRU⟩
  have hOw : ∀ {l : List Int}, l.length = m → Sl ((rb, .row 3 0 0 (ints l)) :: X) 1 (.slice (some ⟨rb, 0, some 0⟩) m (2 * m + 1)) (ints l) := fun h => Sl.mkd (by simp [h])
  have hmv' : ∀ {l : List Int}, (n3, Ch.row 22 0 0 [v]) ∈ (rb, Ch.row 3 0 0 (ints l)) :: X := .tail _ hmv
  have hmo' : ∀ {l : List Int}, (n7, Ch.row 23 0 0 [.slice (some ⟨rb, 0, some 0⟩) m (2 * m + 1)]) ∈ (rb, Ch.row 3 0 0 (ints l)) :: X := .tail _ hmo
  have hmo0 := hmo' (l := List.replicate m (-1))
  repeat' (first | refine zP ?_ | refine zA ?_ | (refine zM ?_; intro _ _) | refine zX ?_ | (refine zC ?_; intro _ _ _ _) | (refine zS ?_; intro _ _) | (apply Ws <;> intro hg))
  clear hmo0
  refine WC.loopX [(1, _), (3, _), (4, _), (30, _), (31, _)] (fun s : KOO => [(32, .int .i64 (s.k : Int))]) []
    (fun s H' => s.k ≤ m ∧ PartO s.o N m s.k ∧ GiveR vs N s.k (shs N s.o) ∧ hasH ((rb, .row 3 0 0 (ints s.o)) :: X) s.n H') (fun s => m - s.k) ⟨0, List.replicate m (-1), n7 + 1⟩ (by repeat' (first | exact .nil | refine .cons rfl ?_)) rfl
    ⟨Nat.zero_le _, PartO.zero N m, by simp only; rw [shs_free]; exact .zero, hH9⟩ ?_
  clear hH9
  rintro ⟨k, o, nA⟩ HA ⟨hk, hP, hG, hHA⟩
  simp only at hk hP hG hHA
  have hol := hP.1
  dsimp only [List.cons_append, List.nil_append]
  repeat' (first | refine zP ?_ | refine zA ?_ | (refine zM ?_; intro _ _) | refine zX ?_ | (refine zC ?_; intro _ _ _ _) | (refine zS ?_; intro _ _) | (apply Ws <;> intro hg))
  refine WC.condP rfl (fun hlt => ?_) (fun hlt => ?_)
  · have hk' : k < m := by omega
    have hmv1 := hmv' (l := o)
    have hmo1 := hmo' (l := o)
    have hSv1 := hSv.cons (p := (rb, .row 3 0 0 (ints o)))
    repeat' (first | refine zP ?_ | refine zA ?_ | (refine zM ?_; intro _ _) | refine zX ?_ | (refine zC ?_; intro _ _ _ _) | (refine zS ?_; intro _ _) | (apply Ws <;> intro hg))
    rw [hwl]
    refine WR.call (by first | exact gN | exact gS rfl) rfl rfl (lfirst_fs (p := fun j => decide (enP vs (shs N o) j < 0)) hHA (g := 49) (vb := [.pointer (some ⟨n3, 0, some 0⟩), .pointer (some ⟨n7, 0, some 0⟩)]) (fun {Y n' H' x} hX hH' hx => quiet1_fs hH' hV (hVal.cons.mono hX) ((hOw hol).mono hX) (hP.part hN1) hx (hX _ hmv1) (hX _ hmo1)) (by omega)) ?_
    rintro _ HB ⟨rfl, nB, hnB, hHB⟩
    rw [show firstN (fun j => decide (enP vs (shs N o) j < 0)) N = calmP vs (shs N o) by unfold calmP; rw [hvl]]
    clear hHA hmv1 hmo1 hSv1
    repeat' (first | refine zP ?_ | refine zA ?_ | (refine zM ?_; intro _ _) | refine zX ?_ | (refine zC ?_; intro _ _ _ _) | (refine zS ?_; intro _ _) | (apply Ws <;> intro hg))
    refine WC.loopX [(1, _), (3, _), (4, _), (5, _), (30, _), (31, _), (32, _)] (fun s : KIN => [(6, .int .i64 (calmP vs (shs N s.o)))]) []
      (fun s H' => PartO s.o N m k ∧ TurnsR vs (shs N o) (shs N s.o) ∧ hasH ((rb, .row 3 0 0 (ints s.o)) :: X) s.n H') (fun s => 481 - ownS vs (shs N s.o)) ⟨o, nB⟩ (by repeat' (first | exact .nil | refine .cons rfl ?_)) rfl
      ⟨hP, .refl _, hHB⟩ ?_
    clear hHB
    rintro ⟨c, nC⟩ HC ⟨hPc, hT, hHC⟩
    simp only at hPc hT hHC
    have hcl := hPc.1
    have hcb := calm_bd vs (shs N c)
    have hmv2 := hmv' (l := c)
    have hmo2 := hmo' (l := c)
    have hSv2 := hSv.cons (p := (rb, .row 3 0 0 (ints c)))
    dsimp only [List.cons_append, List.nil_append]
    repeat' (first | refine zP ?_ | refine zA ?_ | (refine zM ?_; intro _ _) | refine zX ?_ | (refine zC ?_; intro _ _ _ _) | (refine zS ?_; intro _ _) | (apply Ws <;> intro hg))
    refine WC.condP rfl (fun hneg => ?_) (fun hneg => ?_)
    · repeat' (first | refine zP ?_ | refine zA ?_ | (refine zM ?_; intro _ _) | refine zX ?_ | (refine zC ?_; intro _ _ _ _) | (refine zS ?_; intro _ _) | (apply Ws <;> intro hg))
      refine WR.bldS (by first | exact gN | exact gS rfl) rfl hHC (vs := [(0, .int .i64 0)]) rfl (cs := nodes [0]) (by rfl) rfl fun HD hHD => ?_
      refine WR.call (by first | exact gN | exact gS rfl) rfl rfl (FS.intro (pf := pf51) rfl rfl rfl (R := fun e H' => e = .slice (some ⟨nC, 0, some 0⟩) 1 3 ∧ H' = HD) ?_) ?_
      · repeat' (first | refine zP ?_ | refine zA ?_ | (refine zM ?_; intro _ _) | refine zX ?_ | (refine zC ?_; intro _ _ _ _) | (refine zS ?_; intro _ _) | (apply Ws <;> intro hg))
        exact Ends.ret1 rfl ⟨rfl, rfl⟩
      rintro _ _ ⟨rfl, rfl⟩
      have hOc := (hOw hcl)
      replace hHD := hHD.asInp .here
      have hmv3 := List.mem_cons_of_mem (nC, Ch.inp 3 0 0 (nodes [0])) hmv2
      have hmo3 := List.mem_cons_of_mem (nC, Ch.inp 3 0 0 (nodes [0])) hmo2
      repeat' (first | refine zP ?_ | refine zA ?_ | (refine zM ?_; intro _ _) | refine zX ?_ | (refine zC ?_; intro _ _ _ _) | (refine zS ?_; intro _ _) | (apply Ws <;> intro hg))
      refine WR.call (by first | exact gN | exact gS rfl) rfl rfl (enemy_fs (j := 0) hHD hV hVal.cons.cons hOc.cons (hPc.part hN1) hN1) ?_
      rintro _ HE ⟨rfl, nE, hnE, hHE⟩
      have hw0 : posW vs (shs N c) 0 = 0 := rfl
      have hen0 := all_envied hneg (j := 0) (by omega)
      have hp1 : enP vs (shs N c) 0 = ((posW vs (shs N c) 1 : Nat) : Int) := by show _ = (((enP vs (shs N c) 0).toNat : Nat) : Int); omega
      rw [hp1]
      clear hHD hHC hmv3 hmo3
      repeat' (first | refine zP ?_ | refine zA ?_ | (refine zM ?_; intro _ _) | refine zX ?_ | (refine zC ?_; intro _ _ _ _) | (refine zS ?_; intro _ _) | (apply Ws <;> intro hg))
      refine WC.loopX [(1, _), (3, _), (4, _), (5, _), (6, _), (30, _), (31, _), (32, _)] (fun s : KW2 => [(7, s.v), (8, .int .i64 (posW vs (shs N c) s.t : Nat))]) []
        (fun s H' => (wayL vs (shs N c) s.t).Nodup ∧ Own 3 1 s.v (nodes (wayL vs (shs N c) s.t)) s.Mx ∧ hasH (s.Mx ++ ((rb, .row 3 0 0 (ints c)) :: X)) s.n H') (fun s => N + 1 - s.t) ⟨1, .slice (some ⟨nC, 0, some 0⟩) 1 3, [(nC, .inp 3 0 0 (nodes [0]))], nE⟩ (by repeat' (first | exact .nil | refine .cons rfl ?_)) rfl
        ⟨by simp [wayL], Own.full (len := 1) rfl rfl, hHE⟩ ?_
      clear hHE
      rintro ⟨t, w, Mx, nF⟩ HF ⟨hnd, hOww, hHF⟩
      simp only at hnd hOww hHF
      have htn := way_short (by omega) hneg hnd
      have hwal := way_len vs (shs N c) t
      have hpl := pos_lt (by omega) hneg t
      have hS0 : Sl Mx 1 w (nodes (wayL vs (shs N c) t)) := by have := hOww.sl []; rwa [List.append_nil] at this
      have hSi : Sl (Mx ++ ((rb, .row 3 0 0 (ints c)) :: X)) 1 w (ints (IL (wayL vs (shs N c) t))) := Sl.asInts (hS0.mono fun q hq => List.mem_append_left _ hq)
      have hil : (IL (wayL vs (shs N c) t)).length = t := by simp [hwal]
      have hmem : ((posW vs (shs N c) t : Nat) : Int) ∈ IL (wayL vs (shs N c) t) ↔ posW vs (shs N c) t ∈ wayL vs (shs N c) t := mem_cast
      have hmv4 := List.mem_append_right Mx hmv2
      have hmo4 := List.mem_append_right Mx hmo2
      dsimp only [List.cons_append, List.nil_append]
      repeat' (first | refine zP ?_ | refine zA ?_ | (refine zM ?_; intro _ _) | refine zX ?_ | (refine zC ?_; intro _ _ _ _) | (refine zS ?_; intro _ _) | (apply Ws <;> intro hg))
      refine WR.call (by first | exact gN | exact gS rfl) rfl rfl (Contains_fs hHF hSi (by omega) _) ?_
      rintro _ _ ⟨rfl, rfl⟩
      by_cases hin : posW vs (shs N c) t ∈ wayL vs (shs N c) t
      · rw [decide_eq_true (hmem.2 hin)]
        repeat' (first | refine zP ?_ | refine zA ?_ | (refine zM ?_; intro _ _) | refine zX ?_ | (refine zC ?_; intro _ _ _ _) | (refine zS ?_; intro _ _) | refine zO ?_ | (apply Ws <;> intro hg))
        refine WR.call (by first | exact gN | exact gS rfl) rfl rfl (Index_fs hHF hSi (by omega) _) ?_
        rintro _ _ ⟨rfl, ⟨s, hs', he, _, rfl⟩ | ⟨hno, _⟩⟩
        · have hst : s < t := by omega
          rw [IL_get (by omega), way_get hst] at he
          refine WR.slS (vl := some (.int .i64 (s : Int))) (vh := none) (a := s) (b := t) (by first | exact gN | exact gS rfl) rfl rfl hS0 (by rfl) rfl rfl (fun len h => ?_) (by omega) (by simp [hwal]) (Nat.le_refl _) fun rv hrv => ?_
          · simp [hwal] at h
            show some len = some t
            rw [h]
          obtain ⟨r, hr⟩ : ∃ r, r = (wayL vs (shs N c) t).drop s := ⟨_, rfl⟩
          rw [Nat.mul_one, Nat.mul_one, List.take_of_length_le (by simp [hwal]), show (nodes (wayL vs (shs N c) t)).drop s = nodes r by rw [hr]; simp [List.map_drop]] at hrv
          have hRr : RingR vs (shs N c) r := ⟨s, t, hst, hnd, by omega, hr⟩
          obtain ⟨rp1, rp2, rp3, rp4⟩ := ring_props (by omega) hneg hRr
          rw [hvl] at rp3
          have hrl' : r.length ≤ N := nodup_le N r rp2 rp3
          replace hHF := hHF.perm (M' := (rb, .row 3 0 0 (ints c)) :: (Mx ++ X)) List.perm_middle
          have hmo5 : ∀ {l : List Int}, (n7, Ch.row 23 0 0 [.slice (some ⟨rb, 0, some 0⟩) m (2 * m + 1)]) ∈ (rb, Ch.row 3 0 0 (ints l)) :: (Mx ++ X) := .tail _ (List.mem_append_right _ hmo)
          have hmv5 : ∀ {l : List Int}, (n3, Ch.row 22 0 0 [v]) ∈ (rb, Ch.row 3 0 0 (ints l)) :: (Mx ++ X) := .tail _ (List.mem_append_right _ hmv)
          have hmo6 := hmo5 (l := c)
          clear hSi hmv4 hmo4 hmo2 hmv2 hSv2
          repeat' (first | refine zP ?_ | refine zA ?_ | (refine zM ?_; intro _ _) | refine zX ?_ | (refine zC ?_; intro _ _ _ _) | (refine zS ?_; intro _ _) | (apply Ws <;> intro hg))
          clear hmo6
          refine WC.loopX [(1, _), (3, _), (4, _), (5, _), (9, _), (30, _), (31, _), (32, _), (63, _), (64, _)] (fun s : KLL => [(65, .int .i64 (s.i : Int))]) []
            (fun s H' => s.i ≤ m ∧ s.l.length = m ∧ (∀ i, i < m → (i < s.i → RX r (c.getD i 0) (s.l.getD i 0)) ∧ (s.i ≤ i → s.l.getD i 0 = c.getD i 0)) ∧ hasH ((rb, .row 3 0 0 (ints s.l)) :: (Mx ++ X)) nF H') (fun s => m - s.i) ⟨0, c⟩ (by repeat' (first | exact .nil | refine .cons rfl ?_)) rfl
            ⟨Nat.zero_le _, hcl, fun i hi => ⟨fun h => absurd h (Nat.not_lt_zero _), fun _ => rfl⟩, hHF⟩ ?_
          clear hHF
          rintro ⟨i, l⟩ HG ⟨hi, hll, hd, hHG⟩
          simp only at hi hll hd hHG
          have hmo6 := hmo5 (l := l)
          have hSr : Sl ((rb, .row 3 0 0 (ints l)) :: (Mx ++ X)) 1 rv (nodes r) := (hrv.mono fun q hq => List.mem_append_left _ hq).cons
          dsimp only [List.cons_append, List.nil_append]
          repeat' (first | refine zP ?_ | refine zA ?_ | (refine zM ?_; intro _ _) | refine zX ?_ | (refine zC ?_; intro _ _ _ _) | (refine zS ?_; intro _ _) | (apply Ws <;> intro hg))
          refine WC.condP rfl (fun hlt2 => ?_) (fun hlt2 => ?_)
          · have hi' : i < m := by omega
            have hli := (hd i hi').2 (Nat.le_refl _)
            have hRi : (IL r).length = r.length := by simp
            repeat' (first | refine zP ?_ | refine zA ?_ | (refine zM ?_; intro _ _) | refine zX ?_ | (refine zC ?_; intro _ _ _ _) | (refine zS ?_; intro _ _) | (apply Ws <;> intro hg))
            rw [hli]
            refine WR.call (by first | exact gN | exact gS rfl) rfl rfl (Index_fs hHG (Sl.asInts hSr) (by omega) _) ?_
            rintro _ _ ⟨rfl, ⟨q, hq, he2, _, rfl⟩ | ⟨hno, rfl⟩⟩
            · have hq' : q < r.length := by omega
              rw [IL_get hq'] at he2
              have hmod := Nat.mod_lt (q + 1) (show 0 < r.length by omega)
              repeat' (first | refine zP ?_ | refine zA ?_ | (refine zM ?_; intro _ _) | refine zX ?_ | (refine zC ?_; intro _ _ _ _) | (refine zS ?_; intro _ _) | refine zO ?_ | (apply Ws <;> intro hg))
              rw [show ((q : Int) + 1) % (r.length : Int) = (((q + 1) % r.length : Nat) : Int) by simp]
              repeat' (first | refine zP ?_ | refine zA ?_ | (refine zM ?_; intro _ _) | refine zX ?_ | (refine zC ?_; intro _ _ _ _) | (refine zS ?_; intro _ _) | (apply Ws <;> intro hg))
              rename_i HI hHI
              rw [show (i : Int) + 1 = ((i + 1 : Nat) : Int) by omega]
              refine Ends.loop ⟨i + 1, l.set i ((r.getD ((q + 1) % r.length) 0 : Nat) : Int)⟩ (by simp only; omega) (by repeat' (first | exact .nil | refine .cons rfl ?_)) rfl ⟨hi', by simpa using hll, fun i2 hi2 => ?_, hHI⟩
              simp only
              rw [getD_set' (by omega)]
              by_cases e : i2 = i
              · rw [if_pos e, e]
                exact ⟨fun _ => .inl ⟨q, hq', he2.symm, rfl⟩, fun h => by omega⟩
              · rw [if_neg e]
                exact ⟨fun h => (hd i2 hi2).1 (by omega), fun h => (hd i2 hi2).2 (by omega)⟩
            · repeat' (first | refine zP ?_ | refine zA ?_ | (refine zM ?_; intro _ _) | refine zX ?_ | (refine zC ?_; intro _ _ _ _) | (refine zS ?_; intro _ _) | refine zO ?_ | (apply Ws <;> intro hg))
              rw [show (i : Int) + 1 = ((i + 1 : Nat) : Int) by omega]
              refine Ends.loop ⟨i + 1, l⟩ (by simp only; omega) (by repeat' (first | exact .nil | refine .cons rfl ?_)) rfl ⟨hi', hll, fun i2 hi2 => ?_, hHG⟩
              simp only
              by_cases e : i2 = i
              · rw [e]
                exact ⟨fun _ => .inr ⟨hno, hli⟩, fun h => by omega⟩
              · exact ⟨fun h => (hd i2 hi2).1 (by omega), fun h => (hd i2 hi2).2 (by omega)⟩
          · have him : i = m := by omega
            have hRX : ∀ i, i < m → RX r (c.getD i 0) (l.getD i 0) := fun i2 hi2 => (hd i2 hi2).1 (by omega)
            have hRot := rot_owners rp2 rp3 hcl hll hRX
            have hPl := hPc.turned rp3 hll hRX
            have htr : TurnR vs (shs N c) (shs N l) := ⟨r, hRr, hRot⟩
            have hT2 := hT.snoc hneg htr
            have hgr := own_grows (by omega) hneg htr
            have hole := own_le hV (shs N l)
            replace hHG := hHG.sub (.cons_cons _ (List.sublist_append_right _ _))
            have hmv7 := hmv' (l := l)
            have hmo7 := hmo' (l := l)
            have hSv7 := hSv.cons (p := (rb, .row 3 0 0 (ints l)))
            clear hSr hmo6
            repeat' (first | refine zP ?_ | refine zA ?_ | (refine zM ?_; intro _ _) | refine zX ?_ | (refine zC ?_; intro _ _ _ _) | (refine zS ?_; intro _ _) | (apply Ws <;> intro hg))
            rw [hwl]
            refine WR.call (by first | exact gN | exact gS rfl) rfl rfl (lfirst_fs (p := fun j => decide (enP vs (shs N l) j < 0)) hHG (g := 54) (vb := [.pointer (some ⟨n3, 0, some 0⟩), .pointer (some ⟨n7, 0, some 0⟩)]) (fun {Y n' H' x} hX hH' hx => quiet2_fs hH' hV (hVal.cons.mono hX) ((hOw hll).mono hX) (hPl.part hN1) hx (hX _ hmv7) (hX _ hmo7)) (by omega)) ?_
            rintro _ HJ ⟨rfl, nJ, hnJ, hHJ⟩
            rw [show firstN (fun j => decide (enP vs (shs N l) j < 0)) N = calmP vs (shs N l) by unfold calmP; rw [hvl]]
            repeat' (first | refine zP ?_ | refine zA ?_ | (refine zM ?_; intro _ _) | refine zX ?_ | (refine zC ?_; intro _ _ _ _) | (refine zS ?_; intro _ _) | (apply Ws <;> intro hg))
            exact Ends.loop ⟨l, nJ⟩ (by simp only; omega) (by repeat' (first | exact .nil | refine .cons rfl ?_)) rfl ⟨hPl, hT2, hHJ⟩
        · exact absurd (hmem.2 hin) hno
      · rw [decide_eq_false (fun h => hin (hmem.1 h))]
        repeat' (first | refine zP ?_ | refine zA ?_ | (refine zM ?_; intro _ _) | refine zX ?_ | (refine zC ?_; intro _ _ _ _) | (refine zS ?_; intro _ _) | refine zO ?_ | (apply Ws <;> intro hg))
        refine WR.append1F [] Mx ((rb, .row 3 0 0 (ints c)) :: X) rfl rfl rfl rfl hOww hHF (new := [.int .i64 (posW vs (shs N c) t : Nat)]) (by rfl) rfl rfl (Nat.le_refl _) (by omega) (by simp [hwal]; omega) fun v3 M3 n6 H6 hO3 hH6 hn6 => ?_
        replace hH6 : hasH (M3 ++ ((rb, .row 3 0 0 (ints c)) :: X)) n6 H6 := hH6
        have hmv5 := List.mem_append_right M3 hmv2
        have hmo5 := List.mem_append_right M3 hmo2
        clear hHF hSi hmv4 hmo4
        repeat' (first | refine zP ?_ | refine zA ?_ | (refine zM ?_; intro _ _) | refine zX ?_ | (refine zC ?_; intro _ _ _ _) | (refine zS ?_; intro _ _) | (apply Ws <;> intro hg))
        refine WR.call (by first | exact gN | exact gS rfl) rfl rfl (enemy_fs hH6 hV (hVal.cons.mono fun q hq => List.mem_append_right _ hq) ((hOw hcl).mono fun q hq => List.mem_append_right _ hq) (hPc.part hN1) (by omega)) ?_
        rintro _ H7 ⟨rfl, nG, hnG, hHG⟩
        have hen := all_envied hneg hpl
        repeat' (first | refine zP ?_ | refine zA ?_ | (refine zM ?_; intro _ _) | refine zX ?_ | (refine zC ?_; intro _ _ _ _) | (refine zS ?_; intro _ _) | (apply Ws <;> intro hg))
        rw [show enP vs (shs N c) (posW vs (shs N c) t) = ((posW vs (shs N c) (t + 1) : Nat) : Int) by show _ = (((enP vs (shs N c) (posW vs (shs N c) t)).toNat : Nat) : Int); omega]
        refine Ends.loop ⟨t + 1, v3, M3, nG⟩ (by simp only; omega) (by repeat' (first | exact .nil | refine .cons rfl ?_)) rfl ⟨way_next hnd hin, ?_, hHG⟩
        simp only
        rw [way_succ]
        simpa [nodes] using hO3
    · obtain ⟨j, hj⟩ : ∃ j : Nat, calmP vs (shs N c) = j := ⟨(calmP vs (shs N c)).toNat, by omega⟩
      rw [hj]
      have hjN : j < N := by omega
      have hPn := hPc.next hk' hjN
      have hGn := GiveR.succ hG hT hj
      rw [← shs_setO (by omega) (hPc.free hk') hjN] at hGn
      repeat' (first | refine zP ?_ | refine zA ?_ | (refine zM ?_; intro _ _) | refine zX ?_ | (refine zC ?_; intro _ _ _ _) | (refine zS ?_; intro _ _) | (apply Ws <;> intro hg))
      rename_i HD hHD
      have hmv8 := hmv' (l := c.set k (j : Int))
      have hmo8 := hmo' (l := c.set k (j : Int))
      have hpos := give_fair hV hGn (by omega)
      repeat' (first | refine zP ?_ | refine zA ?_ | (refine zM ?_; intro _ _) | refine zX ?_ | (refine zC ?_; intro _ _ _ _) | (refine zS ?_; intro _ _) | (apply Ws <;> intro hg))
      refine WR.call (by first | exact gN | exact gS rfl) rfl rfl (judged_fs hHD hV hVal.cons (hOw hPn.1) (hPn.part hN1)) ?_
      rintro _ HE ⟨rfl, nE, hnE, hHE⟩
      obtain ⟨F, hF⟩ : ∃ F, F = fairN vs (shs N (c.set k (j : Int))) := ⟨_, rfl⟩
      rw [← hF] at hpos ⊢
      repeat' (first | refine zP ?_ | refine zA ?_ | (refine zM ?_; intro _ _) | refine zX ?_ | (refine zC ?_; intro _ _ _ _) | (refine zS ?_; intro _ _) | (apply Ws <;> intro hg))
      rename_i HF hHF
      refine WR.store2 (by first | exact gN | exact gS rfl) hHF rfl rfl rfl rfl .here fun HG hHG => ?_
      repeat' (first | refine zP ?_ | refine zA ?_ | (refine zM ?_; intro _ _) | refine zX ?_ | (refine zC ?_; intro _ _ _ _) | (refine zS ?_; intro _ _) | refine zO ?_ | (apply Ws <;> intro hg))
      rw [show (k : Int) + 1 = ((k + 1 : Nat) : Int) by omega]
      exact Ends.loop ⟨k + 1, c.set k (j : Int), nE + 1⟩ (by simp only; omega) (by repeat' (first | exact .nil | refine .cons rfl ?_)) rfl ⟨hk', hPn, hGn, hHG.tail⟩
  have hkm : k = m := by omega
  rw [hkm] at hP hG
  clear hlt hk hkm
  have hD := hP.full
  have hpos := give_fair hV hG (Nat.le_refl _)
  have hE := div_intro hV hD
  have hr0 : ((ILL vs).getD 0 []).length = m := by rw [map_getD (a := []) (by rw [hvl]; exact hN1), List.length_map, hV.rowLen hN1]
  have hfl : (ILL vs).length = N := by simp [hvl]
  have hll : ∀ l ∈ ILL vs, l.length ≤ 1000 := fun l hl => by
    obtain ⟨q, hq, rfl⟩ := List.mem_map.1 hl
    rw [List.length_map, hV.row q hq]; omega
  have hmv1 := hmv' (l := o)
  have hmo1 := hmo' (l := o)
  have hVal1 := hVal.cons (p := (rb, .row 3 0 0 (ints o)))
  have hOo := hOw hol
  clear hVal hOw hmv' hmo' hSv hRU hmv hmo
  generalize (rb, Ch.row 3 0 0 (ints o)) :: X = Y at hHA hmv1 hmo1 hVal1 hOo
  generalize Value.slice (some ⟨rb, 0, some 0⟩) m (2 * m + 1) = ov at hmo1 hOo ⊢
  repeat' (first | refine zP ?_ | refine zA ?_ | (refine zM ?_; intro _ _) | refine zX ?_ | (refine zC ?_; intro _ _ _ _) | (refine zS ?_; intro _ _) | (apply Ws <;> intro hg))
  refine WR.call (by first | exact gN | exact gS rfl) rfl rfl (Rings_fs hHA hVal1.rows (by simp [hvl]; omega) hll) ?_
  rintro _ HB ⟨nB, hnB, ⟨h, _⟩ | ⟨_, tb, ss, hG2, rfl, hHB⟩⟩
  · exact absurd (vals_intro hV) h
  rw [natV_ILL, hfl, hr0] at hG2
  obtain rfl := hG2.one hG
  rw [hr0, own_all hD] at hHB
  rw [hr0]
  have hSt : Sl ((tb, .row 3 0 0 (ints o)) :: Y) 1 (.slice (some ⟨tb, 0, some 0⟩) m (2 * m + 1)) (ints o) := Sl.mkd (by simp [hol])
  replace hmv1 := List.mem_cons_of_mem (tb, Ch.row 3 0 0 (ints o)) hmv1
  replace hmo1 := List.mem_cons_of_mem (tb, Ch.row 3 0 0 (ints o)) hmo1
  replace hVal1 := hVal1.cons (p := (tb, .row 3 0 0 (ints o)))
  replace hOo := hOo.cons (p := (tb, .row 3 0 0 (ints o)))
  generalize (tb, Ch.row 3 0 0 (ints o)) :: Y = Z at hHB hmv1 hmo1 hVal1 hOo hSt
  generalize Value.slice (some ⟨tb, 0, some 0⟩) m (2 * m + 1) = tv at hSt ⊢
  repeat' (first | refine zP ?_ | refine zA ?_ | (refine zM ?_; intro _ _) | refine zX ?_ | (refine zC ?_; intro _ _ _ _) | (refine zS ?_; intro _ _) | refine zO ?_ | (apply Ws <;> intro hg))
  refine WR.call (by first | exact gN | exact gS rfl) rfl rfl (sameI_fs hHB hSt hOo (by omega) (by omega)) ?_
  rintro _ _ ⟨rfl, rfl⟩
  rw [decide_eq_true rfl]
  repeat' (first | refine zP ?_ | refine zA ?_ | (refine zM ?_; intro _ _) | refine zX ?_ | (refine zC ?_; intro _ _ _ _) | (refine zS ?_; intro _ _) | refine zO ?_ | (apply Ws <;> intro hg))
  refine WR.call (by first | exact gN | exact gS rfl) rfl rfl (Fair_fs hHB hVal1.rows (by simp [hvl]; omega) hll hSt (by omega)) ?_
  rintro _ HC ⟨rfl, nC, hnC, hHC⟩
  have hfc : fairC (ILL vs) o = fairN vs (shs N o) := by unfold fairC; rw [if_pos hE, natV_ILL, hfl]
  rw [hE, hfc]
  repeat' (first | refine zP ?_ | refine zA ?_ | (refine zM ?_; intro _ _) | refine zX ?_ | (refine zC ?_; intro _ _ _ _) | (refine zS ?_; intro _ _) | refine zO ?_ | (apply Ws <;> intro hg))
  refine WR.call (by first | exact gN | exact gS rfl) rfl rfl (Why_fs hHC hVal1.rows (by simp [hvl]; omega) hll hSt (by omega)) ?_
  rintro _ HD ⟨rfl, nD, hnD, hHD⟩
  have hwl2 : whyL (ILL vs) o = [] := by
    unfold whyL
    rw [if_pos hE, natV_ILL, hfl]
    refine pairs_empty fun a b ha hb => fair_pos.1 hpos a b (by omega) (by omega)
  have hwc : whyC (ILL vs) o = 13 := by unfold whyC; rw [if_pos hE, hwl2]; rfl
  rw [hwl2, hwc]
  generalize fairN vs (shs N o) = F at hpos
  repeat' (first | refine zP ?_ | refine zA ?_ | (refine zM ?_; intro _ _) | refine zX ?_ | (refine zC ?_; intro _ _ _ _) | (refine zS ?_; intro _ _) | refine zO ?_ | (apply Ws <;> intro hg))
  refine WR.call (by first | exact gN | exact gS rfl) rfl rfl (FS.works (C := C) (R := fun v H' => v = .bool true) rfl) ?_
  rintro _ _ rfl
  repeat' (first | refine zP ?_ | refine zA ?_ | (refine zM ?_; intro _ _) | refine zX ?_ | (refine zC ?_; intro _ _ _ _) | (refine zS ?_; intro _ _) | (apply Ws <;> intro hg))
  exact Ends.ret1 rfl rfl
end
end Go.Proofs.Ytaipmdhnhffckaa.Sh
