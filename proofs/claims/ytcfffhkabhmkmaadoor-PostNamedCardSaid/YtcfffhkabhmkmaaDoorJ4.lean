/- Texts of the law, joined. -/
import Derived.Test.YtcfffhkabhmkmaaDoorJ3
/- Places in so many lists; what the package's other functions return. -/
namespace Go.Proofs.YtcfffhkabhmkmaaDoor.Ps
open Go Go.Abs Go.Mth
set_option linter.unusedVariables false
set_option linter.unusedSimpArgs false
def timL (zs : List (List Nat)) (p : Nat) : Nat := zs.countP fun z => decide (p ∈ z)
def inL (zs : List (List Nat)) (t n : Nat) : List Nat := (List.range n).filter fun p => decide (timL zs p = t)
theorem timL_le (zs : List (List Nat)) (p : Nat) : timL zs p ≤ zs.length := List.countP_le_length
theorem timL_succ {zs : List (List Nat)} {k p : Nat} (h : k < zs.length) : timL (zs.take (k + 1)) p = timL (zs.take k) p + if p ∈ zs.getD k [] then 1 else 0 := by
  unfold timL
  rw [List.take_succ_eq_append_getElem h, List.countP_append, ← getD_eq (a := [])]
  simp [List.countP_cons]
theorem inL_succ (zs : List (List Nat)) (t k : Nat) : inL zs t (k + 1) = if timL zs k = t then inL zs t k ++ [k] else inL zs t k := by
  unfold inL
  rw [List.range_succ, List.filter_append]
  by_cases h : timL zs k = t
  · rw [if_pos h, List.filter_cons_of_pos (by simpa using h)]; simp
  · rw [if_neg h, List.filter_cons_of_neg (by simpa using h)]; simp
theorem inL_len (zs : List (List Nat)) (t n : Nat) : (inL zs t n).length ≤ n := by
  have := List.length_filter_le (fun p => decide (timL zs p = t)) (List.range n)
  simpa [inL] using this
theorem fewB_few {xs : List Int} (h : xs.length ≤ 10) : (fewB xs).length ≤ 5000 := Nat.le_trans (bestF_len _ _) (Nat.le_trans (List.length_filter_le _ _) (allA_few h))
def plcL (s k : Nat) : List Nat := (List.range k).filter s.testBit
theorem plcL_len (s k : Nat) : (plcL s k).length ≤ k := by
  have := List.length_filter_le s.testBit (List.range k)
  simpa [plcL] using this
theorem plcL_hm {xs : List Int} {i : Nat} (h : xs.length ≤ 10) : plcL (hm xs i) 10 = hndL xs i := by
  have e1 : ∀ j, (hm xs i).testBit j = (decide (j < xs.length) && adj xs i j) := fun j => by
    rw [Bool.eq_iff_iff, hm_bit, Bool.and_eq_true, decide_eq_true_eq]
  unfold plcL hndL
  obtain ⟨d, hd⟩ : ∃ d, 10 = xs.length + d := ⟨10 - xs.length, by omega⟩
  rw [hd, List.range_add, List.filter_append]
  have h1 : (List.range xs.length).filter (hm xs i).testBit = (List.range xs.length).filter (adj xs i) := List.filter_congr fun j hj => by
    rw [e1, decide_eq_true (List.mem_range.1 hj), Bool.true_and]
  have h2 : ((List.range d).map (xs.length + ·)).filter (hm xs i).testBit = [] := List.filter_eq_nil_iff.2 fun j hj => by
    obtain ⟨q, _, rfl⟩ := List.mem_map.1 hj
    rw [e1, decide_eq_false (by omega)]; simp
  rw [h1, h2, List.append_nil]
theorem nodes_snoc (l : List Nat) (x : Nat) : nodes (l ++ [x]) = nodes l ++ [.int .i64 (x : Int)] := by simp [nodes]
structure KO where
  k : Nat
  v : Value
  Mx : HL
  n : Nat
attribute [local irreducible] gOK WS WC WR WD Ends FS YS OpV seqK blockK loopK midK retK rdK asgK rangeEnd sat Cell
section
variable {M : HL} {n0 : Nat} {H : Heap} {v w : Value}
theorem ContainsN_fs (hH : hasH M n0 H) {l : List Nat} (hS : Sl M 1 v (nodes l)) (hx : l.length ≤ 100000) (a : Nat) :
    FS C 29 [v, .int .i64 (a : Int)] H (fun e H' => H' = H ∧ e = .bool (decide (a ∈ l))) := by
  refine (Contains_fs hH (xs := IL l) (by rw [← nodes_IL]; exact hS) (by rw [IL_len]; exact hx) a).mono ?_
  rintro e H' ⟨h1, h2⟩
  refine ⟨h1, ?_⟩
  rw [h2]
  congr 1
  rw [decide_eq_decide]
  exact mem_cast
theorem timesIn_fs (hH : hasH M n0 H) {ws : List Value} {zs : List (List Nat)} (hS : Sl M 1 v ws) (hR : RowsB M ws zs) (hz : ∀ z ∈ zs, z.length ≤ 1000) (hl : zs.length ≤ 5000) (p : Nat) :
    FS C 66 [v, .int .i64 (p : Int)] H (fun e H' => e = .int .i64 (timL zs p : Nat) ∧ H' = H) := by
  have hv := hS.one_
  have hwl := hR.1
  refine FS.intro (pf := pf66) rfl rfl rfl ?_
  repeat' (first | refine zP ?_ | refine zA ?_ | (refine zM ?_; intro _ _) | refine zX ?_ | (refine zC ?_; intro _ _ _ _) | (refine zS ?_; intro _ _) | (apply Ws <;> intro hg))
  refine WC.loopX [(1, _), (8, v), (9, _)] (fun k : Nat => [(10, .int .i64 (k : Int)), (5, .int .i64 (timL (zs.take k) p : Nat))]) [] (fun k H' => k ≤ zs.length ∧ H' = H) (fun k => zs.length - k) 0 (by repeat' (first | exact .nil | refine .cons rfl ?_)) rfl ⟨Nat.zero_le _, rfl⟩ ?_
  rintro k H' ⟨hk, rfl⟩
  have htl := timL_le (zs.take k) p
  rw [List.length_take] at htl
  dsimp only [List.cons_append, List.nil_append]
  repeat' (first | refine zP ?_ | refine zA ?_ | (refine zM ?_; intro _ _) | refine zX ?_ | (refine zC ?_; intro _ _ _ _) | (refine zS ?_; intro _ _) | (apply Ws <;> intro hg))
  refine WC.condP rfl (fun hlt => ?_) (fun hlt => ?_)
  · have hk' : k < zs.length := by omega
    have hkw : k < ws.length := by omega
    have hSk := hR.2 k hk'
    have hlk := hz _ (getD_mem (a := []) hk')
    have hts := timL_succ (p := p) hk'
    repeat' (first | refine zP ?_ | refine zA ?_ | (refine zM ?_; intro _ _) | refine zX ?_ | (refine zC ?_; intro _ _ _ _) | (refine zS ?_; intro _ _) | (apply Ws <;> intro hg))
    refine WR.call (by first | exact gN | exact gS rfl) rfl rfl (ContainsN_fs hH hSk (by omega) p) ?_
    rintro _ _ ⟨rfl, rfl⟩
    by_cases hm : p ∈ zs.getD k []
    · rw [if_pos hm] at hts
      rw [decide_eq_true hm]
      repeat' (first | refine zP ?_ | refine zA ?_ | (refine zM ?_; intro _ _) | refine zX ?_ | (refine zC ?_; intro _ _ _ _) | (refine zS ?_; intro _ _) | (apply Ws <;> intro hg))
      exact Ends.loop (k + 1) (by omega) (by rw [hts]; exact (by repeat' (first | exact .nil | refine .cons rfl ?_))) rfl ⟨hk', rfl⟩
    · rw [if_neg hm, Nat.add_zero] at hts
      rw [decide_eq_false hm]
      repeat' (first | refine zP ?_ | refine zA ?_ | (refine zM ?_; intro _ _) | refine zX ?_ | (refine zC ?_; intro _ _ _ _) | (refine zS ?_; intro _ _) | (apply Ws <;> intro hg))
      exact Ends.loop (k + 1) (by omega) (by rw [hts]; exact (by repeat' (first | exact .nil | refine .cons rfl ?_))) rfl ⟨hk', rfl⟩
  · have hkl : k = zs.length := by omega
    subst hkl
    rw [List.take_length]
    repeat' (first | refine zP ?_ | refine zA ?_ | (refine zM ?_; intro _ _) | refine zX ?_ | (refine zC ?_; intro _ _ _ _) | (refine zS ?_; intro _ _) | (apply Ws <;> intro hg))
    exact Ends.ret1 rfl ⟨rfl, rfl⟩
theorem placesIn_fs (hH : hasH M n0 H) {ws : List Value} {zs : List (List Nat)} (hS : Sl M 1 v ws) (hR : RowsB M ws zs) (hz : ∀ z ∈ zs, z.length ≤ 1000) (hl : zs.length ≤ 5000) (t n : Nat) (hn : n ≤ 1000) :
    FS C 50 [v, .int .i64 (t : Int), .int .i64 (n : Int)] H (fun e H' => ∃ Mx n', Own 3 1 e (nodes (inL zs t n)) Mx ∧ n0 ≤ n' ∧ hasH (Mx ++ M) n' H') := by
  have hv := hS.one_
  refine FS.intro (pf := pf50) rfl rfl rfl ?_
  repeat' (first | refine zP ?_ | refine zA ?_ | (refine zM ?_; intro _ _) | refine zX ?_ | (refine zC ?_; intro _ _ _ _) | (refine zS ?_; intro _ _) | (apply Ws <;> intro hg))
  refine WC.loopX [(0, v), (1, _), (9, _)] (fun s : KO => [(10, .int .i64 (s.k : Int)), (7, s.v)]) [] (fun s H' => s.k ≤ n ∧ Own 3 1 s.v (nodes (inL zs t s.k)) s.Mx ∧ n0 ≤ s.n ∧ hasH (s.Mx ++ M) s.n H') (fun s => n - s.k) ⟨0, .slice none 0 0, [], n0⟩ (by repeat' (first | exact .nil | refine .cons rfl ?_)) rfl ⟨Nat.zero_le _, .nil, Nat.le_refl _, hH⟩ ?_
  clear hH
  rintro ⟨k, v7, Mx, n1⟩ H1 ⟨hk, hO, hn1, hH⟩
  simp only at hk hO hn1 hH
  have hil := inL_len zs t k
  have his := inL_succ zs t k
  dsimp only [List.cons_append, List.nil_append]
  repeat' (first | refine zP ?_ | refine zA ?_ | (refine zM ?_; intro _ _) | refine zX ?_ | (refine zC ?_; intro _ _ _ _) | (refine zS ?_; intro _ _) | (apply Ws <;> intro hg))
  refine WC.condP rfl (fun hlt => ?_) (fun hlt => ?_)
  · have hk' : k < n := by omega
    repeat' (first | refine zP ?_ | refine zA ?_ | (refine zM ?_; intro _ _) | refine zX ?_ | (refine zC ?_; intro _ _ _ _) | (refine zS ?_; intro _ _) | (apply Ws <;> intro hg))
    refine WR.call (by first | exact gN | exact gS rfl) rfl rfl (timesIn_fs hH (hS.mono fun q hq => List.mem_append_right Mx hq) (hR.mono fun q hq => List.mem_append_right Mx hq) hz hl k) ?_
    rintro _ _ ⟨rfl, rfl⟩
    by_cases hm : timL zs k = t
    · rw [if_pos hm] at his
      repeat' (first | refine zP ?_ | refine zA ?_ | (refine zM ?_; intro _ _) | refine zX ?_ | (refine zC ?_; intro _ _ _ _) | (refine zS ?_; intro _ _) | refine zO ?_ | (apply Ws <;> intro hg))
      refine WR.append1F [] Mx M rfl rfl rfl rfl hO hH (new := [.int .i64 (k : Int)]) rfl rfl rfl (Nat.le_refl _) (by decide) (by simp; omega) fun v' Mx' n' H' q1 q2 q3 => ?_
      repeat' (first | refine zP ?_ | refine zA ?_ | (refine zM ?_; intro _ _) | refine zX ?_ | (refine zC ?_; intro _ _ _ _) | (refine zS ?_; intro _ _) | (apply Ws <;> intro hg))
      refine Ends.loop ⟨k + 1, v', Mx', n'⟩ (by simp only; omega) (by repeat' (first | exact .nil | refine .cons rfl ?_)) rfl ⟨hk', ?_, by simp only; omega, q2⟩
      simp only
      rw [his, nodes_snoc]; exact q1
    · rw [if_neg hm] at his
      repeat' (first | refine zP ?_ | refine zA ?_ | (refine zM ?_; intro _ _) | refine zX ?_ | (refine zC ?_; intro _ _ _ _) | (refine zS ?_; intro _ _) | refine zO ?_ | (apply Ws <;> intro hg))
      refine Ends.loop ⟨k + 1, v7, Mx, n1⟩ (by simp only; omega) (by repeat' (first | exact .nil | refine .cons rfl ?_)) rfl ⟨hk', ?_, by simp only; omega, hH⟩
      simp only
      rw [his]; exact hO
  · have hkn : k = n := by omega
    subst hkn
    repeat' (first | refine zP ?_ | refine zA ?_ | (refine zM ?_; intro _ _) | refine zX ?_ | (refine zC ?_; intro _ _ _ _) | (refine zS ?_; intro _ _) | (apply Ws <;> intro hg))
    exact Ends.ret1 rfl ⟨Mx, n1, hO, hn1, hH⟩
theorem fewB_len10 {xs : List Int} {c : List Nat → Int} {zs : List (List Nat)} (hz : ∀ z ∈ zs, AscN xs.length z) (h : xs.length ≤ 10) : ∀ z ∈ (bestF c zs).1, AscN xs.length z ∧ z.length ≤ 1000 := by
  have key : ∀ (ys : List (List Nat)) (s : List (List Nat) × Int), (∀ z ∈ ys, AscN xs.length z) → (∀ z ∈ s.1, AscN xs.length z) → ∀ z ∈ (ys.foldl (bestS c) s).1, AscN xs.length z := by
    intro ys
    induction ys with
    | nil => intro s _ h2; exact h2
    | cons y ys ih =>
      intro s h1 h2
      rw [List.foldl_cons]
      refine ih _ (fun z hz => h1 z (by simp [hz])) ?_
      intro z hz
      have hy := h1 y (by simp)
      unfold bestS at hz
      split at hz
      · rw [List.mem_singleton] at hz; rw [hz]; exact hy
      · split at hz
        · rcases List.mem_append.1 hz with hz | hz
          · exact h2 z hz
          · rw [List.mem_singleton] at hz; rw [hz]; exact hy
        · exact h2 z hz
  intro z hz2
  have h1 := key zs ([], 0) hz (by simp) z hz2
  exact ⟨h1, by have := h1.len; omega⟩
theorem grdL_asc {xs : List Int} : ∀ z ∈ grdL xs, AscN xs.length z := fun z hz => mem_allA.1 (List.mem_filter.1 hz).1
theorem aptL_asc {xs : List Int} : ∀ z ∈ aptL xs, AscN xs.length z := fun z hz => mem_allA.1 (List.mem_filter.1 hz).1
theorem Apart_fs (hH : hasH M n0 H) {xs : List Int} (hS : Sl M 1 v (ints xs)) (hl : xs.length ≤ 100000) :
    FS C 15 [v] H (fun e H' => ∃ u M2 n', e = .tuple #[u, .int .i64 (errS xs)] ∧ Sl (M2 ++ M) 1 u (nodes (if errS xs = 0 then (aptB xs).getD 0 [] else [])) ∧ n0 ≤ n' ∧ hasH (M2 ++ M) n' H') := by
  refine FS.intro (pf := pf15) rfl rfl rfl ?_
  repeat' (first | refine zP ?_ | refine zA ?_ | (refine zM ?_; intro _ _) | refine zX ?_ | (refine zC ?_; intro _ _ _ _) | (refine zS ?_; intro _ _) | (apply Ws <;> intro hg))
  refine WR.call (by first | exact gN | exact gS rfl) rfl rfl (Check_fs hH hS hl) ?_
  rintro _ H1 ⟨rfl, rfl⟩
  repeat' (first | refine zP ?_ | refine zA ?_ | (refine zM ?_; intro _ _) | refine zX ?_ | (refine zC ?_; intro _ _ _ _) | (refine zS ?_; intro _ _) | (apply Ws <;> intro hg))
  refine WC.condP rfl (fun h0 => ?_) (fun h0 => ?_)
  · repeat' (first | refine zP ?_ | refine zA ?_ | (refine zM ?_; intro _ _) | refine zX ?_ | (refine zC ?_; intro _ _ _ _) | (refine zS ?_; intro _ _) | (apply Ws <;> intro hg))
    exact Ends.ret2 rfl rfl ⟨_, [], n0, rfl, by rw [if_neg h0]; exact .nil 0, Nat.le_refl _, hH⟩
  · have h00 : errS xs = 0 := by omega
    have hx := errS_zero.1 h00
    repeat' (first | refine zP ?_ | refine zA ?_ | (refine zM ?_; intro _ _) | refine zX ?_ | (refine zC ?_; intro _ _ _ _) | (refine zS ?_; intro _ _) | (apply Ws <;> intro hg))
    refine WR.call (by first | exact gN | exact gS rfl) rfl rfl (byDistance_fs hH hS hx) ?_
    rintro _ H2 ⟨hv, M2, n2, rfl, hV, hn2, hH2⟩
    refine WR.call (by first | exact gN | exact gS rfl) rfl rfl (best_fs (B := M2) hx.one hx.most hH2 (fun p hp => List.mem_append_left _ hp) (good_apt hx hV) (cost_neg _ _) (fun x _ => by omega) (allA_few hx.most)) ?_
    rintro e3 H3 ⟨ws, M3, n3, hSe, hR, hn3, hH3⟩
    have hne := List.length_pos_iff.2 (aptB_ne xs)
    have hwl := hR.1
    have hR0 := hR.2 0 hne
    have hws : 0 < ws.length := by rw [hwl]; exact hne
    repeat' (first | refine zP ?_ | refine zA ?_ | (refine zM ?_; intro _ _) | refine zX ?_ | (refine zC ?_; intro _ _ _ _) | (refine zS ?_; intro _ _) | (apply Ws <;> intro hg))
    refine Ends.ret2 rfl rfl ⟨_, M3 ++ M2, n3, by rw [h00], ?_, by omega, by rw [List.append_assoc]; exact hH3⟩
    rw [if_pos h00, List.append_assoc]; exact hR0
theorem Ways_fs (hH : hasH M n0 H) {xs : List Int} (hS : Sl M 1 v (ints xs)) (hl : xs.length ≤ 100000) :
    FS C 23 [v] H (fun e H' => ∃ M2 n', e = .tuple #[.int .i64 ((if errS xs = 0 then (fewB xs).length else 0 : Nat) : Int), .int .i64 (errS xs)] ∧ n0 ≤ n' ∧ hasH (M2 ++ M) n' H') := by
  refine FS.intro (pf := pf23) rfl rfl rfl ?_
  repeat' (first | refine zP ?_ | refine zA ?_ | (refine zM ?_; intro _ _) | refine zX ?_ | (refine zC ?_; intro _ _ _ _) | (refine zS ?_; intro _ _) | (apply Ws <;> intro hg))
  refine WR.call (by first | exact gN | exact gS rfl) rfl rfl (Check_fs hH hS hl) ?_
  rintro _ H1 ⟨rfl, rfl⟩
  repeat' (first | refine zP ?_ | refine zA ?_ | (refine zM ?_; intro _ _) | refine zX ?_ | (refine zC ?_; intro _ _ _ _) | (refine zS ?_; intro _ _) | (apply Ws <;> intro hg))
  refine WC.condP rfl (fun h0 => ?_) (fun h0 => ?_)
  · repeat' (first | refine zP ?_ | refine zA ?_ | (refine zM ?_; intro _ _) | refine zX ?_ | (refine zC ?_; intro _ _ _ _) | (refine zS ?_; intro _ _) | (apply Ws <;> intro hg))
    exact Ends.ret2 rfl rfl ⟨[], n0, by rw [if_neg h0]; rfl, Nat.le_refl _, hH⟩
  · have h00 : errS xs = 0 := by omega
    have hx := errS_zero.1 h00
    repeat' (first | refine zP ?_ | refine zA ?_ | (refine zM ?_; intro _ _) | refine zX ?_ | (refine zC ?_; intro _ _ _ _) | (refine zS ?_; intro _ _) | (apply Ws <;> intro hg))
    refine WR.call (by first | exact gN | exact gS rfl) rfl rfl (byNumber_fs hH hS hx) ?_
    rintro _ H2 ⟨hv, M2, n2, rfl, hV, hn2, hH2⟩
    refine WR.call (by first | exact gN | exact gS rfl) rfl rfl (best_fs (B := M2) hx.one hx.most hH2 (fun p hp => List.mem_append_left _ hp) (good_grd hx hV) (cost_one _ _) (fun x _ => by omega) (allA_few hx.most)) ?_
    rintro e3 H3 ⟨ws, M3, n3, hSe, hR, hn3, hH3⟩
    have hwl := hR.1
    repeat' (first | refine zP ?_ | refine zA ?_ | (refine zM ?_; intro _ _) | refine zX ?_ | (refine zC ?_; intro _ _ _ _) | (refine zS ?_; intro _ _) | (apply Ws <;> intro hg))
    refine Ends.ret2 rfl rfl ⟨M3 ++ M2, n3, by rw [h00, if_pos rfl, hwl]; rfl, by omega, by rw [List.append_assoc]; exact hH3⟩
theorem Always_fs (hH : hasH M n0 H) {xs : List Int} (hS : Sl M 1 v (ints xs)) (hl : xs.length ≤ 100000) :
    FS C 24 [v] H (fun e H' => ∃ u M2 n', e = .tuple #[u, .int .i64 (errS xs)] ∧ Sl (M2 ++ M) 1 u (nodes (if errS xs = 0 then inL (fewB xs) (fewB xs).length xs.length else [])) ∧ n0 ≤ n' ∧ hasH (M2 ++ M) n' H') := by
  refine FS.intro (pf := pf24) rfl rfl rfl ?_
  repeat' (first | refine zP ?_ | refine zA ?_ | (refine zM ?_; intro _ _) | refine zX ?_ | (refine zC ?_; intro _ _ _ _) | (refine zS ?_; intro _ _) | (apply Ws <;> intro hg))
  refine WR.call (by first | exact gN | exact gS rfl) rfl rfl (Check_fs hH hS hl) ?_
  rintro _ H1 ⟨rfl, rfl⟩
  repeat' (first | refine zP ?_ | refine zA ?_ | (refine zM ?_; intro _ _) | refine zX ?_ | (refine zC ?_; intro _ _ _ _) | (refine zS ?_; intro _ _) | (apply Ws <;> intro hg))
  refine WC.condP rfl (fun h0 => ?_) (fun h0 => ?_)
  · repeat' (first | refine zP ?_ | refine zA ?_ | (refine zM ?_; intro _ _) | refine zX ?_ | (refine zC ?_; intro _ _ _ _) | (refine zS ?_; intro _ _) | (apply Ws <;> intro hg))
    exact Ends.ret2 rfl rfl ⟨_, [], n0, rfl, by rw [if_neg h0]; exact .nil 0, Nat.le_refl _, hH⟩
  · have h00 : errS xs = 0 := by omega
    have hx := errS_zero.1 h00
    have h10 := hx.most
    repeat' (first | refine zP ?_ | refine zA ?_ | (refine zM ?_; intro _ _) | refine zX ?_ | (refine zC ?_; intro _ _ _ _) | (refine zS ?_; intro _ _) | (apply Ws <;> intro hg))
    refine WR.call (by first | exact gN | exact gS rfl) rfl rfl (byNumber_fs hH hS hx) ?_
    rintro _ H2 ⟨hv, M2, n2, rfl, hV, hn2, hH2⟩
    refine WR.call (by first | exact gN | exact gS rfl) rfl rfl (best_fs (B := M2) hx.one hx.most hH2 (fun p hp => List.mem_append_left _ hp) (good_grd hx hV) (cost_one _ _) (fun x _ => by omega) (allA_few hx.most)) ?_
    rintro e3 H3 ⟨ws, M3, n3, hSe, hR, hn3, hH3⟩
    have hwl := hR.1
    have hS3 : Sl (M3 ++ (M2 ++ M)) 1 v (ints xs) := hS.mono fun q hq => by simp [hq]
    repeat' (first | refine zP ?_ | refine zA ?_ | (refine zM ?_; intro _ _) | refine zX ?_ | (refine zC ?_; intro _ _ _ _) | (refine zS ?_; intro _ _) | (apply Ws <;> intro hg))
    rw [hwl]
    refine WR.call (by first | exact gN | exact gS rfl) rfl rfl (placesIn_fs hH3 hSe hR (fun z hz => (fewB_len10 grdL_asc h10 z hz).2) (fewB_few h10) _ xs.length (by omega)) ?_
    rintro e4 H4 ⟨Mx, n4, hO, hn4, hH4⟩
    repeat' (first | refine zP ?_ | refine zA ?_ | (refine zM ?_; intro _ _) | refine zX ?_ | (refine zC ?_; intro _ _ _ _) | (refine zS ?_; intro _ _) | (apply Ws <;> intro hg))
    refine Ends.ret2 rfl rfl ⟨_, Mx ++ (M3 ++ M2), n4, by rw [h00], ?_, by omega, hH4.perm (by classical exact List.perm_iff_count.2 (fun a => by simp only [defds, List.map_cons, List.map_nil, List.count_append, List.count_cons, List.count_nil, List.cons_append, List.nil_append, List.append_nil]; omega))⟩
    rw [if_pos h00]; exact (hO.sl []).mono fun q hq => by rw [List.append_nil] at hq; simp [hq]
end
end Go.Proofs.YtcfffhkabhmkmaaDoor.Ps

/- Count, Cheapest, Guards, Proves, Hand. -/
namespace Go.Proofs.YtcfffhkabhmkmaaDoor.Ps
open Go Go.Abs Go.Mth
set_option linter.unusedVariables false
set_option linter.unusedSimpArgs false
attribute [local irreducible] gOK WS WC WR WD Ends FS YS OpV seqK blockK loopK midK retK rdK asgK rangeEnd sat Cell
section
variable {M : HL} {n0 : Nat} {H : Heap} {v w : Value}
set_option maxHeartbeats 1000000 in
theorem Count_fs (hH : hasH M n0 H) {xs : List Int} (hS : Sl M 1 v (ints xs)) (hl : xs.length ≤ 100000) :
    FS C 22 [v] H (fun e H' => ∃ M2 n', e = .tuple #[.int .i64 ((if errS xs = 0 then (grdL xs).length else 0 : Nat) : Int), .int .i64 (errS xs)] ∧ n0 ≤ n' ∧ hasH (M2 ++ M) n' H') := by
  refine FS.intro (pf := pf22) rfl rfl rfl ?_
  repeat' (first | refine zP ?_ | refine zA ?_ | (refine zM ?_; intro _ _) | refine zX ?_ | (refine zC ?_; intro _ _ _ _) | (refine zS ?_; intro _ _) | (apply Ws <;> intro hg))
  refine WR.call (by first | exact gN | exact gS rfl) rfl rfl (Check_fs hH hS hl) ?_
  rintro _ H1 ⟨rfl, rfl⟩
  repeat' (first | refine zP ?_ | refine zA ?_ | (refine zM ?_; intro _ _) | refine zX ?_ | (refine zC ?_; intro _ _ _ _) | (refine zS ?_; intro _ _) | (apply Ws <;> intro hg))
  refine WC.condP rfl (fun h0 => ?_) (fun h0 => ?_)
  · repeat' (first | refine zP ?_ | refine zA ?_ | (refine zM ?_; intro _ _) | refine zX ?_ | (refine zC ?_; intro _ _ _ _) | (refine zS ?_; intro _ _) | (apply Ws <;> intro hg))
    exact Ends.ret2 rfl rfl ⟨[], n0, by rw [if_neg h0]; rfl, Nat.le_refl _, hH⟩
  · have h00 : errS xs = 0 := by omega
    have hx := errS_zero.1 h00
    repeat' (first | refine zP ?_ | refine zA ?_ | (refine zM ?_; intro _ _) | refine zX ?_ | (refine zC ?_; intro _ _ _ _) | (refine zS ?_; intro _ _) | (apply Ws <;> intro hg))
    rename_i H2 hH2
    have hS2 : Sl ((n0, Ch.row 3 0 0 [.int .i64 0]) :: M) 1 v (ints xs) := hS.cons
    clear hH
    repeat' (first | refine zP ?_ | refine zA ?_ | (refine zM ?_; intro _ _) | refine zX ?_ | (refine zC ?_; intro _ _ _ _) | (refine zS ?_; intro _ _) | (apply Ws <;> intro hg))
    refine WR.call (by first | exact gN | exact gS rfl) rfl rfl (byNumber_fs hH2 hS2 hx) ?_
    rintro _ H3 ⟨hv, M2, n3, rfl, hV, hn3, hH3⟩
    clear hH2
    refine WR.call (by first | exact gN | exact gS rfl) rfl rfl (rated_fs hH3) ?_
    rintro _ H5 ⟨rfl, hH5⟩
    clear hH3
    repeat' (first | refine zP ?_ | refine zA ?_ | (refine zM ?_; intro _ _) | refine zX ?_ | (refine zC ?_; intro _ _ _ _) | (refine zS ?_; intro _ _) | (apply Ws <;> intro hg))
    replace hH5 : hasH ((n0, Ch.row 3 0 0 [.int .i64 0]) :: (n3, RtC xs.length 40 [hv] 58 []) :: (M2 ++ M)) (n3 + 1) H5 := hH5.perm (by classical exact List.perm_iff_count.2 (fun a => by simp only [defds, List.map_cons, List.map_nil, List.count_append, List.count_cons, List.count_nil, List.cons_append, List.nil_append, List.append_nil]; omega))
    refine WC.range0 (va := []) (vb := [ptrO n3 0]) rfl hH5 fun t ht H6 hH6 => ?_
    generalize hRR : ({ state := .ready, pending := none, fn := 22, tmps := t, params := [14], assign := _, body := _, nt := _ } : LoopE) = R at hH6
    obtain ⟨nn, hnn, hnn0⟩ : ∃ nn, n3 + 1 + 2 = nn ∧ n0 ≤ nn := ⟨_, rfl, by omega⟩
    rw [hnn] at hH6
    generalize n3 + 1 + 1 = lp at hH6 ⊢
    generalize n3 + 1 = df at hH6 ⊢
    clear hH5 hnn
    obtain ⟨rt, hrt⟩ : ∃ rt, RtC xs.length 40 [hv] 58 [] = rt := ⟨_, rfl⟩
    rw [hrt] at hH6
    refine FS.mono (ratedIt_fs (l := lp) (b1 := n3) (n := xs.length) (gf := 40) (gv := [hv]) (cf := 58) (cv := []) (good := grd xs) (B := (n3, rt) :: M2)
      (J := fun zs Mc => ∃ ds, ds ++ zs = grdL xs ∧ Mc = (lp, .loop R) :: (df, .defd false) :: (n0, .row 3 0 0 [.int .i64 (ds.length : Int)]) :: (n3, rt) :: (M2 ++ M))
      hx.one hx.most hH6 (by rw [hrt]; exact .head _) ?_ ⟨[], rfl, rfl⟩ (good_grd hx (hV.mono fun q hq => .tail _ hq)) ?_) ?_
    · rintro zs Mc ⟨ds, _, rfl⟩ p hp
      rcases List.mem_cons.1 hp with rfl | hp
      · exact .tail _ (.tail _ (.tail _ (.head _)))
      · exact .tail _ (.tail _ (.tail _ (.tail _ (List.mem_append_left _ hp))))
    · rintro z zs Mc T0 u n' H7 hn' ⟨ds, hds, rfl⟩ hasc hK hH7
      simp only [List.cons_append, List.append_assoc] at hH7
      have hdl : ds.length ≤ 5000 := by
        have h1 := congrArg List.length hds
        rw [List.length_append] at h1
        have h2 : (grdL xs).length ≤ 5000 := Nat.le_trans (List.length_filter_le _ _) (allA_few hx.most)
        omega
      have hds2 : (ds ++ [z]) ++ zs = grdL xs := by rw [← hds]; simp
      refine YS.intro hH7 (.head _) (by rw [← hRR]) (by rw [← hRR]) (by rw [← hRR]; rfl) (by rw [← hRR]; exact ht) ?_
      subst hRR
      dsimp only
      repeat' (first | refine zA ?_ | (refine zM ?_; intro _ _) | (apply Ws <;> intro hg))
      refine Ends.asg hH7 .here fun H8 hH8 => ?_
      dsimp only
      clear hH7
      generalize hRb : ({ state := .busy, pending := none, fn := 22, tmps := t, params := [14], assign := _, body := _, nt := _ } : LoopE) = Rb at hH8
      repeat' (first | refine zP ?_ | refine zA ?_ | (refine zM ?_; intro _ _) | refine zX ?_ | (refine zC ?_; intro _ _ _ _) | (refine zS ?_; intro _ _) | (apply Ws <;> intro hg))
      rw [show (ds.length : Int) + 1 = ((ds ++ [z]).length : Int) by simp]
      refine WR.storeBox (by first | exact gN | exact gS rfl) hH8 rfl rfl rfl (.there (.there .here)) fun H10 hH10 => ?_
      subst hRb
      repeat' (first | refine zP ?_ | refine zA ?_ | (refine zM ?_; intro _ _) | refine zX ?_ | (refine zC ?_; intro _ _ _ _) | (refine zS ?_; intro _ _) | (apply Ws <;> intro hg))
      exact Ends.rd rfl rfl rfl hH10 .here fun H' h' => ⟨_ :: _ :: _ :: _ :: (M2 ++ M), n', Nat.le_refl _, by rw [List.cons_append, List.cons_append, List.cons_append, List.cons_append, List.append_assoc]; exact h', rfl, ds ++ [z], hds2, rfl⟩
    · rintro _ H7 ⟨_, T0, n7, hn7, hH7, ds, hds, rfl⟩
      rw [List.append_nil] at hds
      subst hds
      simp only [List.cons_append, List.append_assoc] at hH7
      refine rangeEnd_of hH7 .here (by rw [← hRR]; simp) (by rw [← hRR]; rfl) fun H8 hH8 => ?_
      repeat' (first | refine zP ?_ | refine zA ?_ | (refine zM ?_; intro _ _) | refine zX ?_ | (refine zC ?_; intro _ _ _ _) | (refine zS ?_; intro _ _) | (apply Ws <;> intro hg))
      exact Ends.ret2D rfl rfl hH8 (.cons _ (List.Sublist.refl _)) (List.Perm.refl _) fun H' h' => ⟨(n0, .row 3 0 0 [.int .i64 ((grdL xs).length : Int)]) :: (n3, rt) :: (M2 ++ T0), n7, by rw [h00, if_pos rfl], by omega, h'.perm (by classical exact List.perm_iff_count.2 (fun a => by simp only [defds, List.map_cons, List.map_nil, List.count_append, List.count_cons, List.count_nil, List.cons_append, List.nil_append, List.append_nil]; omega))⟩
end
end Go.Proofs.YtcfffhkabhmkmaaDoor.Ps

/- Shores by numbers. -/
namespace Go.Proofs.YtcfffhkabhmkmaaDoor.Ps
open Go Go.Abs Go.Mth
set_option linter.unusedVariables false
set_option linter.unusedSimpArgs false
theorem u8k : C.c.P.underlying 5 = some (.int .u8) := by kernel_rfl
theorem i64k : C.c.P.underlying 3 = some (.int .i64) := by kernel_rfl
def mkS (by_ : List Nat) (n : Nat) : List Int := (List.range n).map fun i => if i = 0 then -1 else ((by_.getD i 0 % i : Nat) : Int)
theorem mkS_len (by_ : List Nat) (n : Nat) : (mkS by_ n).length = n := by simp [mkS]
theorem mkS_get {by_ : List Nat} {n i : Nat} (h : i < n) : (mkS by_ n).getD i 0 = if i = 0 then -1 else ((by_.getD i 0 % i : Nat) : Int) := by
  rw [getD_eq (by rw [mkS_len]; exact h)]; simp [mkS]
theorem mkS_succ (by_ : List Nat) (n : Nat) : mkS by_ (n + 1) = mkS by_ n ++ [if n = 0 then -1 else ((by_.getD n 0 % n : Nat) : Int)] := by simp [mkS, List.range_succ]
theorem mkS_ok (by_ : List Nat) {n : Nat} (h1 : 1 ≤ n) (h10 : n ≤ 10) : OKS (mkS by_ n) where
  one := by rw [mkS_len]; exact h1
  most := by rw [mkS_len]; exact h10
  root := by rw [mkS_get (by omega), if_pos rfl]
  par k hk hl := by
    rw [mkS_len] at hl
    rw [mkS_get hl, if_neg (by omega)]
    have := Nat.mod_lt (by_.getD k 0) (show 0 < k by omega)
    omega
theorem hm_grow {xs : List Int} (h : OKS xs) {k p : Nat} (hk1 : 1 ≤ k) (hk : k < xs.length) (hp : xs.getD k 0 = (p : Int)) (hpk : p < k) {l : List Nat} (hl : l.length = k) (hv : ∀ i, i < k → l.getD i 0 = hmTo xs k i) :
    ∀ i, i < k + 1 → ((l ++ [2 ^ k ||| 2 ^ p]).set p ((l ++ [2 ^ k ||| 2 ^ p]).getD p 0 ||| 2 ^ k)).getD i 0 = hmTo xs (k + 1) i := by
  obtain ⟨L, hL⟩ : ∃ L, l ++ List.replicate (xs.length - k) 0 = L := ⟨_, rfl⟩
  have hLl : L.length = xs.length := by rw [← hL]; simp [hl]; omega
  have hLv : ∀ i, i < xs.length → L.getD i 0 = hmTo xs k i := fun i hi => by
    by_cases e : i < k
    · rw [← hL, getD_app_l (by omega)]; exact hv i e
    · rw [hm_zero (by omega), ← hL, List.getD_eq_getElem?_getD, List.getElem?_append_right (by omega), List.getElem?_replicate]
      split <;> rfl
  have hs := hm_step h hk hp hpk hLl hLv
  have hLk : L.getD k 0 = 0 := by rw [hLv k hk, hm_zero (Nat.le_refl _)]
  intro i hi
  rw [← hs i (by omega)]
  have n1 : (L.set k (L.getD k 0 ||| 2 ^ k)).length = xs.length := by simp [hLl]
  have n2 : ((L.set k (L.getD k 0 ||| 2 ^ k)).set k ((L.set k (L.getD k 0 ||| 2 ^ k)).getD k 0 ||| 2 ^ p)).length = xs.length := by simp [hLl]
  have hsn : (l ++ [2 ^ k ||| 2 ^ p]).length = k + 1 := by simp [hl]
  rw [getD_set' (by omega), getD_set' (by omega)]
  have hlp : (l ++ [2 ^ k ||| 2 ^ p]).getD p 0 = L.getD p 0 := by rw [getD_app_l (by omega), hv p hpk, hLv p (by omega)]
  rw [getD_set' (by omega), if_neg (show ¬ p = k by omega), getD_set' (by omega), if_neg (show ¬ p = k by omega), hlp]
  by_cases e1 : i = p
  · rw [if_pos e1, if_pos e1]
  · rw [if_neg e1, if_neg e1, getD_set' (by omega)]
    by_cases e2 : i = k
    · rw [if_pos e2, getD_set' (by omega), if_pos rfl, hLk, Nat.zero_or, e2, ← hl, snoc_at]
    · rw [if_neg e2, getD_set' (by omega), if_neg e2, getD_app_l (by omega), hv i (by omega), hLv i (by omega)]
structure KH where
  k : Nat
  vs : Value
  vh : Value
  hs : List Nat
  MS : HL
  MH : HL
  n : Nat
theorem lt64 {a : Nat} (h : a < 1024) : a < capK .u64 := Nat.lt_of_lt_of_le h (by decide)
attribute [local irreducible] gOK WS WC WR WD Ends FS YS OpV seqK blockK loopK midK retK rdK asgK rangeEnd sat Cell
section
variable {M : HL} {n0 : Nat} {H : Heap} {v w : Value}
set_option maxHeartbeats 2000000 in
theorem made_fs (hH : hasH M n0 H) {x : Nat} {by_ : List Nat} (hx : x ≤ 255) (hb : ∀ y ∈ by_, y ≤ 255) (hbl : by_.length = 10) {most : Nat} (h1 : 1 ≤ most) (h10 : most ≤ 10) :
    FS C 8 [.agg (numsK .u8 (x :: by_)).toArray, .int .i64 (most : Int)] H (fun e H' => ∃ vs vh MS MH n', e = .tuple #[vs, vh] ∧ Own 3 1 vs (ints (mkS by_ (1 + x % most))) MS ∧ Own 29 1 vh (numsK .u64 (hsL (mkS by_ (1 + x % most)))) MH ∧ n0 ≤ n' ∧ hasH (MS ++ (MH ++ M)) n' H') := by
  have hone : (numsK .u8 (x :: by_)).all one = true := numsK_one _
  have hsl : (numsK .u8 (x :: by_)).length = 11 := by simp [numsK, hbl]
  have hg0 : (numsK .u8 (x :: by_))[0]? = some (.int .u8 (x : Int)) := rfl
  refine FS.intro (pf := pf8) rfl rfl rfl ?_
  refine WC.seq ?_
  refine WC.region ?_
  refine WR.boxA (cs := numsK .u8 (x :: by_)) (by first | exact gN | exact gS rfl) rfl hH rfl hone fun H1 hH1 => ?_
  repeat' (first | refine zP ?_ | refine zA ?_ | (refine zM ?_; intro _ _) | refine zX ?_ | (refine zC ?_; intro _ _ _ _) | (refine zS ?_; intro _ _) | (apply Ws <;> intro hg))
  refine WR.op (by first | exact gN | exact gS rfl) rfl (OpV.conv u8k i64k rfl (c := (x : Int)) (IntWalk.i64_in _ (by omega))) ?_
  have hmod := Nat.mod_lt x (show 0 < most by omega)
  repeat' (first | refine zP ?_ | refine zA ?_ | (refine zM ?_; intro _ _) | refine zX ?_ | (refine zC ?_; intro _ _ _ _) | (refine zS ?_; intro _ _) | (apply Ws <;> intro hg))
  rw [show (x : Int) % (most : Int) = ((x % most : Nat) : Int) by simp]
  obtain ⟨r, hr⟩ : ∃ r, x % most = r := ⟨_, rfl⟩
  rw [hr] at hmod ⊢
  repeat' (first | refine zP ?_ | refine zA ?_ | (refine zM ?_; intro _ _) | refine zX ?_ | (refine zC ?_; intro _ _ _ _) | (refine zS ?_; intro _ _) | (apply Ws <;> intro hg))
  rw [show (1 : Int) + (r : Int) = ((1 + r : Nat) : Int) by omega]
  obtain ⟨n, hn⟩ : ∃ n, 1 + r = n := ⟨_, rfl⟩
  rw [hn]
  have hn10 : 1 ≤ n ∧ n ≤ 10 := by omega
  have hok := mkS_ok by_ hn10.1 hn10.2
  have hlen := mkS_len by_ n
  clear hr hn hmod hH
  refine WR.bldS (by first | exact gN | exact gS rfl) rfl hH1 (vs := [(0, .int .i64 (-1))]) rfl (cs := [.int .i64 (-1)]) (by rfl) rfl fun H2 hH2 => ?_
  refine WR.bldS (by first | exact gN | exact gS rfl) rfl hH2 (vs := [(0, .int .u64 1)]) rfl (cs := [.int .u64 1]) (by rfl) rfl fun H3 hH3 => ?_
  have hH4 : hasH ([(n0 + 1, .inp 3 0 0 [.int .i64 (-1)])] ++ ([(n0 + 1 + 1, .inp 29 0 0 [.int .u64 1])] ++ ((n0, .row 24 0 0 (numsK .u8 (x :: by_))) :: M))) (n0 + 1 + 1 + 1) H3 := (hH3.asInp .here |>.asInp (.there .here)).swap
  have hOs : Own 3 1 (.slice (some ⟨n0 + 1, 0, some 0⟩) 1 (2 * 1 + 1)) (ints (mkS by_ 1)) [(n0 + 1, .inp 3 0 0 [.int .i64 (-1)])] := .full (len := 1) rfl rfl
  have hOh : Own 29 1 (.slice (some ⟨n0 + 1 + 1, 0, some 0⟩) 1 (2 * 1 + 1)) (numsK .u64 [1]) [(n0 + 1 + 1, .inp 29 0 0 [.int .u64 1])] := .full (len := 1) rfl rfl
  clear hH1 hH2 hH3
  repeat' (first | refine zP ?_ | refine zA ?_ | (refine zM ?_; intro _ _) | refine zX ?_ | (refine zC ?_; intro _ _ _ _) | (refine zS ?_; intro _ _) | (apply Ws <;> intro hg))
  refine WC.loopX [(2, _), (6, _)] (fun z : KH => [(9, .int .i64 (z.k : Int)), (7, z.vs), (8, z.vh)]) []
    (fun z H' => 1 ≤ z.k ∧ z.k ≤ n ∧ z.hs.length = z.k ∧ (∀ i, i < z.k → z.hs.getD i 0 = hmTo (mkS by_ n) z.k i) ∧ Own 3 1 z.vs (ints (mkS by_ z.k)) z.MS ∧ Own 29 1 z.vh (numsK .u64 z.hs) z.MH ∧ n0 ≤ z.n ∧ hasH (z.MS ++ (z.MH ++ ((n0, .row 24 0 0 (numsK .u8 (x :: by_))) :: M))) z.n H') (fun z => n - z.k)
    ⟨1, _, _, [1], _, _, n0 + 1 + 1 + 1⟩ (by repeat' (first | exact .nil | refine .cons rfl ?_)) rfl ⟨Nat.le_refl _, hn10.1, rfl, fun i hi => ?_, hOs, hOh, by simp only; omega, hH4⟩ ?_
  · have : i = 0 := by simp only at hi; omega
    subst this
    refine bits_ext fun j => ?_
    rw [hmTo_bit, show ([1] : List Nat).getD 0 0 = 2 ^ 0 from rfl, pow_bit]
    constructor
    · rintro rfl; exact ⟨by simp only; omega, by simp only; omega, adj_self _ _⟩
    · rintro ⟨_, h, _⟩; simp only at h; omega
  clear hH4 hOs hOh
  rintro ⟨k, vs, vh, hs, MS, MH, n1⟩ H2 ⟨hk1, hk, hhl, hhv, hOs, hOh, hn1, hH⟩
  simp only at hk1 hk hhl hhv hOs hOh hn1 hH
  have hm0 : (n0, Ch.row 24 0 0 (numsK .u8 (x :: by_))) ∈ MS ++ (MH ++ ((n0, .row 24 0 0 (numsK .u8 (x :: by_))) :: M)) := by simp
  dsimp only [List.cons_append, List.nil_append]
  repeat' (first | refine zP ?_ | refine zA ?_ | (refine zM ?_; intro _ _) | refine zX ?_ | (refine zC ?_; intro _ _ _ _) | (refine zS ?_; intro _ _) | (apply Ws <;> intro hg))
  refine WC.condP rfl (fun hlt => ?_) (fun hlt => ?_)
  · have hk' : k < n := by omega
    have hby : by_.getD k 0 ≤ 255 := hb _ (getD_mem (by omega))
    have hgk : (numsK .u8 (x :: by_))[1 + k]? = some (.int .u8 ((by_.getD k 0 : Nat) : Int)) := by
      unfold numsK
      rw [Nat.add_comm 1 k, List.map_cons, List.getElem?_cons_succ, List.getElem?_map, List.getElem?_eq_getElem (by omega), getD_eq (by omega)]; rfl
    repeat' (first | refine zP ?_ | refine zA ?_ | (refine zM ?_; intro _ _) | refine zX ?_ | (refine zC ?_; intro _ _ _ _) | (refine zS ?_; intro _ _) | (apply Ws <;> intro hg))
    refine WR.op (by first | exact gN | exact gS rfl) rfl (OpV.load1 (v := .int .u8 ((by_.getD k 0 : Nat) : Int)) rfl hH hm0 (.row _ _ _ _) (Nat.zero_le _) (by rw [Nat.sub_zero]; exact hgk)) ?_
    refine WR.op (by first | exact gN | exact gS rfl) rfl (OpV.conv u8k i64k rfl (c := ((by_.getD k 0 : Nat) : Int)) (IntWalk.i64_in _ (by omega))) ?_
    repeat' (first | refine zP ?_ | refine zA ?_ | (refine zM ?_; intro _ _) | refine zX ?_ | (refine zC ?_; intro _ _ _ _) | (refine zS ?_; intro _ _) | (apply Ws <;> intro hg))
    rw [show ((by_.getD k 0 : Nat) : Int) % (k : Int) = ((by_.getD k 0 % k : Nat) : Int) by simp]
    have hpm := Nat.mod_lt (by_.getD k 0) (show 0 < k by omega)
    have hss := mkS_succ by_ k
    rw [if_neg (by omega)] at hss
    have hgp := mkS_get (by_ := by_) hk'
    rw [if_neg (by omega)] at hgp
    have hgw := hm_grow hok hk1 (by rw [hlen]; exact hk') hgp hpm hhl hhv
    generalize by_.getD k 0 % k = p at hpm hss hgp hgw ⊢
    have hp1 : 2 ^ k < 1024 := by show 2 ^ k < 2 ^ 10; exact Nat.pow_lt_pow_right (by omega) (by omega)
    have hp2 : 2 ^ p < 1024 := by show 2 ^ p < 2 ^ 10; exact Nat.pow_lt_pow_right (by omega) (by omega)
    have hp3 : 2 ^ k ||| 2 ^ p < 1024 := Nat.or_lt_two_pow (n := 10) hp1 hp2
    repeat' (first | refine zP ?_ | refine zA ?_ | (refine zM ?_; intro _ _) | refine zX ?_ | (refine zC ?_; intro _ _ _ _) | (refine zS ?_; intro _ _) | (apply Ws <;> intro hg))
    refine WR.op (by first | exact gN | exact gS rfl) rfl (OpV.shl1 rfl rfl (by show k ≤ 64; omega) (lt64 hp1)) ?_
    repeat' (first | refine zP ?_ | refine zA ?_ | (refine zM ?_; intro _ _) | refine zX ?_ | (refine zC ?_; intro _ _ _ _) | (refine zS ?_; intro _ _) | (apply Ws <;> intro hg))
    refine WR.op (by first | exact gN | exact gS rfl) rfl (OpV.shl1 rfl rfl (by show p ≤ 64; omega) (lt64 hp2)) ?_
    refine WR.op (by first | exact gN | exact gS rfl) rfl (OpV.orN rfl rfl (lt64 hp1) (lt64 hp2)) ?_
    refine WR.append1RF [] MS (MH ++ ((n0, .row 24 0 0 (numsK .u8 (x :: by_))) :: M)) rfl rfl rfl rfl hOs hH (new := [.int .i64 (p : Int)]) rfl rfl rfl (Nat.le_refl _) (by decide) (by simp [mkS_len]; omega) fun vs2 MS2 n2 H3 hO2 hH3 hn2 => ?_
    refine WR.append1RF MS2 MH ((n0, .row 24 0 0 (numsK .u8 (x :: by_))) :: M) rfl rfl rfl rfl hOh hH3 (new := [.int .u64 ((2 ^ k ||| 2 ^ p : Nat) : Int)]) rfl rfl rfl (Nat.le_refl _) (by decide) (by simp; omega) fun vh2 MH2 n3 H4 hO3 hH4 hn3 => ?_
    clear hH hH3 hOs hOh
    have hO2' : Own 3 1 vs2 (ints (mkS by_ (k + 1))) MS2 := by rw [hss, ints, List.map_append]; exact hO2.own
    have hnn : numsK .u64 hs ++ [Value.int .u64 ((2 ^ k ||| 2 ^ p : Nat) : Int)] = numsK .u64 (hs ++ [2 ^ k ||| 2 ^ p]) := by simp [numsK]
    rw [hnn] at hO3
    have hls : (hs ++ [2 ^ k ||| 2 ^ p]).length = k + 1 := by simp [hhl]
    have hbp : (hs ++ [2 ^ k ||| 2 ^ p]).getD p 0 < 1024 := by rw [getD_app_l (by omega), hhv p (by omega)]; exact hmTo_lt p (by omega)
    generalize hs ++ [2 ^ k ||| 2 ^ p] = l2 at hO3 hls hbp hgw
    have hll : (numsK .u64 l2).length = (k + 1) * 1 := by simp [numsK, hls]
    generalize hq : numsK .u64 l2 = q2 at hO3 hll
    cases hO3 with
    | @mk b u o len _ hl3 =>
      have hlk : len = k + 1 := by omega
      subst hlk
      subst hq
      replace hH4 : hasH ((b, Ch.row 29 u o (numsK .u64 l2)) :: (MS2 ++ ((n0, .row 24 0 0 (numsK .u8 (x :: by_))) :: M))) n3 H4 := hH4.perm (List.perm_middle (l₁ := MS2) (a := (b, Ch.row 29 u o (numsK .u64 l2))))
      have hSh : Sl ((b, Ch.row 29 u o (numsK .u64 l2)) :: (MS2 ++ ((n0, .row 24 0 0 (numsK .u8 (x :: by_))) :: M))) 1 (.slice (some ⟨b, o, some u⟩) (k + 1) (2 * 1)) (numsK .u64 l2) := Own.sl (.row hl3) (MS2 ++ ((n0, .row 24 0 0 (numsK .u8 (x :: by_))) :: M))
      repeat' (first | refine zP ?_ | refine zA ?_ | (refine zM ?_; intro _ _) | refine zX ?_ | (refine zC ?_; intro _ _ _ _) | (refine zS ?_; intro _ _) | (apply Ws <;> intro hg))
      refine WR.op (by first | exact gN | exact gS rfl) rfl (OpV.load1 (v := .int .u64 ((l2.getD p 0 : Nat) : Int)) rfl hH4 (.head _) (.row _ _ _ _) (Nat.le_add_right _ _) (by rw [Nat.add_sub_cancel_left]; exact nodes_get (by omega))) ?_
      repeat' (first | refine zP ?_ | refine zA ?_ | (refine zM ?_; intro _ _) | refine zX ?_ | (refine zC ?_; intro _ _ _ _) | (refine zS ?_; intro _ _) | (apply Ws <;> intro hg))
      refine WR.op (by first | exact gN | exact gS rfl) rfl (OpV.shl1 rfl rfl (by show k ≤ 64; omega) (lt64 hp1)) ?_
      refine WR.op (by first | exact gN | exact gS rfl) rfl (OpV.orN rfl rfl (lt64 hbp) (lt64 hp1)) ?_
      repeat' (first | refine zP ?_ | refine zA ?_ | (refine zM ?_; intro _ _) | refine zX ?_ | (refine zC ?_; intro _ _ _ _) | (refine zS ?_; intro _ _) | (apply Ws <;> intro hg))
      refine WR.store1 (cs' := numsK .u64 (l2.set p (l2.getD p 0 ||| 2 ^ k))) (by first | exact gN | exact gS rfl) hH4 rfl rfl rfl .here (Nat.le_add_right _ _) (by rw [Nat.add_sub_cancel_left]; simp [numsK]; omega) (by rw [Nat.add_sub_cancel_left]; simp [numsK]) fun H5 hH5 => ?_
      repeat' (first | refine zP ?_ | refine zA ?_ | (refine zM ?_; intro _ _) | refine zX ?_ | (refine zC ?_; intro _ _ _ _) | (refine zS ?_; intro _ _) | (apply Ws <;> intro hg))
      exact Ends.loop ⟨k + 1, vs2, _, l2.set p (l2.getD p 0 ||| 2 ^ k), MS2, [(b, .row 29 u o (numsK .u64 (l2.set p (l2.getD p 0 ||| 2 ^ k))))], n3⟩ (by simp only; omega) (by repeat' (first | exact .nil | refine .cons rfl ?_)) rfl ⟨by simp only; omega, hk', by simpa using hls, hgw, hO2', .row (by simp [numsK, hls]), by simp only; omega, hH5.perm (List.perm_middle (l₁ := MS2)).symm⟩
  · have hkn : k = n := by omega
    subst hkn
    have hhs : hs = hsL (mkS by_ k) := by
      refine ext_getD (a := 0) (by rw [hsL_len, hlen, hhl]) fun i hi => ?_
      rw [hhv i (by omega), hsL_get (by omega)]
      have := hmTo_all (xs := mkS by_ k) (i := i) (by omega)
      rw [hlen] at this
      exact this
    subst hhs
    repeat' (first | refine zP ?_ | refine zA ?_ | (refine zM ?_; intro _ _) | refine zX ?_ | (refine zC ?_; intro _ _ _ _) | (refine zS ?_; intro _ _) | (apply Ws <;> intro hg))
    exact Ends.ret2 rfl rfl ⟨vs, vh, MS, MH, n1, rfl, hOs, hOh, hn1, (hH.perm (M' := (n0, .row 24 0 0 (numsK .u8 (x :: by_))) :: (MS ++ (MH ++ M))) (by classical exact List.perm_iff_count.2 (fun a => by simp only [defds, List.map_cons, List.map_nil, List.count_append, List.count_cons, List.count_nil, List.cons_append, List.nil_append, List.append_nil]; omega))).tail⟩
end
end Go.Proofs.YtcfffhkabhmkmaaDoor.Ps

/- Bits of numbers; sets as lists. -/
namespace Go.Abs
set_option linter.unusedSectionVars false
open Go
section
variable [Globs] {C : CW} {nt : Nat} {L : Env} {D : List Nat} {H : Heap} {K : St → Prop} {M M' : HL} {n : Nat} {gd : Option (Tmp × Bool)} {lo : List Nat} {l : List POp}
theorem OpV.idxG {x ix : Operand} {k : FloatKind} {g o m n sz : Nat} {kd : IntKind} (hx : ev L x = some (.complex k g o)) (hi : ev L ix = some (.int kd (m : Int))) (hm : m < n) : OpV C (.idxA x ix n sz) L H (.complex k g (o + m * sz)) H := fun t ht => by
  have e1 : natOf (.int kd (m : Int)) = some m := rfl
  simp only [opA, ev_ok ht hx, ev_ok ht hi, oIdxA, e1, blt_of hm, cond_true]
theorem OpV.loadG {x : Operand} {k : FloatKind} {g o : Nat} {v : Value} (hx : ev L x = some (.complex k g o)) (hv : gRead g o = some v) : OpV C (.load1 x) L H v H := fun t ht => by
  simp only [opA, ev_ok ht hx, oLoad1, hv, asVal]
theorem OpV.mulK {k : IntKind} {x y : Operand} {a b c : Int} (hx : ev L x = some (.int k a)) (hy : ev L y = some (.int k b)) (hc : k.wrap (a * b) = c) : OpV C (.ibin .mul k x y) L H (.int k c) H := by
  subst hc; exact OpV.arith hx hy (by simp only [ibinA, fitI_wrap])
theorem OpV.negK {dst : Option Tmp} {x : Operand} {s ty : TypeId} {pos : String} {af : Array Edge} {g : Option (Nat × Bool)} {k : IntKind} {a c : Int} (hx : ev L x = some (.int k a)) (hc : k.wrap (0 - a) = c) :
    OpV C (.plain ⟨dst, .unOp .neg s x, ty, pos, af, g⟩) L H (.int k c) H := by
  subst hc
  refine OpV.plain (fun t ht => ?_) (fun t ht => by simp [Op.operands, ev_ok ht hx, plainV, plain1]) rfl
  have e2 : pureRun C.c.P (Op.unary .neg (.int k a)) = some (.int k (k.wrap (0 - a))) := rfl
  simp only [pureNext, execOp, ev_ok ht hx, pureRun_bind, e2, Option.bind_some]
  rfl
end
end Go.Abs
namespace Go.Proofs.YtcfffhkabhmkmaaDoor.Ps
open Go Go.Abs Go.Mth
set_option linter.unusedVariables false
set_option linter.unusedSimpArgs false
theorem wrapI (z : Int) : IntKind.u64.wrap z = z % 18446744073709551616 := by
  simp [IntKind.wrap, IntKind.bits, IntKind.signed]
theorem wrapU (r : Nat) : IntKind.u64.wrap (r : Int) = ((r % 2 ^ 64 : Nat) : Int) := by
  rw [wrapI]; omega
def brT : List Nat := [0, 1, 56, 2, 57, 49, 28, 3, 61, 58, 42, 50, 38, 29, 17, 4, 62, 47, 59, 36, 45, 43, 51, 22, 53, 39, 33, 30, 24, 18, 12, 5, 63, 55, 48, 27, 60, 41, 37, 16, 46, 35, 44, 21, 52, 32, 23, 11, 54, 26, 40, 15, 34, 20, 31, 10, 25, 14, 19, 9, 13, 8, 7, 6]
theorem gread_br {m : Nat} (h : m < 64) : gRead 1 (0 + m * 1) = some (.int .u8 ((brT.getD m 0 : Nat) : Int)) := by
  have e : (numsK .u8 brT)[0 + m * 1]? = some (.int .u8 ((brT.getD m 0 : Nat) : Int)) := by
    rw [Nat.zero_add, Nat.mul_one]
    exact nodes_get (by simpa [brT] using h)
  show (match (numsK .u8 brT)[0 + m * 1]? with | some v => bif plain1 v then some v else none | none => none) = _
  rw [e]; rfl
def ngN (s : Nat) : Nat := (2 ^ 64 - s) % 2 ^ 64
def tzI (s : Nat) : Nat := ((s &&& ngN s) * 285870213051353865 % 2 ^ 64) >>> 58
theorem tz_ok : ∀ s, s < 1024 → s ≠ 0 → tzI s < 64 ∧ plcL s 10 = brT.getD (tzI s) 0 :: plcL (s &&& (s - 1)) 10 ∧ (s &&& (s - 1)) < s := by decide +kernel
theorem plcL_zero : plcL 0 10 = [] := by decide
attribute [local irreducible] gOK WS WC WR WD Ends FS YS OpV seqK blockK loopK midK retK rdK asgK rangeEnd sat Cell
section
variable {M : HL} {n0 : Nat} {H : Heap} {v w : Value}
theorem tz64_fs {s : Nat} (hs : s < 1024) (h0 : s ≠ 0) (H : Heap) : FS C 54 [.int .u64 (s : Int)] H (fun e H' => e = .int .i64 ((brT.getD (tzI s) 0 : Nat) : Int) ∧ H' = H) := by
  obtain ⟨h1, h2, h3⟩ := tz_ok s hs h0
  refine FS.intro (pf := pf54) rfl rfl rfl ?_
  repeat' (first | refine zP ?_ | refine zA ?_ | (refine zM ?_; intro _ _) | refine zX ?_ | (refine zC ?_; intro _ _ _ _) | (refine zS ?_; intro _ _) | refine zO ?_ | (apply Ws <;> intro hg))
  have hng : ngN s < 2 ^ 64 := Nat.mod_lt _ (by decide)
  have ha : s &&& ngN s < capK .u64 := and_cap (lt64 hs)
  have hbr : brT.getD (tzI s) 0 ≤ 255 := by
    have : ∀ i, i < 64 → brT.getD i 0 ≤ 255 := by decide
    exact this _ h1
  refine WR.op (by first | exact gN | exact gS rfl) rfl (OpV.negK rfl (c := ((ngN s : Nat) : Int)) (by rw [wrapI]; unfold ngN; omega)) ?_
  refine WR.op (by first | exact gN | exact gS rfl) rfl (OpV.andN rfl rfl (lt64 hs) hng) ?_
  refine WR.op (by first | exact gN | exact gS rfl) rfl (OpV.mulK rfl rfl (c := (((s &&& ngN s) * 285870213051353865 % 2 ^ 64 : Nat) : Int)) (by rw [show ((s &&& ngN s : Nat) : Int) * 285870213051353865 = (((s &&& ngN s) * 285870213051353865 : Nat) : Int) by omega]; exact wrapU _)) ?_
  refine WR.op (by first | exact gN | exact gS rfl) rfl (OpV.shrN (m := 58) rfl rfl (by decide)) ?_
  refine WR.op (by first | exact gN | exact gS rfl) rfl (OpV.idxG (m := tzI s) rfl rfl (by omega)) ?_
  refine WR.op (by first | exact gN | exact gS rfl) rfl (OpV.loadG rfl (gread_br h1)) ?_
  refine WR.op (by first | exact gN | exact gS rfl) rfl (OpV.conv u8k i64k rfl (c := ((brT.getD (tzI s) 0 : Nat) : Int)) (IntWalk.i64_in _ (by omega))) ?_
  repeat' (first | refine zP ?_ | refine zA ?_ | (refine zM ?_; intro _ _) | refine zX ?_ | (refine zC ?_; intro _ _ _ _) | (refine zS ?_; intro _ _) | (apply Ws <;> intro hg))
  exact Ends.ret1 rfl ⟨rfl, rfl⟩
theorem tz_fs {s : Nat} (hs : s < 1024) (h0 : s ≠ 0) (H : Heap) : FS C 30 [.int .u64 (s : Int)] H (fun e H' => e = .int .i64 ((brT.getD (tzI s) 0 : Nat) : Int) ∧ H' = H) := by
  refine FS.intro (pf := pf30) rfl rfl rfl ?_
  repeat' (first | refine zP ?_ | refine zA ?_ | (refine zM ?_; intro _ _) | refine zX ?_ | (refine zC ?_; intro _ _ _ _) | (refine zS ?_; intro _ _) | (apply Ws <;> intro hg))
  refine WR.call (by first | exact gN | exact gS rfl) rfl rfl (tz64_fs hs h0 _) ?_
  rintro _ _ ⟨rfl, rfl⟩
  repeat' (first | refine zP ?_ | refine zA ?_ | (refine zM ?_; intro _ _) | refine zX ?_ | (refine zC ?_; intro _ _ _ _) | (refine zS ?_; intro _ _) | (apply Ws <;> intro hg))
  exact Ends.ret1 rfl ⟨rfl, rfl⟩
structure KB where
  s : Nat
  done : List Nat
  v : Value
  Mx : HL
  n : Nat
def grdS (xs : List Int) (s : Nat) : Bool := (List.range xs.length).all fun i => decide (hm xs i &&& s ≠ 0)
theorem plcL_lt {s x : Nat} (h : x ∈ plcL s 10) : x < 10 ∧ s.testBit x = true := by
  have := List.mem_filter.1 h
  exact ⟨List.mem_range.1 this.1, this.2⟩
end
end Go.Proofs.YtcfffhkabhmkmaaDoor.Ps

/- The lists that cost the least, one after the other. -/
namespace Go.Proofs.YtcfffhkabhmkmaaDoor.Ps
open Go Go.Abs Go.Mth
set_option linter.unusedVariables false
set_option linter.unusedSimpArgs false
theorem snocInd {α : Type} {P : List α → Prop} (h0 : P []) (h1 : ∀ l x, P l → P (l ++ [x])) (l : List α) : P l := by
  have : ∀ r : List α, P r.reverse := by
    intro r
    induction r with
    | nil => exact h0
    | cons x r ih => rw [List.reverse_cons]; exact h1 _ _ ih
  have h := this l.reverse
  rwa [List.reverse_reverse] at h
theorem bestF_inv (c : List Nat → Int) (zs : List (List Nat)) : (zs = [] ∧ bestF c zs = ([], 0)) ∨ ((∀ z ∈ zs, (bestF c zs).2 ≤ c z) ∧ (bestF c zs).1 = zs.filter (fun z => decide (c z = (bestF c zs).2)) ∧ (bestF c zs).1 ≠ []) := by
  refine snocInd (P := fun zs => (zs = [] ∧ bestF c zs = ([], 0)) ∨ ((∀ z ∈ zs, (bestF c zs).2 ≤ c z) ∧ (bestF c zs).1 = zs.filter (fun z => decide (c z = (bestF c zs).2)) ∧ (bestF c zs).1 ≠ [])) (.inl ⟨rfl, rfl⟩) (fun l x ih => ?_) zs
  right
  rw [bestF_snoc]
  rcases ih with ⟨rfl, h⟩ | ⟨h1, h2, h3⟩
  · rw [h]
    simp [bestS]
  · obtain ⟨B, m, hb⟩ : ∃ B m, bestF c l = (B, m) := ⟨_, _, rfl⟩
    rw [hb] at h1 h2 h3 ⊢
    simp only at h1 h2 h3
    unfold bestS
    simp only
    by_cases hc : c x < m
    · rw [if_pos (.inr hc)]
      refine ⟨fun z hz => ?_, ?_, by simp⟩
      · rcases List.mem_append.1 hz with hz | hz
        · have := h1 z hz; simp only; omega
        · rw [List.mem_singleton.1 hz]; exact Int.le_refl _
      · simp only
        rw [List.filter_append, List.filter_eq_nil_iff.2 fun z hz => by have := h1 z hz; simp; omega]
        simp
    · rw [if_neg (by rintro (h | h); exact h3 h; exact hc h)]
      by_cases he : c x = m
      · rw [if_pos he]
        refine ⟨fun z hz => ?_, ?_, by simp⟩
        · rcases List.mem_append.1 hz with hz | hz
          · exact h1 z hz
          · rw [List.mem_singleton.1 hz]; simp only; omega
        · simp only
          rw [List.filter_append, List.filter_cons_of_pos (by simpa using he), ← h2]; rfl
      · rw [if_neg he]
        refine ⟨fun z hz => ?_, ?_, h3⟩
        · rcases List.mem_append.1 hz with hz | hz
          · exact h1 z hz
          · rw [List.mem_singleton.1 hz]; simp only; omega
        · simp only
          rw [List.filter_append, List.filter_cons_of_neg (by simpa using he), ← h2]; simp
theorem sumZ_len (z : List Nat) : sumZ (fun _ => 1) z = (z.length : Int) := by
  induction z with
  | nil => rfl
  | cons x z ih => have : sumZ (fun _ => 1) (x :: z) = 1 + sumZ (fun _ => 1) z := by simp [sumZ]
                   rw [this, ih, List.length_cons]; omega
theorem sumZ_neg (z : List Nat) : sumZ (fun _ => -1) z = -(z.length : Int) := by
  induction z with
  | nil => rfl
  | cons x z ih => have : sumZ (fun _ => -1) (x :: z) = -1 + sumZ (fun _ => -1) z := by simp [sumZ]
                   rw [this, ih, List.length_cons]; omega
def fstB (c : List Nat → Int) (zs : List (List Nat)) : List Nat := (bestF c zs).1.getD 0 []
theorem bestF_all {c : List Nat → Int} {zs : List (List Nat)} {z : List Nat} (h : z ∈ (bestF c zs).1) : z ∈ zs ∧ c z = (bestF c zs).2 := by
  rcases bestF_inv c zs with ⟨rfl, h1⟩ | ⟨_, h2, _⟩
  · rw [h1] at h; cases h
  · rw [h2] at h
    have := List.mem_filter.1 h
    exact ⟨this.1, by simpa using this.2⟩
theorem fstB_mem {c : List Nat → Int} {zs : List (List Nat)} (h : zs ≠ []) : fstB c zs ∈ (bestF c zs).1 := by
  unfold fstB
  exact getD_mem (List.length_pos_iff.2 (bestF_ne h))
theorem fstB_cost {c : List Nat → Int} {zs : List (List Nat)} (h : zs ≠ []) : c (fstB c zs) = (bestF c zs).2 := (bestF_all (fstB_mem h)).2
theorem bestF_le {c : List Nat → Int} {zs : List (List Nat)} {z : List Nat} (h : z ∈ zs) : (bestF c zs).2 ≤ c z := by
  rcases bestF_inv c zs with ⟨rfl, h1⟩ | ⟨h1, _, _⟩
  · cases h
  · exact h1 z h
end Go.Proofs.YtcfffhkabhmkmaaDoor.Ps

/- As few posts guard as places can be apart; at most half of the places; a place more. -/
namespace Go.Proofs.YtcfffhkabhmkmaaDoor.Ps
open Go Go.Abs Go.Mth
set_option linter.unusedVariables false
set_option linter.unusedSimpArgs false
def selL (n : Nat) (f : Nat → Bool) : List Nat := (List.range n).filter f
def cnt (n : Nat) (f : Nat → Bool) : Nat := (selL n f).length
theorem selL_asc (n : Nat) (f : Nat → Bool) : AscN n (selL n f) := ⟨List.pairwise_lt_range.sublist List.filter_sublist, fun x hx => List.mem_range.1 (List.mem_filter.1 hx).1⟩
theorem mem_selL {n : Nat} {f : Nat → Bool} {x : Nat} : x ∈ selL n f ↔ x < n ∧ f x = true := by simp [selL]
theorem cnt_succ (n : Nat) (f : Nat → Bool) : cnt (n + 1) f = cnt n f + if f n = true then 1 else 0 := by
  unfold cnt selL
  rw [List.range_succ, List.filter_append, List.length_append]
  by_cases h : f n = true
  · rw [if_pos h, List.filter_cons_of_pos h]; rfl
  · rw [if_neg h, List.filter_cons_of_neg h]; rfl
theorem cnt_le {f g : Nat → Bool} : ∀ {n : Nat}, (∀ x, x < n → f x = true → g x = true) → cnt n f ≤ cnt n g
  | 0, _ => by simp [cnt, selL]
  | n + 1, h => by
    have h1 := cnt_le (n := n) fun x hx => h x (by omega)
    rw [cnt_succ, cnt_succ]
    by_cases hf : f n = true
    · rw [if_pos hf, if_pos (h n (by omega) hf)]; omega
    · rw [if_neg hf]; omega
theorem cnt_or {f : Nat → Bool} {p : Nat} : ∀ {n : Nat}, cnt n (fun x => f x || decide (x = p)) ≤ cnt n f + 1 ∧ (n ≤ p → cnt n (fun x => f x || decide (x = p)) = cnt n f)
  | 0 => by simp [cnt, selL]
  | n + 1 => by
    obtain ⟨h1, h2⟩ := cnt_or (f := f) (p := p) (n := n)
    rw [cnt_succ, cnt_succ]
    by_cases e : n = p
    · have := h2 (by omega)
      rw [this]
      refine ⟨?_, fun h => by omega⟩
      split <;> split <;> omega
    · have e2 : (f n || decide (n = p)) = f n := by simp [e]
      rw [e2]
      refine ⟨by omega, fun h => by rw [h2 (by omega)]⟩
theorem cnt_mem {l : List Nat} {n : Nat} : cnt n (fun x => decide (x ∈ l)) ≤ l.length := by
  induction l with
  | nil =>
    have : selL n (fun x => decide (x ∈ ([] : List Nat))) = [] := List.filter_eq_nil_iff.2 (by simp)
    rw [cnt, this]; exact Nat.le_refl _
  | cons a l ih =>
    have h1 : cnt n (fun x => decide (x ∈ a :: l)) ≤ cnt n (fun x => decide (x ∈ l) || decide (x = a)) := cnt_le fun x _ hx => by
      simp only [decide_eq_true_eq, List.mem_cons] at hx
      simp only [Bool.or_eq_true, decide_eq_true_eq]
      exact hx.symm
    have h2 := (cnt_or (f := fun x => decide (x ∈ l)) (p := a) (n := n)).1
    rw [List.length_cons]; omega
theorem asc_sel {n : Nat} {l : List Nat} (h : AscN n l) : l = selL n (fun x => decide (x ∈ l)) := by
  have hs := selL_asc n fun x => decide (x ∈ l)
  have key : ∀ {a b : List Nat}, a.Pairwise (· < ·) → b.Pairwise (· < ·) → (∀ x, x ∈ a ↔ x ∈ b) → a = b := by
    intro a
    induction a with
    | nil =>
      intro b _ _ hm
      cases b with
      | nil => rfl
      | cons y b => exact absurd ((hm y).2 (by simp)) (by simp)
    | cons x a ih =>
      intro b h1 h2 hm
      cases b with
      | nil => exact absurd ((hm x).1 (by simp)) (by simp)
      | cons y b =>
        obtain ⟨k1, k2⟩ := List.pairwise_cons.1 h1
        obtain ⟨k3, k4⟩ := List.pairwise_cons.1 h2
        have hxy : x = y := by
          rcases List.mem_cons.1 ((hm x).1 (by simp)) with e | e
          · exact e
          · rcases List.mem_cons.1 ((hm y).2 (by simp)) with e2 | e2
            · exact e2.symm
            · have := k3 x e; have := k1 y e2; omega
        subst hxy
        rw [ih k2 k4 fun z => ?_]
        constructor
        · intro hz
          rcases List.mem_cons.1 ((hm z).1 (by simp [hz])) with e | e
          · have := k1 z hz; omega
          · exact e
        · intro hz
          rcases List.mem_cons.1 ((hm z).2 (by simp [hz])) with e | e
          · have := k3 z hz; omega
          · exact e
  refine key h.asc hs.asc fun x => ?_
  rw [mem_selL, decide_eq_true_eq]
  exact ⟨fun hx => ⟨h.lt x hx, hx⟩, fun hx => hx.2⟩
def few (xs : List Int) : List Nat := (fewB xs).getD 0 []
def far (xs : List Int) : List Nat := (aptB xs).getD 0 []
theorem few_mem (xs : List Int) : few xs ∈ grdL xs := (bestF_all (fstB_mem (grdL_ne xs))).1
theorem far_mem (xs : List Int) : far xs ∈ aptL xs := (bestF_all (fstB_mem (aptL_ne xs))).1
theorem few_grd (xs : List Int) : AscN xs.length (few xs) ∧ grd xs (few xs) = true := ⟨grdL_asc _ (few_mem xs), (List.mem_filter.1 (few_mem xs)).2⟩
theorem far_apt (xs : List Int) : AscN xs.length (far xs) ∧ apt xs (far xs) = true := ⟨aptL_asc _ (far_mem xs), (List.mem_filter.1 (far_mem xs)).2⟩
theorem few_le {xs : List Int} {z : List Nat} (h : AscN xs.length z) (hg : grd xs z = true) : (few xs).length ≤ z.length := by
  have h1 := bestF_le (c := sumZ fun _ => 1) (zs := grdL xs) (z := z) (List.mem_filter.2 ⟨mem_allA.2 h, hg⟩)
  have h2 := fstB_cost (c := sumZ fun _ => 1) (grdL_ne xs)
  have e : fstB (sumZ fun _ => 1) (grdL xs) = few xs := rfl
  rw [← h2, e, sumZ_len, sumZ_len] at h1
  omega
theorem far_ge {xs : List Int} {z : List Nat} (h : AscN xs.length z) (hg : apt xs z = true) : z.length ≤ (far xs).length := by
  have h1 := bestF_le (c := sumZ fun _ => -1) (zs := aptL xs) (z := z) (List.mem_filter.2 ⟨mem_allA.2 h, hg⟩)
  have h2 := fstB_cost (c := sumZ fun _ => -1) (aptL_ne xs)
  have e : fstB (sumZ fun _ => -1) (aptL xs) = far xs := rfl
  rw [← h2, e, sumZ_neg, sumZ_neg] at h1
  omega
theorem few_cnt {xs : List Int} {f : Nat → Bool} (h : ∀ i, i < xs.length → ∃ p, p < xs.length ∧ f p = true ∧ adj xs p i = true) : (few xs).length ≤ cnt xs.length f := by
  refine few_le (selL_asc _ f) (grd_iff.2 fun i hi => ?_)
  obtain ⟨p, h1, h2, h3⟩ := h i hi
  exact ⟨p, mem_selL.2 ⟨h1, h2⟩, h3⟩
/-! No places that are apart are more than posts that guard. -/
theorem weak {xs : List Int} : ∀ {l m : List Nat}, l.Pairwise (fun a b => hm xs a &&& hm xs b = 0) → (∀ x ∈ l, ∃ p ∈ m, p < xs.length ∧ adj xs p x = true) → l.length ≤ m.length
  | [], m, _, _ => by simp
  | x :: l, m, h1, h2 => by
    obtain ⟨k1, k2⟩ := List.pairwise_cons.1 h1
    obtain ⟨p, hp, hpn, ha⟩ := h2 x (by simp)
    have h3 : ∀ y ∈ l, ∃ q ∈ m.erase p, q < xs.length ∧ adj xs q y = true := fun y hy => by
      obtain ⟨q, hq, hqn, hb⟩ := h2 y (by simp [hy])
      refine ⟨q, (List.mem_erase_of_ne ?_).2 hq, hqn, hb⟩
      rintro rfl
      refine and_zero.1 (k1 y hy) q ⟨hm_bit.2 ⟨hqn, ?_⟩, hm_bit.2 ⟨hqn, ?_⟩⟩
      · rw [adj_comm]; exact ha
      · rw [adj_comm]; exact hb
    have := weak k2 h3
    rw [List.length_erase_of_mem hp] at this
    have := List.length_pos_of_mem hp
    rw [List.length_cons]; omega
theorem apt_le_grd {xs : List Int} {l m : List Nat} (hl : AscN xs.length l) (hm' : AscN xs.length m) (h1 : apt xs l = true) (h2 : grd xs m = true) : l.length ≤ m.length :=
  weak (of_decide_eq_true h1) fun x hx => by
    obtain ⟨p, hp, ha⟩ := grd_iff.1 h2 x (hl.lt x hx)
    exact ⟨p, hp, hm'.lt p hp, ha⟩
/-! From the places farthest out: where no post is at hand, one behind it. -/
def gr (xs : List Int) : Nat → List Nat × List Nat
  | 0 => ([], [])
  | d + 1 => if (gr xs d).1.any (fun p => adj xs p (xs.length - 1 - d)) = true then gr xs d else ((xs.getD (xs.length - 1 - d) 0).toNat :: (gr xs d).1, (xs.length - 1 - d) :: (gr xs d).2)
theorem gr_inv {xs : List Int} (hx : OKS xs) : ∀ d, d ≤ xs.length → (gr xs d).1.length = (gr xs d).2.length ∧ (∀ i, xs.length - d ≤ i → i < xs.length → ∃ p ∈ (gr xs d).1, adj xs p i = true) ∧ (gr xs d).2.Pairwise (· < ·) ∧ (∀ x ∈ (gr xs d).2, xs.length - d ≤ x ∧ x < xs.length) ∧
    (∀ x ∈ (gr xs d).2, (xs.getD x 0).toNat ∈ (gr xs d).1) ∧ (∀ p ∈ (gr xs d).1, p < xs.length) ∧ (gr xs d).2.Pairwise (fun a b => hm xs a &&& hm xs b = 0)
  | 0, _ => by
    refine ⟨rfl, fun i h1 h2 => by omega, by simp [gr], by simp [gr], by simp [gr], by simp [gr], by simp [gr]⟩
  | d + 1, hd => by
    obtain ⟨h1, h2, h3, h4, h5, h6, h7⟩ := gr_inv hx d (by omega)
    obtain ⟨i, hi⟩ : ∃ i, xs.length - 1 - d = i := ⟨_, rfl⟩
    have hin : i < xs.length := by omega
    have hir : xs.length - (d + 1) = i := by omega
    have hpar : (xs.getD i 0).toNat < xs.length ∧ (1 ≤ i → xs.getD i 0 = ((xs.getD i 0).toNat : Int) ∧ (xs.getD i 0).toNat < i) ∧ adj xs (xs.getD i 0).toNat i = true := by
      by_cases e : i = 0
      · subst e
        rw [hx.root]
        exact ⟨by simpa using hin, fun h => absurd h (by omega), adj_self _ _⟩
      · have := hx.par i (by omega) hin
        exact ⟨by omega, fun _ => ⟨by omega, by omega⟩, adj_iff.2 (.inr (.inr (by omega)))⟩
    rw [gr, hi]
    by_cases hany : (gr xs d).1.any (fun p => adj xs p i) = true
    · rw [if_pos hany]
      refine ⟨h1, fun j hj1 hj2 => ?_, h3, fun x hx' => ⟨by have := h4 x hx'; omega, (h4 x hx').2⟩, h5, h6, h7⟩
      by_cases e : j = i
      · subst e
        obtain ⟨p, hp, ha⟩ := List.any_eq_true.1 hany
        exact ⟨p, hp, ha⟩
      · exact h2 j (by omega) hj2
    · rw [if_neg hany]
      have hno : ∀ p ∈ (gr xs d).1, adj xs p i = false := fun p hp => by
        cases h : adj xs p i with
        | false => rfl
        | true => exact absurd (List.any_eq_true.2 ⟨p, hp, h⟩) hany
      generalize gr xs d = s at h1 h2 h3 h4 h5 h6 h7 hno ⊢
      obtain ⟨D, P⟩ := s
      simp only at h1 h2 h3 h4 h5 h6 h7 hno ⊢
      refine ⟨by simp [h1], fun j hj1 hj2 => ?_, List.pairwise_cons.2 ⟨fun x hx' => by have := h4 x hx'; omega, h3⟩, fun x hx' => ?_, fun x hx' => ?_, fun p hp => ?_, List.pairwise_cons.2 ⟨fun x hx' => ?_, h7⟩⟩
      · by_cases e : j = i
        · subst e; exact ⟨_, by simp, hpar.2.2⟩
        · obtain ⟨p, hp, ha⟩ := h2 j (by omega) hj2
          exact ⟨p, by simp [hp], ha⟩
      · rcases List.mem_cons.1 hx' with rfl | hx'
        · exact ⟨by omega, hin⟩
        · have := h4 x hx'; exact ⟨by omega, this.2⟩
      · rcases List.mem_cons.1 hx' with rfl | hx'
        · simp
        · exact List.mem_cons_of_mem _ (h5 x hx')
      · rcases List.mem_cons.1 hp with rfl | hp
        · exact hpar.1
        · exact h6 p hp
      · have hxi := h4 x hx'
        have hlt : i < x := by omega
        have hxp := hx.par x (by omega) hxi.2
        have hpD := h5 x hx'
        have hpn := hno _ hpD
        rw [and_zero]
        rintro y ⟨hy1, hy2⟩
        obtain ⟨hyn, hy1⟩ := hm_bit.1 hy1
        obtain ⟨_, hy2⟩ := hm_bit.1 hy2
        have hyr : ∀ a : Nat, xs.getD y 0 = (a : Int) → a < y := fun a ha => by
          by_cases e : y = 0
          · subst e; rw [hx.root] at ha; omega
          · have := hx.par y (by omega) hyn; omega
        have hir2 : ∀ a : Nat, xs.getD i 0 = (a : Int) → a < i := fun a ha => by
          by_cases e : i = 0
          · subst e; rw [hx.root] at ha; omega
          · have := hx.par i (by omega) hin; omega
        have hbad : ∀ q : Nat, xs.getD x 0 = (q : Int) → adj xs q i = true → False := fun q hq ha => by
          have : (xs.getD x 0).toNat = q := by omega
          rw [this] at hpn
          rw [ha] at hpn
          cases hpn
        rcases adj_iff.1 hy2 with e | e | e
        · subst e
          rcases adj_iff.1 hy1 with f | f | f
          · omega
          · have := hir2 _ f; omega
          · exact hbad i f (adj_self _ _)
        · exact hbad y e (by rw [adj_comm]; exact hy1)
        · have h8 := hyr x e
          rcases adj_iff.1 hy1 with f | f | f
          · omega
          · have := hir2 _ f; omega
          · omega
theorem strong {xs : List Int} (hx : OKS xs) : (few xs).length = (far xs).length := by
  obtain ⟨h1, h2, h3, h4, h5, h6, h7⟩ := gr_inv hx xs.length (Nat.le_refl _)
  have k1 : (few xs).length ≤ (gr xs xs.length).1.length := by
    refine Nat.le_trans (few_cnt (f := fun x => decide (x ∈ (gr xs xs.length).1)) fun i hi => ?_) cnt_mem
    obtain ⟨p, hp, ha⟩ := h2 i (by omega) hi
    exact ⟨p, h6 p hp, decide_eq_true hp, ha⟩
  have k2 : (gr xs xs.length).2.length ≤ (far xs).length := far_ge ⟨h3, fun x hx' => (h4 x hx').2⟩ (decide_eq_true h7)
  have k3 := apt_le_grd (far_apt xs).1 (few_grd xs).1 (far_apt xs).2 (few_grd xs).2
  omega
end Go.Proofs.YtcfffhkabhmkmaaDoor.Ps

/- Sets by numbers are lists of places; the first of the best lists. -/
namespace Go.Proofs.YtcfffhkabhmkmaaDoor.Ps
open Go Go.Abs Go.Mth
set_option linter.unusedVariables false
set_option linter.unusedSimpArgs false
def ordN (l m : List Nat) : Prop := l.length < m.length ∨ (l.length = m.length ∧ lexN l m)
instance ordN_dec (l m : List Nat) : Decidable (ordN l m) := by unfold ordN; infer_instance
theorem ordN_irr (l : List Nat) : ¬ ordN l l := by
  rintro (h | ⟨_, h⟩)
  · exact Nat.lt_irrefl _ h
  · exact lexN_irr l h
theorem ordN_tri {l m : List Nat} (h : l ≠ m) : ordN l m ∨ ordN m l := by
  rcases Nat.lt_trichotomy l.length m.length with e | e | e
  · exact .inl (.inl e)
  · rcases lexN_tri h with k | k
    · exact .inl (.inr ⟨e, k⟩)
    · exact .inr (.inr ⟨e.symm, k⟩)
  · exact .inr (.inl e)
theorem lexN_trans : ∀ {a b c : List Nat}, lexN a b → lexN b c → lexN a c := fun {a b c} h1 h2 => lexN_C.1 (lex_trans _ _ _ (lexN_C.2 h1) (lexN_C.2 h2))
theorem ordN_trans {a b c : List Nat} (h1 : ordN a b) (h2 : ordN b c) : ordN a c := by
  rcases h1 with h1 | ⟨h1, h3⟩ <;> rcases h2 with h2 | ⟨h2, h4⟩
  · exact .inl (by omega)
  · exact .inl (by omega)
  · exact .inl (by omega)
  · exact .inr ⟨by omega, lexN_trans h3 h4⟩
def lonN (l m : List Nat) : Prop := m.length < l.length ∨ (l.length = m.length ∧ lexN l m)
instance lonN_dec (l m : List Nat) : Decidable (lonN l m) := by unfold lonN; infer_instance
theorem lonN_irr (l : List Nat) : ¬ lonN l l := by
  rintro (h | ⟨_, h⟩)
  · exact Nat.lt_irrefl _ h
  · exact lexN_irr l h
theorem lonN_tri {l m : List Nat} (h : l ≠ m) : lonN l m ∨ lonN m l := by
  rcases Nat.lt_trichotomy l.length m.length with e | e | e
  · exact .inr (.inl e)
  · rcases lexN_tri h with k | k
    · exact .inl (.inr ⟨e, k⟩)
    · exact .inr (.inr ⟨e.symm, k⟩)
  · exact .inl (.inl e)
theorem lonN_trans {a b c : List Nat} (h1 : lonN a b) (h2 : lonN b c) : lonN a c := by
  rcases h1 with h1 | ⟨h1, h3⟩ <;> rcases h2 with h2 | ⟨h2, h4⟩
  · exact .inl (by omega)
  · exact .inl (by omega)
  · exact .inl (by omega)
  · exact .inr ⟨by omega, lexN_trans h3 h4⟩
theorem fst_least {c : List Nat → Int} {zs : List (List Nat)} (hs : zs.Pairwise lexN) {z : List Nat} (hz : z ∈ zs) (hc : c z = (bestF c zs).2) : z = fstB c zs ∨ lexN (fstB c zs) z := by
  rcases bestF_inv c zs with ⟨rfl, _⟩ | ⟨_, h2, h3⟩
  · cases hz
  · have hm : z ∈ (bestF c zs).1 := by rw [h2]; exact List.mem_filter.2 ⟨hz, by simpa using hc⟩
    have hp : (bestF c zs).1.Pairwise lexN := by rw [h2]; exact hs.sublist List.filter_sublist
    unfold fstB
    cases hB : (bestF c zs).1 with
    | nil => exact absurd hB h3
    | cons b B =>
      rw [hB] at hm hp
      rcases List.mem_cons.1 hm with e | e
      · exact .inl e
      · exact .inr ((List.pairwise_cons.1 hp).1 z e)
theorem few_first {xs : List Int} {z : List Nat} (h : AscN xs.length z) (hg : grd xs z = true) : ¬ ordN z (few xs) := by
  have hz : z ∈ grdL xs := List.mem_filter.2 ⟨mem_allA.2 h, hg⟩
  have hs : (grdL xs).Pairwise lexN := (allA_sorted _).sublist List.filter_sublist
  have hle := few_le h hg
  have h2 := fstB_cost (c := sumZ fun _ => 1) (grdL_ne xs)
  have e : fstB (sumZ fun _ => 1) (grdL xs) = few xs := rfl
  rw [e, sumZ_len] at h2
  rintro (hl | ⟨hl, hx⟩)
  · omega
  · rcases fst_least (c := sumZ fun _ => 1) hs hz (by rw [sumZ_len, ← h2, hl]) with k | k
    · rw [e] at k; rw [k] at hx; exact lexN_irr _ hx
    · rw [e] at k; exact lexN_asym hx k
theorem far_first {xs : List Int} {z : List Nat} (h : AscN xs.length z) (hg : apt xs z = true) : ¬ lonN z (far xs) := by
  have hz : z ∈ aptL xs := List.mem_filter.2 ⟨mem_allA.2 h, hg⟩
  have hs : (aptL xs).Pairwise lexN := (allA_sorted _).sublist List.filter_sublist
  have hle := far_ge h hg
  have h2 := fstB_cost (c := sumZ fun _ => -1) (aptL_ne xs)
  have e : fstB (sumZ fun _ => -1) (aptL xs) = far xs := rfl
  rw [e, sumZ_neg] at h2
  rintro (hl | ⟨hl, hx⟩)
  · omega
  · rcases fst_least (c := sumZ fun _ => -1) hs hz (by rw [sumZ_neg, ← h2, hl]) with k | k
    · rw [e] at k; rw [k] at hx; exact lexN_irr _ hx
    · rw [e] at k; exact lexN_asym hx k
/-! Sets. -/
theorem plcL_sel (s : Nat) : plcL s 10 = selL 10 s.testBit := rfl
theorem set_lt {n s x : Nat} (hs : s < 2 ^ n) (h : s.testBit x = true) : x < n := by
  refine Nat.lt_of_not_le fun hc => ?_
  have := Nat.testBit_lt_two_pow (Nat.lt_of_lt_of_le hs (Nat.pow_le_pow_right (by omega) hc))
  rw [h] at this; cases this
theorem plcL_asc {n s : Nat} (hs : s < 2 ^ n) : AscN n (plcL s 10) := ⟨(selL_asc 10 s.testBit).asc, fun x hx => set_lt hs (plcL_lt hx).2⟩
theorem plcL_mem {n s x : Nat} (hn : n ≤ 10) (hs : s < 2 ^ n) : x ∈ plcL s 10 ↔ s.testBit x = true := by
  rw [plcL_sel, mem_selL]
  exact ⟨fun h => h.2, fun h => ⟨by have := set_lt hs h; omega, h⟩⟩
theorem plcL_mask {n : Nat} (hn : n ≤ 10) {z : List Nat} (h : AscN n z) : maskN z < 2 ^ n ∧ plcL (maskN z) 10 = z := by
  have h1 := mask_lt h.lt
  refine ⟨h1, ?_⟩
  have h10 : AscN 10 z := ⟨h.asc, fun x hx => by have := h.lt x hx; omega⟩
  rw [plcL_sel]
  refine Eq.trans ?_ (asc_sel h10).symm
  unfold selL
  refine List.filter_congr fun x hx => ?_
  rw [Bool.eq_iff_iff, decide_eq_true_eq, mask_bit]
theorem grdS_iff {xs : List Int} {s : Nat} (hn : xs.length ≤ 10) (hs : s < 2 ^ xs.length) : grdS xs s = grd xs (plcL s 10) := by
  rw [Bool.eq_iff_iff, grd_iff]
  unfold grdS
  rw [List.all_eq_true]
  constructor
  · intro h i hi
    have h1 := of_decide_eq_true (h i (List.mem_range.2 hi))
    refine Classical.byContradiction fun hc => h1 (and_zero.2 fun j hj => hc ⟨j, (plcL_mem hn hs).2 hj.2, ?_⟩)
    rw [adj_comm]; exact (hm_bit.1 hj.1).2
  · intro h i hi
    have hi' := List.mem_range.1 hi
    obtain ⟨p, hp, ha⟩ := h i hi'
    refine decide_eq_true fun h0 => and_zero.1 h0 p ⟨hm_bit.2 ⟨(plcL_asc hs).lt p hp, by rw [adj_comm]; exact ha⟩, (plcL_mem hn hs).1 hp⟩
def FewI (xs : List Int) (k : Nat) (fw : List Nat) (fo : Bool) : Prop := (fo = false ∧ fw = [] ∧ ∀ s, s < k → grdS xs s = false) ∨ (fo = true ∧ (∃ s, s < k ∧ grdS xs s = true ∧ fw = plcL s 10) ∧ ∀ s, s < k → grdS xs s = true → ¬ ordN (plcL s 10) fw)
def ManI (xs : List Int) (k : Nat) (mn : List Nat) : Prop := (mn = [] ∨ ∃ s, s < k ∧ apt xs (plcL s 10) = true ∧ mn = plcL s 10) ∧ ∀ s, s < k → apt xs (plcL s 10) = true → ¬ lonN (plcL s 10) mn
theorem FewI.keep {xs : List Int} {k : Nat} {fw : List Nat} {fo : Bool} (h : FewI xs k fw fo) (hn : grdS xs k = false ∨ (fo = true ∧ ¬ ordN (plcL k 10) fw)) : FewI xs (k + 1) fw fo := by
  rcases h with ⟨h1, h2, h3⟩ | ⟨h1, ⟨s, h2, h3, h4⟩, h5⟩
  · refine .inl ⟨h1, h2, fun s hs => ?_⟩
    by_cases e : s = k
    · rcases hn with hn | hn
      · rw [e]; exact hn
      · rw [h1] at hn; cases hn.1
    · exact h3 s (by omega)
  · refine .inr ⟨h1, ⟨s, by omega, h3, h4⟩, fun t ht hg => ?_⟩
    by_cases e : t = k
    · rcases hn with hn | hn
      · rw [e, hn] at hg; cases hg
      · rw [e]; exact hn.2
    · exact h5 t (by omega) hg
theorem FewI.take {xs : List Int} {k : Nat} {fw : List Nat} {fo : Bool} (h : FewI xs k fw fo) (hg : grdS xs k = true) (ho : fo = false ∨ ordN (plcL k 10) fw) : FewI xs (k + 1) (plcL k 10) true := by
  refine .inr ⟨rfl, ⟨k, by omega, hg, rfl⟩, fun t ht hgt hlt => ?_⟩
  by_cases e : t = k
  · rw [e] at hlt; exact ordN_irr _ hlt
  · rcases h with ⟨h1, h2, h3⟩ | ⟨h1, h2, h5⟩
    · rw [h3 t (by omega)] at hgt; cases hgt
    · rcases ho with ho | ho
      · rw [h1] at ho; cases ho
      · exact h5 t (by omega) hgt (ordN_trans hlt ho)
theorem ManI.keep {xs : List Int} {k : Nat} {mn : List Nat} (h : ManI xs k mn) (hn : apt xs (plcL k 10) = false ∨ ¬ lonN (plcL k 10) mn) : ManI xs (k + 1) mn := by
  obtain ⟨h1, h2⟩ := h
  refine ⟨h1.imp id fun ⟨s, a, b⟩ => ⟨s, by omega, b⟩, fun t ht hg => ?_⟩
  by_cases e : t = k
  · rcases hn with hn | hn
    · rw [e, hn] at hg; cases hg
    · rw [e]; exact hn
  · exact h2 t (by omega) hg
theorem ManI.take {xs : List Int} {k : Nat} {mn : List Nat} (h : ManI xs k mn) (hg : apt xs (plcL k 10) = true) (ho : lonN (plcL k 10) mn) : ManI xs (k + 1) (plcL k 10) := by
  refine ⟨.inr ⟨k, by omega, hg, rfl⟩, fun t ht hgt hlt => ?_⟩
  by_cases e : t = k
  · rw [e] at hlt; exact lonN_irr _ hlt
  · exact h.2 t (by omega) hgt (lonN_trans hlt ho)
theorem FewI.all {xs : List Int} (hn : xs.length ≤ 10) {fw : List Nat} {fo : Bool} (h : FewI xs (2 ^ xs.length) fw fo) : few xs = fw := by
  obtain ⟨g1, g2⟩ := few_grd xs
  obtain ⟨m1, m2⟩ := plcL_mask hn g1
  have hg : grdS xs (maskN (few xs)) = true := by rw [grdS_iff hn m1, m2]; exact g2
  rcases h with ⟨h1, h2, h3⟩ | ⟨h1, ⟨s, h2, h3, rfl⟩, h5⟩
  · rw [h3 _ m1] at hg; cases hg
  · refine Classical.byContradiction fun hc => ?_
    have h6 := h5 _ m1 hg
    rw [m2] at h6
    rcases ordN_tri hc with k | k
    · exact h6 k
    · exact few_first (plcL_asc h2) (by rw [← grdS_iff hn h2]; exact h3) k
theorem ManI.all {xs : List Int} (hn : xs.length ≤ 10) {mn : List Nat} (h : ManI xs (2 ^ xs.length) mn) : far xs = mn := by
  obtain ⟨g1, g2⟩ := far_apt xs
  obtain ⟨m1, m2⟩ := plcL_mask hn g1
  obtain ⟨h1, h5⟩ := h
  refine Classical.byContradiction fun hc => ?_
  have h6 := h5 _ m1 (by rw [m2]; exact g2)
  rw [m2] at h6
  rcases lonN_tri hc with k | k
  · exact h6 k
  · rcases h1 with rfl | ⟨s, h2, h3, rfl⟩
    · exact far_first ⟨by simp, by simp⟩ (by simp [apt]) k
    · exact far_first (plcL_asc h2) h3 k
end Go.Proofs.YtcfffhkabhmkmaaDoor.Ps

/- A place more; cheaper prices. -/
namespace Go.Proofs.YtcfffhkabhmkmaaDoor.Ps
open Go Go.Abs Go.Mth
set_option linter.unusedVariables false
set_option linter.unusedSimpArgs false
end Go.Proofs.YtcfffhkabhmkmaaDoor.Ps

/- The law PostPacked. -/
namespace Go.Proofs.YtcfffhkabhmkmaaDoor.Ps
open Go Go.Abs Go.Mth
set_option linter.unusedVariables false
set_option linter.unusedSimpArgs false
attribute [local irreducible] gOK WS WC WR WD Ends FS YS OpV seqK blockK loopK midK retK rdK asgK rangeEnd sat Cell
section
variable {M : HL} {n0 : Nat} {H : Heap} {v w : Value}
end
end Go.Proofs.YtcfffhkabhmkmaaDoor.Ps

/- How many lists of posts guard: an odd number. -/
namespace Go.Proofs.YtcfffhkabhmkmaaDoor.Ps
open Go Go.Abs Go.Mth
set_option linter.unusedVariables false
set_option linter.unusedSimpArgs false
theorem cnt_congr {f g : Nat → Bool} {n : Nat} (h : ∀ x, x < n → f x = g x) : cnt n f = cnt n g := by
  unfold cnt selL
  rw [List.filter_congr fun x hx => h x (List.mem_range.1 hx)]
/-! As many sets as lists. -/
theorem sub_len {α : Type} [DecidableEq α] : ∀ {a b : List α}, a.Nodup → (∀ x ∈ a, x ∈ b) → a.length ≤ b.length
  | [], b, _, _ => by simp
  | x :: a, b, h1, h2 => by
    obtain ⟨k1, k2⟩ := List.nodup_cons.1 h1
    have hx := h2 x (by simp)
    have := sub_len (b := b.erase x) k2 fun y hy => (List.mem_erase_of_ne (fun e => k1 (by rw [← e]; exact hy))).2 (h2 y (by simp [hy]))
    rw [List.length_erase_of_mem hx] at this
    have := List.length_pos_of_mem hx
    rw [List.length_cons]; omega
theorem map_nodup {α β : Type} {f : α → β} : ∀ {l : List α}, l.Nodup → (∀ x ∈ l, ∀ y ∈ l, f x = f y → x = y) → (l.map f).Nodup
  | [], _, _ => by simp
  | a :: l, h1, h2 => by
    obtain ⟨k1, k2⟩ := List.nodup_cons.1 h1
    rw [List.map_cons, List.nodup_cons]
    refine ⟨fun hm => ?_, map_nodup k2 fun x hx y hy => h2 x (by simp [hx]) y (by simp [hy])⟩
    obtain ⟨y, hy, he⟩ := List.mem_map.1 hm
    have := h2 y (by simp [hy]) a (by simp) he
    exact k1 (this ▸ hy)
theorem asc_ext {n : Nat} {a b : List Nat} (h1 : AscN n a) (h2 : AscN n b) (h : ∀ x, x < n → (x ∈ a ↔ x ∈ b)) : a = b := by
  rw [asc_sel h1, asc_sel h2]
  unfold selL
  refine List.filter_congr fun x hx => ?_
  rw [decide_eq_decide]
  exact h x (List.mem_range.1 hx)
end Go.Proofs.YtcfffhkabhmkmaaDoor.Ps

/- The law PostPacked: its walk. -/
namespace Go.Proofs.YtcfffhkabhmkmaaDoor.Ps
open Go Go.Abs Go.Mth
set_option linter.unusedVariables false
set_option linter.unusedSimpArgs false
attribute [local irreducible] gOK WS WC WR WD Ends FS YS OpV seqK blockK loopK midK retK rdK asgK rangeEnd sat Cell
section
variable {M : HL} {n0 : Nat} {H : Heap} {v w : Value}
end
end Go.Proofs.YtcfffhkabhmkmaaDoor.Ps

/- Shores with other numbers. -/
namespace Go.Proofs.YtcfffhkabhmkmaaDoor.Ps
open Go Go.Abs Go.Mth
set_option linter.unusedVariables false
set_option linter.unusedSimpArgs false
structure Iso (xs ys : List Int) (σ : Nat → Nat) : Prop where
  len : ys.length = xs.length
  lt : ∀ i, i < xs.length → σ i < xs.length
  inj : ∀ i j, i < xs.length → j < xs.length → σ i = σ j → i = j
  adj : ∀ i j, i < xs.length → j < xs.length → adj ys i j = adj xs (σ i) (σ j)
theorem onto {n : Nat} {σ : Nat → Nat} (lt : ∀ i, i < n → σ i < n) (inj : ∀ i j, i < n → j < n → σ i = σ j → i = j) {k : Nat} (hk : k < n) : ∃ i, i < n ∧ σ i = k := by
  refine Classical.byContradiction fun hc => ?_
  have h1 : ((List.range n).map σ).Nodup := map_nodup List.nodup_range fun x hx y hy => inj x y (List.mem_range.1 hx) (List.mem_range.1 hy)
  have h2 := sub_len (b := (List.range n).erase k) h1 fun y hy => by
    obtain ⟨i, hi, rfl⟩ := List.mem_map.1 hy
    have hi' := List.mem_range.1 hi
    exact (List.mem_erase_of_ne fun e => hc ⟨i, hi', e⟩).2 (List.mem_range.2 (lt i hi'))
  rw [List.length_map, List.length_erase_of_mem (List.mem_range.2 hk), List.length_range] at h2
  omega
theorem Iso.symm {xs ys : List Int} {σ : Nat → Nat} (h : Iso xs ys σ) : ∃ τ, Iso ys xs τ ∧ (∀ j, j < xs.length → σ (τ j) = j) ∧ ∀ i, i < xs.length → τ (σ i) = i := by
  have hex : ∀ k, ∃ i, k < xs.length → i < xs.length ∧ σ i = k := fun k => by
    by_cases hk : k < xs.length
    · obtain ⟨i, h1, h2⟩ := onto h.lt h.inj hk
      exact ⟨i, fun _ => ⟨h1, h2⟩⟩
    · exact ⟨0, fun h => absurd h hk⟩
  obtain ⟨τ, hτ⟩ := Classical.axiomOfChoice hex
  have hr : ∀ i, i < xs.length → τ (σ i) = i := fun i hi => by
    have := hτ (σ i) (h.lt i hi)
    exact h.inj _ _ this.1 hi this.2
  refine ⟨τ, ⟨h.len.symm, fun i hi => by rw [h.len] at hi ⊢; exact (hτ i hi).1, fun i j hi hj e => ?_, fun i j hi hj => ?_⟩, fun j hj => (hτ j hj).2, hr⟩
  · rw [h.len] at hi hj
    rw [← (hτ i hi).2, ← (hτ j hj).2, e]
  · rw [h.len] at hi hj
    rw [h.adj _ _ (hτ i hi).1 (hτ j hj).1, (hτ i hi).2, (hτ j hj).2]
theorem cnt_iso {n : Nat} {σ : Nat → Nat} (lt : ∀ i, i < n → σ i < n) (inj : ∀ i j, i < n → j < n → σ i = σ j → i = j) (f : Nat → Bool) : cnt n (fun i => f (σ i)) ≤ cnt n f := by
  have h1 : ((selL n fun i => f (σ i)).map σ).Nodup := map_nodup (selL_asc _ _).nodup fun x hx y hy => inj x y (mem_selL.1 hx).1 (mem_selL.1 hy).1
  have := sub_len (b := selL n f) h1 fun y hy => by
    obtain ⟨i, hi, rfl⟩ := List.mem_map.1 hy
    obtain ⟨h2, h3⟩ := mem_selL.1 hi
    exact mem_selL.2 ⟨lt i h2, h3⟩
  rw [List.length_map] at this
  exact this
theorem Iso.cnt {xs ys : List Int} {σ : Nat → Nat} (h : Iso xs ys σ) (f : Nat → Bool) : Ps.cnt xs.length (fun i => f (σ i)) = Ps.cnt xs.length f := by
  obtain ⟨τ, hi, h1, h2⟩ := h.symm
  refine Nat.le_antisymm (cnt_iso h.lt h.inj f) ?_
  have h3 := cnt_iso (n := xs.length) (σ := τ) (fun i hi' => by have := hi.lt i (by rw [h.len]; exact hi'); rwa [h.len] at this) (fun i j hi' hj' => hi.inj i j (by rw [h.len]; exact hi') (by rw [h.len]; exact hj')) (fun i => f (σ i))
  rw [cnt_congr (g := f) fun j hj => by rw [h1 j hj]] at h3
  exact h3
def renL (n : Nat) (σ : Nat → Nat) (z : List Nat) : List Nat := selL n fun i => decide (σ i ∈ z)
theorem mem_renL {n : Nat} {σ : Nat → Nat} {z : List Nat} {i : Nat} : i ∈ renL n σ z ↔ i < n ∧ σ i ∈ z := by
  unfold renL; rw [mem_selL, decide_eq_true_eq]
theorem Iso.ren_len {xs ys : List Int} {σ : Nat → Nat} (h : Iso xs ys σ) {z : List Nat} (hz : AscN xs.length z) : (renL xs.length σ z).length = z.length := by
  have e1 := congrArg List.length (asc_sel hz)
  rw [e1]
  exact h.cnt fun x => decide (x ∈ z)
theorem Iso.ren_grd {xs ys : List Int} {σ : Nat → Nat} (h : Iso xs ys σ) {z : List Nat} (hz : AscN xs.length z) (hg : grd xs z = true) : grd ys (renL xs.length σ z) = true := by
  rw [grd_iff] at hg ⊢
  intro i hi
  rw [h.len] at hi
  obtain ⟨p, hp, ha⟩ := hg (σ i) (h.lt i hi)
  obtain ⟨q, hq, rfl⟩ := onto h.lt h.inj (hz.lt p hp)
  exact ⟨q, mem_renL.2 ⟨hq, hp⟩, by rw [h.adj q i hq hi]; exact ha⟩
theorem Iso.few_le {xs ys : List Int} {σ : Nat → Nat} (h : Iso xs ys σ) : (few ys).length ≤ (few xs).length := by
  obtain ⟨h1, h2⟩ := few_grd xs
  have := Ps.few_le (xs := ys) (z := renL xs.length σ (few xs)) (by rw [h.len]; exact selL_asc _ _) (h.ren_grd h1 h2)
  rwa [h.ren_len h1] at this
theorem Iso.few {xs ys : List Int} {σ : Nat → Nat} (h : Iso xs ys σ) : (Ps.few ys).length = (Ps.few xs).length := by
  obtain ⟨τ, hi, _⟩ := h.symm
  exact Nat.le_antisymm h.few_le hi.few_le
theorem ren_inj {n : Nat} {σ : Nat → Nat} (lt : ∀ i, i < n → σ i < n) (inj : ∀ i j, i < n → j < n → σ i = σ j → i = j) {y z : List Nat} (hy : AscN n y) (hz : AscN n z) (h : renL n σ y = renL n σ z) : y = z :=
  asc_ext hy hz fun x hx => by
    obtain ⟨q, hq, rfl⟩ := onto lt inj hx
    have : q ∈ renL n σ y ↔ q ∈ renL n σ z := by rw [h]
    rw [mem_renL, mem_renL] at this
    exact ⟨fun h => (this.1 ⟨hq, h⟩).2, fun h => (this.2 ⟨hq, h⟩).2⟩
theorem Iso.grdL_le {xs ys : List Int} {σ : Nat → Nat} (h : Iso xs ys σ) : (grdL xs).length ≤ (grdL ys).length := by
  have h1 : ((grdL xs).map (renL xs.length σ)).Nodup := map_nodup ((allA_nodup _).sublist List.filter_sublist) fun y hy z hz => ren_inj h.lt h.inj (grdL_asc y hy) (grdL_asc z hz)
  have := sub_len (b := grdL ys) h1 fun w hw => by
    obtain ⟨z, hz, rfl⟩ := List.mem_map.1 hw
    exact List.mem_filter.2 ⟨mem_allA.2 (by rw [h.len]; exact selL_asc _ _), h.ren_grd (grdL_asc z hz) (List.mem_filter.1 hz).2⟩
  rwa [List.length_map] at this
theorem Iso.grdL {xs ys : List Int} {σ : Nat → Nat} (h : Iso xs ys σ) : (Ps.grdL ys).length = (Ps.grdL xs).length := by
  obtain ⟨τ, hi, _⟩ := h.symm
  exact Nat.le_antisymm hi.grdL_le h.grdL_le
theorem mem_fewB {xs : List Int} {z : List Nat} : z ∈ fewB xs ↔ AscN xs.length z ∧ grd xs z = true ∧ z.length = (few xs).length := by
  have h2 := fstB_cost (c := sumZ fun _ => 1) (grdL_ne xs)
  have e : fstB (sumZ fun _ => 1) (Ps.grdL xs) = few xs := rfl
  rw [e, sumZ_len] at h2
  rcases bestF_inv (sumZ fun _ => 1) (Ps.grdL xs) with ⟨h, _⟩ | ⟨_, h3, _⟩
  · exact absurd h (grdL_ne xs)
  · unfold fewB
    obtain ⟨m, hm⟩ : ∃ m, (bestF (sumZ fun _ => 1) (Ps.grdL xs)).2 = m := ⟨_, rfl⟩
    rw [hm] at h2 h3
    rw [h3, Ps.grdL, List.mem_filter, List.mem_filter, mem_allA, decide_eq_true_eq, sumZ_len]
    constructor
    · rintro ⟨⟨q1, q2⟩, q3⟩; exact ⟨q1, q2, by omega⟩
    · rintro ⟨q1, q2, q3⟩; exact ⟨⟨q1, q2⟩, by omega⟩
theorem fewB_nodup (xs : List Int) : (fewB xs).Nodup := by
  rcases bestF_inv (sumZ fun _ => 1) (Ps.grdL xs) with ⟨h, _⟩ | ⟨_, h3, _⟩
  · exact absurd h (grdL_ne xs)
  · unfold fewB; rw [h3]; exact ((allA_nodup _).sublist List.filter_sublist).sublist List.filter_sublist
theorem Iso.ren_few {xs ys : List Int} {σ : Nat → Nat} (h : Iso xs ys σ) {z : List Nat} (hz : z ∈ fewB xs) : renL xs.length σ z ∈ fewB ys := by
  obtain ⟨h1, h2, h3⟩ := mem_fewB.1 hz
  exact mem_fewB.2 ⟨by rw [h.len]; exact selL_asc _ _, h.ren_grd h1 h2, by rw [h.ren_len h1, h3, h.few]⟩
theorem Iso.fewB_le {xs ys : List Int} {σ : Nat → Nat} (h : Iso xs ys σ) : (fewB xs).length ≤ (fewB ys).length := by
  have h1 : ((fewB xs).map (renL xs.length σ)).Nodup := map_nodup (fewB_nodup xs) fun y hy z hz => ren_inj h.lt h.inj (mem_fewB.1 hy).1 (mem_fewB.1 hz).1
  have := sub_len (b := fewB ys) h1 fun w hw => by
    obtain ⟨z, hz, rfl⟩ := List.mem_map.1 hw
    exact h.ren_few hz
  rwa [List.length_map] at this
theorem Iso.fewB {xs ys : List Int} {σ : Nat → Nat} (h : Iso xs ys σ) : (Ps.fewB ys).length = (Ps.fewB xs).length := by
  obtain ⟨τ, hi, _⟩ := h.symm
  exact Nat.le_antisymm hi.fewB_le h.fewB_le
def alw (xs : List Int) : List Nat := inL (Ps.fewB xs) (Ps.fewB xs).length xs.length
theorem mem_alw {xs : List Int} {p : Nat} : p ∈ alw xs ↔ p < xs.length ∧ ∀ z ∈ Ps.fewB xs, p ∈ z := by
  unfold alw inL timL
  rw [List.mem_filter, List.mem_range, decide_eq_true_eq, List.countP_eq_length]
  simp
theorem Iso.alw_mem {xs ys : List Int} {σ : Nat → Nat} (h : Iso xs ys σ) {i : Nat} (hi : i ∈ alw ys) : σ i ∈ alw xs := by
  obtain ⟨h1, h2⟩ := mem_alw.1 hi
  rw [h.len] at h1
  exact mem_alw.2 ⟨h.lt i h1, fun z hz => (mem_renL.1 (h2 _ (h.ren_few hz))).2⟩
theorem Iso.alw_len {xs ys : List Int} {σ : Nat → Nat} (h : Iso xs ys σ) : (alw ys).length = (alw xs).length := by
  have key : ∀ {xs ys : List Int} {σ : Nat → Nat}, Iso xs ys σ → (alw ys).length ≤ (alw xs).length := fun {xs ys σ} h => by
    have h1 : ((alw ys).map σ).Nodup := map_nodup (show AscN ys.length (alw ys) from selL_asc _ _).nodup fun x hx y hy => h.inj x y (by have := (mem_alw.1 hx).1; rwa [h.len] at this) (by have := (mem_alw.1 hy).1; rwa [h.len] at this)
    have := sub_len (b := alw xs) h1 fun w hw => by
      obtain ⟨z, hz, rfl⟩ := List.mem_map.1 hw
      exact h.alw_mem hz
    rwa [List.length_map] at this
  obtain ⟨τ, hi, _⟩ := h.symm
  exact Nat.le_antisymm (key h) (key hi)
/-! From one place on, to its neighbours, and so on. -/
structure BfsI (xs : List Int) (od : List Nat) (ot : List Int) (at_ : Nat) : Prop where
  nodup : od.Nodup
  lt : ∀ x ∈ od, x < xs.length
  len : ot.length = od.length
  pos : 1 ≤ od.length
  root : ot.getD 0 0 = -1
  par : ∀ i, 1 ≤ i → i < od.length → ∃ a : Nat, ot.getD i 0 = (a : Int) ∧ a < i ∧ adj xs (od.getD a 0) (od.getD i 0) = true
  done : ∀ j, j < at_ → j < od.length → ∀ p, p < xs.length → adj xs (od.getD j 0) p = true → p ∈ od
theorem BfsI.add {xs : List Int} {od : List Nat} {ot : List Int} {a p : Nat} (h : BfsI xs od ot a) (ha : a < od.length) (hp : p < xs.length) (hadj : adj xs (od.getD a 0) p = true) (hn : p ∉ od) : BfsI xs (od ++ [p]) (ot ++ [(a : Int)]) a where
  nodup := by rw [List.nodup_append]; exact ⟨h.nodup, by simp, fun x hx y hy => by rw [List.mem_singleton.1 hy]; exact fun e => hn (e ▸ hx)⟩
  lt x hx := by
    rcases List.mem_append.1 hx with hx | hx
    · exact h.lt x hx
    · rw [List.mem_singleton.1 hx]; exact hp
  len := by simp [h.len]
  pos := by simp
  root := by rw [getD_app_l (by have := h.len; have := h.pos; omega)]; exact h.root
  par i h1 hi := by
    rw [List.length_append, List.length_singleton] at hi
    by_cases e : i = od.length
    · subst e
      refine ⟨a, by rw [← h.len, getD_snoc], ha, ?_⟩
      rw [getD_app_l ha, snoc_at]; exact hadj
    · obtain ⟨b, q1, q2, q3⟩ := h.par i h1 (by omega)
      exact ⟨b, by rw [getD_app_l (by have := h.len; omega)]; exact q1, q2, by rw [getD_app_l (by omega), getD_app_l (by omega)]; exact q3⟩
  done j hj hjl q hq hb := by
    rw [getD_app_l (by omega)] at hb
    exact List.mem_append_left _ (h.done j hj (by omega) q hq hb)
theorem closed_all {xs : List Int} (hok : OKS xs) {S : List Nat} {r : Nat} (hr : r ∈ S) (hrl : r < xs.length) (hc : ∀ x ∈ S, ∀ p, p < xs.length → adj xs x p = true → p ∈ S) : ∀ i, i < xs.length → i ∈ S := by
  have h0 : ∀ i, i < xs.length → i ∈ S → 0 ∈ S := by
    intro i
    induction i using Nat.strongRecOn with
    | ind i ih =>
      intro hi hm
      by_cases e : i = 0
      · rw [← e]; exact hm
      · have hp := hok.par i (by omega) hi
        exact ih (xs.getD i 0).toNat (by omega) (by omega) (hc i hm _ (by omega) (adj_iff.2 (.inr (.inl (by omega)))))
  have hz := h0 r hrl hr
  intro i
  induction i using Nat.strongRecOn with
  | ind i ih =>
    intro hi
    by_cases e : i = 0
    · rw [e]; exact hz
    · have hp := hok.par i (by omega) hi
      exact hc _ (ih (xs.getD i 0).toNat (by omega) (by omega)) i hi (adj_iff.2 (.inr (.inr (by omega))))
theorem BfsI.full {xs : List Int} (hok : OKS xs) {od : List Nat} {ot : List Int} (h : BfsI xs od ot od.length) : od.length = xs.length ∧ OKS ot ∧ Iso xs ot (fun i => od.getD i 0) := by
  have hmem : ∀ i, i < xs.length → i ∈ od := by
    refine closed_all hok (r := od.getD 0 0) (getD_mem h.pos) (h.lt _ (getD_mem h.pos)) fun x hx p hp ha => ?_
    obtain ⟨j, hj, rfl⟩ := List.mem_iff_getElem.1 hx
    exact h.done j hj hj p hp (by rw [getD_eq hj]; exact ha)
  have hlen : od.length = xs.length := by
    have h1 := nodup_le xs.length od h.nodup h.lt
    have h2 := sub_len (a := List.range xs.length) (b := od) List.nodup_range fun x hx => hmem x (List.mem_range.1 hx)
    rw [List.length_range] at h2
    omega
  have hot : OKS ot := {
    one := by rw [h.len, hlen]; exact hok.one
    most := by rw [h.len, hlen]; exact hok.most
    root := h.root
    par := fun k hk hl => by
      obtain ⟨a, q1, q2, _⟩ := h.par k hk (by rw [← h.len]; exact hl)
      omega }
  have hinj : ∀ i j, i < xs.length → j < xs.length → od.getD i 0 = od.getD j 0 → i = j := fun i j hi hj e => by
    rw [getD_eq (by omega), getD_eq (by omega)] at e
    exact (List.getElem_inj h.nodup).1 e
  have hlt : ∀ i, i < xs.length → od.getD i 0 < xs.length := fun i hi => h.lt _ (getD_mem (by omega))
  have hpar : ∀ i, ∃ a : Nat, 1 ≤ i → i < xs.length → ot.getD i 0 = (a : Int) ∧ a < i ∧ adj xs (od.getD a 0) (od.getD i 0) = true := fun i => by
    by_cases h1 : 1 ≤ i ∧ i < xs.length
    · obtain ⟨a, q⟩ := h.par i h1.1 (by omega)
      exact ⟨a, fun _ _ => q⟩
    · exact ⟨0, fun q1 q2 => absurd ⟨q1, q2⟩ h1⟩
  obtain ⟨pa, hpa⟩ := Classical.axiomOfChoice hpar
  -- the child of each line
  have hch : ∀ i, ∃ k : Nat, 1 ≤ i → i < xs.length → 1 ≤ k ∧ k < xs.length ∧ ((k = od.getD i 0 ∧ xs.getD k 0 = ((od.getD (pa i) 0 : Nat) : Int)) ∨ (k = od.getD (pa i) 0 ∧ xs.getD k 0 = ((od.getD i 0 : Nat) : Int))) := fun i => by
    by_cases h1 : 1 ≤ i ∧ i < xs.length
    · obtain ⟨q1, q2, q3⟩ := hpa i h1.1 h1.2
      have l1 := hlt i h1.2
      have l2 := hlt (pa i) (by omega)
      rcases adj_iff.1 q3 with e | e | e
      · have := hinj _ _ (by omega) h1.2 e
        omega
      · refine ⟨od.getD (pa i) 0, fun _ _ => ⟨?_, l2, .inr ⟨rfl, e⟩⟩⟩
        refine Nat.pos_of_ne_zero fun e0 => ?_
        rw [e0, hok.root] at e; omega
      · refine ⟨od.getD i 0, fun _ _ => ⟨?_, l1, .inl ⟨rfl, e⟩⟩⟩
        refine Nat.pos_of_ne_zero fun e0 => ?_
        rw [e0, hok.root] at e; omega
    · exact ⟨0, fun q1 q2 => absurd ⟨q1, q2⟩ h1⟩
  obtain ⟨ch, hch⟩ := Classical.axiomOfChoice hch
  have hchinj : ∀ i j, i < xs.length → j < xs.length → (if i = 0 then 0 else ch i) = (if j = 0 then 0 else ch j) → i = j := fun i j hi hj e => by
    by_cases i0 : i = 0
    · by_cases j0 : j = 0
      · omega
      · rw [if_pos i0, if_neg j0] at e
        have := (hch j (by omega) hj).1; omega
    · by_cases j0 : j = 0
      · rw [if_neg i0, if_pos j0] at e
        have := (hch i (by omega) hi).1; omega
      · rw [if_neg i0, if_neg j0] at e
        obtain ⟨_, _, a1⟩ := hch i (by omega) hi
        obtain ⟨_, _, a2⟩ := hch j (by omega) hj
        have p1 := (hpa i (by omega) hi).2.1
        have p2 := (hpa j (by omega) hj).2.1
        rw [e] at a1
        rcases a1 with ⟨b1, b2⟩ | ⟨b1, b2⟩ <;> rcases a2 with ⟨d1, d2⟩ | ⟨d1, d2⟩
        · exact hinj i j hi hj (by omega)
        · have e1 := hinj i (pa j) hi (by omega) (by omega)
          have e2 := hinj (pa i) j (by omega) hj (by omega)
          omega
        · have e1 := hinj (pa i) j (by omega) hj (by omega)
          have e2 := hinj i (pa j) hi (by omega) (by omega)
          omega
        · exact hinj i j hi hj (by omega)
  have hchlt : ∀ i, i < xs.length → (if i = 0 then 0 else ch i) < xs.length := fun i hi => by
    split
    · omega
    · exact (hch i (by omega) hi).2.1
  refine ⟨hlen, hot, by rw [h.len, hlen], hlt, hinj, fun i j hi hj => ?_⟩
  have hfw : ∀ i j, i < xs.length → j < xs.length → ot.getD i 0 = (j : Int) → adj xs (od.getD i 0) (od.getD j 0) = true := fun i j hi hj e => by
    have i0 : 1 ≤ i := Nat.pos_of_ne_zero fun e0 => by rw [e0, h.root] at e; omega
    obtain ⟨q1, q2, q3⟩ := hpa i i0 hi
    have : pa i = j := by omega
    rw [this, adj_comm] at q3
    exact q3
  have hbw : ∀ i j, i < xs.length → j < xs.length → xs.getD (od.getD i 0) 0 = ((od.getD j 0 : Nat) : Int) → adj ot i j = true := fun i j hi hj e => by
    obtain ⟨m, hm, hme⟩ := onto hchlt hchinj (hlt i hi)
    have i0 : od.getD i 0 ≠ 0 := fun e0 => by rw [e0, hok.root] at e; omega
    have m0 : m ≠ 0 := fun e0 => by rw [if_pos e0] at hme; omega
    rw [if_neg m0] at hme
    obtain ⟨_, _, a1⟩ := hch m (by omega) hm
    have p1 := hpa m (by omega) hm
    rw [hme] at a1
    rcases a1 with ⟨b1, b2⟩ | ⟨b1, b2⟩
    · have e1 := hinj i m hi hm b1
      have e2 := hinj j (pa m) hj (by omega) (by omega)
      rw [e1, e2]
      exact adj_iff.2 (.inr (.inl p1.1))
    · have e1 := hinj i (pa m) hi (by omega) b1
      have e2 := hinj j m hj hm (by omega)
      rw [e1, e2]
      exact adj_iff.2 (.inr (.inr p1.1))
  rw [Bool.eq_iff_iff]
  constructor
  · intro ha
    rcases adj_iff.1 ha with e | e | e
    · rw [e]; exact adj_self _ _
    · exact hfw i j hi hj e
    · rw [adj_comm]; exact hfw j i hj hi e
  · intro ha
    rcases adj_iff.1 ha with e | e | e
    · rw [hinj i j hi hj e]; exact adj_self _ _
    · exact hbw i j hi hj e
    · rw [adj_comm]; exact hbw j i hj hi e
end Go.Proofs.YtcfffhkabhmkmaaDoor.Ps

/- Members that can be written, a list the other way round. -/
namespace Go.Proofs.YtcfffhkabhmkmaaDoor.Ps
open Go Go.Abs Go.Mth
set_option linter.unusedVariables false
set_option linter.unusedSimpArgs false
attribute [local irreducible] gOK WS WC WR WD Ends FS YS OpV seqK blockK loopK midK retK rdK asgK rangeEnd sat Cell
section
variable {M : HL} {n0 : Nat} {H : Heap} {v w : Value} {o : List Int}
theorem membersR_fs (hH : hasH M n0 H) {s : Nat} (hs : s < 1024) (hs0 : s ≠ 0) :
    FS C 9 [.int .u64 (s : Int)] H (fun e H' => ∃ Mx n', OwnR 3 1 e (nodes (plcL s 10)) Mx ∧ n0 ≤ n' ∧ hasH (Mx ++ M) n' H') := by
  have hne : plcL s 10 ≠ [] := by
    obtain ⟨_, h2, _⟩ := tz_ok s hs hs0
    rw [h2]; exact List.cons_ne_nil _ _
  refine FS.intro (pf := pf9) rfl rfl rfl ?_
  repeat' (first | refine zP ?_ | refine zA ?_ | (refine zM ?_; intro _ _) | refine zX ?_ | (refine zC ?_; intro _ _ _ _) | (refine zS ?_; intro _ _) | (apply Ws <;> intro hg))
  refine WC.loopX [] (fun z : KB => [(0, .int .u64 (z.s : Int)), (3, z.v)]) [] (fun z H' => z.s < 1024 ∧ z.done ++ plcL z.s 10 = plcL s 10 ∧ Own 3 1 z.v (nodes z.done) z.Mx ∧ (z.done ≠ [] → OwnR 3 1 z.v (nodes z.done) z.Mx) ∧ n0 ≤ z.n ∧ hasH (z.Mx ++ M) z.n H') (fun z => z.s) ⟨s, [], .slice none 0 0, [], n0⟩ (by repeat' (first | exact .nil | refine .cons rfl ?_)) rfl ⟨hs, rfl, .nil, fun h => absurd rfl h, Nat.le_refl _, hH⟩ ?_
  clear hH
  rintro ⟨r, dn, v3, Mx, n1⟩ H1 ⟨hr, hd, hO, hOR, hn1, hH⟩
  simp only at hr hd hO hOR hn1 hH
  have hdl : dn.length ≤ 10 := by
    have h1 := congrArg List.length hd
    have h2 := plcL_len s 10
    rw [List.length_append] at h1
    omega
  dsimp only [List.cons_append, List.nil_append]
  by_cases h0 : r = 0
  · subst h0
    rw [plcL_zero, List.append_nil] at hd
    rw [hd] at hOR
    repeat' (first | refine zP ?_ | refine zA ?_ | (refine zM ?_; intro _ _) | refine zX ?_ | (refine zC ?_; intro _ _ _ _) | (refine zS ?_; intro _ _) | refine zO ?_ | (apply Ws <;> intro hg))
    exact Ends.ret1 rfl ⟨Mx, n1, hOR hne, hn1, hH⟩
  · obtain ⟨h1, h2, h3⟩ := tz_ok r hr h0
    rw [h2] at hd
    repeat' (first | refine zP ?_ | refine zA ?_ | (refine zM ?_; intro _ _) | refine zX ?_ | (refine zC ?_; intro _ _ _ _) | (refine zS ?_; intro _ _) | refine zO ?_ | (apply Ws <;> intro hg))
    refine WR.call (by first | exact gN | exact gS rfl) rfl rfl (tz_fs hr h0 _) ?_
    rintro _ _ ⟨rfl, rfl⟩
    refine WR.append1RF [] Mx M rfl rfl rfl rfl hO hH (new := [.int .i64 ((brT.getD (tzI r) 0 : Nat) : Int)]) rfl rfl rfl (Nat.le_refl _) (by decide) (by simp; omega) fun v' Mx' n' H' q1 q2 q3 => ?_
    repeat' (first | refine zP ?_ | refine zA ?_ | (refine zM ?_; intro _ _) | refine zX ?_ | (refine zC ?_; intro _ _ _ _) | (refine zS ?_; intro _ _) | (apply Ws <;> intro hg))
    refine WR.op (by first | exact gN | exact gS rfl) rfl (OpV.subK rfl rfl (c := ((r - 1 : Nat) : Int)) (by rw [wrapI]; omega)) ?_
    refine WR.op (by first | exact gN | exact gS rfl) rfl (OpV.andN rfl rfl (lt64 hr) (lt64 (by omega))) ?_
    repeat' (first | refine zP ?_ | refine zA ?_ | (refine zM ?_; intro _ _) | refine zX ?_ | (refine zC ?_; intro _ _ _ _) | (refine zS ?_; intro _ _) | (apply Ws <;> intro hg))
    have q4 : OwnR 3 1 v' (nodes (dn ++ [brT.getD (tzI r) 0])) Mx' := by rw [nodes_snoc]; exact q1
    refine Ends.loop ⟨r &&& (r - 1), dn ++ [brT.getD (tzI r) 0], v', Mx', n'⟩ h3 (by repeat' (first | exact .nil | refine .cons rfl ?_)) rfl ⟨by simp only; omega, by simp only; rw [← hd]; simp, q4.own, fun _ => q4, by simp only; omega, q2⟩
theorem Reverse_fs {b u q cp : Nat} (hH : hasH ((b, .row 3 u q (ints o)) :: M) n0 H) (hol : o.length ≤ 1000) :
    FS C 28 [.slice (some ⟨b, q, some u⟩) o.length cp] H (fun e H' => hasH ((b, .row 3 u q (ints o.reverse)) :: M) n0 H') := by
  refine FS.intro (pf := pf28) rfl rfl rfl ?_
  repeat' (first | refine zP ?_ | refine zA ?_ | (refine zM ?_; intro _ _) | refine zX ?_ | (refine zC ?_; intro _ _ _ _) | (refine zS ?_; intro _ _) | (apply Ws <;> intro hg))
  refine WC.loopX [(0, .slice (some ⟨b, q, some u⟩) o.length cp)] (fun s : Nat × List Int => [(2, .int .i64 (s.1 : Int)), (3, .int .i64 ((o.length : Int) - 1 - s.1))]) []
    (fun s H' => hasH ((b, .row 3 u q (ints s.2)) :: M) n0 H' ∧ 2 * s.1 ≤ o.length ∧ s.2.length = o.length ∧ ∀ k, k < o.length → s.2.getD k 0 = if k < s.1 ∨ o.length - s.1 ≤ k then o.getD (o.length - 1 - k) 0 else o.getD k 0) (fun s => o.length - s.1) (0, o) ?_ rfl
    ⟨hH, Nat.zero_le _, rfl, fun k hk => by simp only; rw [if_neg (by omega)]⟩ ?_
  · refine .cons rfl (.cons ?_ (.cons rfl .nil))
    show some (Value.int .i64 ((o.length : Int) - 1)) = some (.int .i64 ((o.length : Int) - 1 - ((0 : Nat) : Int)))
    simp
  clear hH
  rintro ⟨k, ys⟩ H1 ⟨hH1, hk, hyl, hys⟩
  simp only at hH1 hk hyl hys
  dsimp only [List.cons_append, List.nil_append]
  repeat' (first | refine zP ?_ | refine zA ?_ | (refine zM ?_; intro _ _) | refine zX ?_ | (refine zC ?_; intro _ _ _ _) | (refine zS ?_; intro _ _) | (apply Ws <;> intro hg))
  refine WC.condP rfl (fun hlt => ?_) (fun hlt => ?_)
  · have hk' : k < o.length := by omega
    obtain ⟨j, hj⟩ : ∃ j : Nat, (o.length : Int) - 1 - k = j := ⟨o.length - 1 - k, by omega⟩
    rw [hj]
    repeat' (first | refine zP ?_ | refine zA ?_ | (refine zM ?_; intro _ _) | refine zX ?_ | (refine zC ?_; intro _ _ _ _) | (refine zS ?_; intro _ _) | (apply Ws <;> intro hg))
    refine WR.op (by first | exact gN | exact gS rfl) rfl (OpV.load1 (v := .int .i64 (ys.getD j 0)) rfl hH1 (.head _) (.row _ _ _ _) (Nat.le_add_right _ _) (by rw [show q + j - q = j by omega]; exact ints_get (by omega))) ?_
    repeat' (first | refine zP ?_ | refine zA ?_ | (refine zM ?_; intro _ _) | refine zX ?_ | (refine zC ?_; intro _ _ _ _) | (refine zS ?_; intro _ _) | (apply Ws <;> intro hg))
    refine WR.op (by first | exact gN | exact gS rfl) rfl (OpV.load1 (v := .int .i64 (ys.getD k 0)) rfl hH1 (.head _) (.row _ _ _ _) (Nat.le_add_right _ _) (by rw [show q + k - q = k by omega]; exact ints_get (by omega))) ?_
    repeat' (first | refine zP ?_ | refine zA ?_ | (refine zM ?_; intro _ _) | refine zX ?_ | (refine zC ?_; intro _ _ _ _) | (refine zS ?_; intro _ _) | (apply Ws <;> intro hg))
    refine WR.store1 (cs' := ints (ys.set k (ys.getD j 0))) (by first | exact gN | exact gS rfl) hH1 rfl rfl rfl .here (Nat.le_add_right _ _) (by simp; omega) (by rw [show q + k - q = k by omega]; simp [List.map_set]) fun H2 hH2 => ?_
    have hl2 : (ys.set k (ys.getD j 0)).length = o.length := by simp [hyl]
    repeat' (first | refine zP ?_ | refine zA ?_ | (refine zM ?_; intro _ _) | refine zX ?_ | (refine zC ?_; intro _ _ _ _) | (refine zS ?_; intro _ _) | (apply Ws <;> intro hg))
    refine WR.store1 (cs' := ints ((ys.set k (ys.getD j 0)).set j (ys.getD k 0))) (by first | exact gN | exact gS rfl) hH2 rfl rfl rfl .here (Nat.le_add_right _ _) (by simp; omega) (by rw [show q + j - q = j by omega]; simp [List.map_set]) fun H3 hH3 => ?_
    repeat' (first | refine zP ?_ | refine zA ?_ | (refine zM ?_; intro _ _) | refine zX ?_ | (refine zC ?_; intro _ _ _ _) | (refine zS ?_; intro _ _) | (apply Ws <;> intro hg))
    rw [show (j : Int) - 1 = (o.length : Int) - 1 - ((k + 1 : Nat) : Int) by omega]
    refine Ends.loop (k + 1, (ys.set k (ys.getD j 0)).set j (ys.getD k 0)) (by simp only; omega) (by repeat' (first | exact .nil | refine .cons rfl ?_)) rfl ⟨hH3, by simp only; omega, by simp [hyl], fun i hi => ?_⟩
    simp only
    rw [getD_set' (by omega), getD_set' (by omega)]
    have hjk := hys j (by omega)
    have hkk := hys k (by omega)
    rw [if_neg (by omega)] at hjk hkk
    by_cases h1 : i = j
    · rw [if_pos h1, if_pos (by omega), hkk]; congr 1; omega
    · rw [if_neg h1]
      by_cases h2 : i = k
      · rw [if_pos h2, if_pos (by omega), hjk]; congr 1; omega
      · rw [if_neg h2, hys i hi]
        by_cases h3 : i < k ∨ o.length - k ≤ i
        · rw [if_pos h3, if_pos (by omega)]
        · rw [if_neg h3, if_neg (by omega)]
  · have hre : ys = o.reverse := by
      refine ext_getD (a := 0) (by simp [hyl]) fun i hi => ?_
      rw [hys i (by omega), getD_eq (show i < o.reverse.length by simp; omega), List.getElem_reverse]
      by_cases h3 : i < k ∨ o.length - k ≤ i
      · rw [if_pos h3, getD_eq (by omega)]
      · rw [if_neg h3, getD_eq (by omega)]
        congr 1; omega
    subst hre
    repeat' (first | refine zP ?_ | refine zA ?_ | (refine zM ?_; intro _ _) | refine zX ?_ | (refine zC ?_; intro _ _ _ _) | (refine zS ?_; intro _ _) | (apply Ws <;> intro hg))
    exact Ends.end0 hH1
theorem ReverseN_fs {b u q cp : Nat} {l : List Nat} (hH : hasH ((b, .row 3 u q (nodes l)) :: M) n0 H) (hol : l.length ≤ 1000) :
    FS C 28 [.slice (some ⟨b, q, some u⟩) l.length cp] H (fun e H' => hasH ((b, .row 3 u q (nodes l.reverse)) :: M) n0 H') := by
  have h := Reverse_fs (o := IL l) (cp := cp) (by rw [← nodes_IL]; exact hH) (by rw [IL_len]; exact hol)
  rw [IL_len] at h
  refine h.mono fun e H' h' => ?_
  rw [nodes_IL, show IL l.reverse = (IL l).reverse by simp [IL]]
  exact h'
theorem list_fs (hv : one v = true) (H : Heap) : FS C 27 [v] H (fun e H' => e = v ∧ H' = H) := by
  refine FS.intro (pf := pf27) rfl rfl rfl ?_
  repeat' (first | refine zP ?_ | refine zA ?_ | (refine zM ?_; intro _ _) | refine zX ?_ | (refine zC ?_; intro _ _ _ _) | (refine zS ?_; intro _ _) | (apply Ws <;> intro hg))
  exact Ends.ret1 rfl ⟨rfl, rfl⟩
end
end Go.Proofs.YtcfffhkabhmkmaaDoor.Ps

/- The law PostNamed: its walk. -/
namespace Go.Proofs.YtcfffhkabhmkmaaDoor.Ps
open Go Go.Abs Go.Mth
set_option linter.unusedVariables false
set_option linter.unusedSimpArgs false
structure NV where
  k : Nat
  od : List Nat
  ot : List Int
  vo : Value
  vt : Value
  Mo : HL
  Mt : HL
  n : Nat
theorem bfs0 {xs : List Int} {c : Nat} (hc : c < xs.length) : BfsI xs [c] [-1] 0 where
  nodup := by simp
  lt x hx := by rw [List.mem_singleton.1 hx]; exact hc
  len := rfl
  pos := Nat.le_refl _
  root := rfl
  par i h1 hi := by simp only [List.length_singleton] at hi; omega
  done j hj := absurd hj (Nat.not_lt_zero _)
theorem BfsI.next {xs : List Int} {od : List Nat} {ot : List Int} {a : Nat} {nr : List Nat} (h : BfsI xs od ot a) (ha : a < od.length) (hnr : ∀ p, p ∈ nr ↔ p ∈ hndL xs (od.getD a 0)) (hall : ∀ p ∈ nr, p ∈ od) : BfsI xs od ot (a + 1) where
  nodup := h.nodup
  lt := h.lt
  len := h.len
  pos := h.pos
  root := h.root
  par := h.par
  done j hj hjl p hp hadj := by
    by_cases e : j = a
    · subst e
      exact hall p ((hnr p).2 (List.mem_filter.2 ⟨List.mem_range.2 hp, hadj⟩))
    · exact h.done j (by omega) hjl p hp hadj
attribute [local irreducible] gOK WS WC WR WD Ends FS YS OpV seqK blockK loopK midK retK rdK asgK rangeEnd sat Cell
section
variable {M : HL} {n0 : Nat} {H : Heap} {v w : Value}
set_option maxHeartbeats 8000000 in
theorem PostNamed_fs (hH : hasH M n0 H) {x : List Nat} (hxl : x.length = 11) (hx : ∀ y ∈ x, y ≤ 255) {x1 : Nat} (hx1 : x1 ≤ 255) (tn : Bool) :
    FS C 7 [.agg (numsK .u8 x).toArray, .int .u8 (x1 : Int), .bool tn] H (fun e H' => e = .bool true) := by
  obtain ⟨x, by_, rfl⟩ : ∃ a l, x = a :: l := by
    cases x with
    | nil => simp at hxl
    | cons a l => exact ⟨a, l, rfl⟩
  have hbl : by_.length = 10 := by simpa using hxl
  have hx0 := hx x (by simp)
  have hb : ∀ y ∈ by_, y ≤ 255 := fun y hy => hx y (by simp [hy])
  have hsl : (numsK .u8 (x :: by_)).length = 11 := by simp [numsK, hbl]
  have hfin : ∀ {H' : Heap}, FS C 19 [] H' (fun e H'' => e = .bool true ∧ H'' = H') := fun {H'} => FS.works ⟨rfl, rfl⟩
  refine FS.intro (pf := pf7) rfl rfl rfl ?_
  refine WC.seq ?_
  refine WC.region ?_
  refine WR.boxA (cs := numsK .u8 (x :: by_)) (by first | exact gN | exact gS rfl) rfl hH rfl (numsK_one _) fun H1 hH1 => ?_
  clear hH
  repeat' (first | refine zP ?_ | refine zA ?_ | (refine zM ?_; intro _ _) | refine zX ?_ | (refine zC ?_; intro _ _ _ _) | (refine zS ?_; intro _ _) | (apply Ws <;> intro hg))
  refine WR.call (by first | exact gN | exact gS rfl) rfl rfl (made_fs (most := 10) hH1 hx0 hb hbl (by decide) (by decide)) ?_
  rintro _ H3 ⟨vs, vh, MS, MH, n3, rfl, hOs, hOh, hn3, hH3⟩
  have hmod := Nat.mod_lt x (show 0 < 10 by decide)
  obtain ⟨n, hn⟩ : ∃ n, 1 + x % 10 = n := ⟨_, rfl⟩
  rw [hn] at hOs hOh
  have hok := mkS_ok by_ (n := n) (by omega) (by omega)
  have hlen := mkS_len by_ n
  obtain ⟨X, hX⟩ : ∃ X, MS ++ (MH ++ ((n0, Ch.row 24 0 0 (numsK .u8 (x :: by_))) :: M)) = X := ⟨_, rfl⟩
  have hSs : Sl X 1 vs (ints (mkS by_ n)) := (hOs.sl []).mono fun q hq => by rw [List.append_nil] at hq; rw [← hX]; simp [hq]
  have hSh : Sl X 1 vh (numsK .u64 (hsL (mkS by_ n))) := (hOh.sl []).mono fun q hq => by rw [List.append_nil] at hq; rw [← hX]; simp [hq]
  rw [hX] at hH3
  clear hX hH1 hOs hOh hsl
  generalize mkS by_ n = xs at hok hlen hSs hSh
  have hvs := hSs.one_
  have hvh := hSh.one_
  have h10 : xs.length ≤ 10 := hok.most
  have h1x := hok.one
  have hE0 := errS_zero.2 hok
  subst hlen
  have hc0 := Nat.mod_lt x1 (show 0 < xs.length by omega)
  repeat' (first | refine zP ?_ | refine zA ?_ | (refine zM ?_; intro _ _) | refine zX ?_ | (refine zC ?_; intro _ _ _ _) | (refine zS ?_; intro _ _) | (apply Ws <;> intro hg))
  refine WR.op (by first | exact gN | exact gS rfl) rfl (OpV.conv u8k i64k rfl (c := (x1 : Int)) (IntWalk.i64_in _ (by omega))) ?_
  repeat' (first | refine zP ?_ | refine zA ?_ | (refine zM ?_; intro _ _) | refine zX ?_ | (refine zC ?_; intro _ _ _ _) | (refine zS ?_; intro _ _) | (apply Ws <;> intro hg))
  rw [show (x1 : Int) % ((xs.length : Nat) : Int) = ((x1 % xs.length : Nat) : Int) by simp]
  obtain ⟨c0, hc⟩ : ∃ c0, x1 % xs.length = c0 := ⟨_, rfl⟩
  rw [hc] at hc0 ⊢
  clear hc
  refine WR.bldS (by first | exact gN | exact gS rfl) rfl hH3 (vs := [(0, .int .i64 (c0 : Int))]) rfl (cs := [.int .i64 (c0 : Int)]) (by rfl) rfl fun H4 hH4 => ?_
  refine WR.call (by first | exact gN | exact gS rfl) rfl rfl (list_fs rfl _) ?_
  rintro _ H5 ⟨rfl, rfl⟩
  repeat' (first | refine zP ?_ | refine zA ?_ | (refine zM ?_; intro _ _) | refine zX ?_ | (refine zC ?_; intro _ _ _ _) | (refine zS ?_; intro _ _) | (apply Ws <;> intro hg))
  refine WR.bldS (by first | exact gN | exact gS rfl) rfl hH4 (vs := [(0, .int .i64 (-1))]) rfl (cs := [.int .i64 (-1)]) (by rfl) rfl fun H6 hH6 => ?_
  refine WR.call (by first | exact gN | exact gS rfl) rfl rfl (list_fs rfl _) ?_
  rintro _ H7 ⟨rfl, rfl⟩
  have hHa : hasH ([(n3, Ch.inp 3 0 0 [.int .i64 (c0 : Int)])] ++ ([(n3 + 1, Ch.inp 3 0 0 [.int .i64 (-1)])] ++ X)) (n3 + 1 + 1) _ := (hH6.asInp .here |>.asInp (.there .here)).swap
  have hOo : Own 3 1 (.slice (some ⟨n3, 0, some 0⟩) 1 (2 * 1 + 1)) (nodes [c0]) [(n3, Ch.inp 3 0 0 [.int .i64 (c0 : Int)])] := .full (len := 1) rfl rfl
  have hOt : Own 3 1 (.slice (some ⟨n3 + 1, 0, some 0⟩) 1 (2 * 1 + 1)) (ints [-1]) [(n3 + 1, Ch.inp 3 0 0 [.int .i64 (-1)])] := .full (len := 1) rfl rfl
  clear hH3 hH4 hH6
  repeat' (first | refine zP ?_ | refine zA ?_ | (refine zM ?_; intro _ _) | refine zX ?_ | (refine zC ?_; intro _ _ _ _) | (refine zS ?_; intro _ _) | (apply Ws <;> intro hg))
  refine WC.loopX [(2, .bool tn), (7, vs), (8, vh), (9, .int .i64 (xs.length : Int))] (fun z : NV => [(12, .int .i64 (z.k : Int)), (10, z.vo), (11, z.vt)]) []
    (fun z H' => BfsI xs z.od z.ot z.k ∧ z.k ≤ z.od.length ∧ Own 3 1 z.vo (nodes z.od) z.Mo ∧ Own 3 1 z.vt (ints z.ot) z.Mt ∧ hasH (z.Mo ++ (z.Mt ++ X)) z.n H') (fun z => xs.length - z.k)
    ⟨0, [c0], [-1], _, _, _, _, n3 + 1 + 1⟩ (by repeat' (first | exact .nil | refine .cons rfl ?_)) rfl ⟨bfs0 hc0, Nat.zero_le _, hOo, hOt, hHa⟩ ?_
  clear hHa hOo hOt
  rintro ⟨k, od, ot, vo, vt, Mo, Mt, n4⟩ H4 ⟨hB, hk, hOo, hOt, hH⟩
  simp only at hB hk hOo hOt hH
  have hodl := nodup_le xs.length od hB.nodup hB.lt
  have hotl := hB.len
  have hSo : Sl (Mo ++ (Mt ++ X)) 1 vo (nodes od) := hOo.sl _
  have hSt : Sl (Mo ++ (Mt ++ X)) 1 vt (ints ot) := (hOt.sl X).mono fun q hq => List.mem_append_right _ hq
  have hSs2 : Sl (Mo ++ (Mt ++ X)) 1 vs (ints xs) := hSs.mono fun q hq => by simp [hq]
  have hSh2 : Sl (Mo ++ (Mt ++ X)) 1 vh (numsK .u64 (hsL xs)) := hSh.mono fun q hq => by simp [hq]
  have hvo := hSo.one_
  have hvt := hSt.one_
  dsimp only [List.cons_append, List.nil_append]
  repeat' (first | refine zP ?_ | refine zA ?_ | (refine zM ?_; intro _ _) | refine zX ?_ | (refine zC ?_; intro _ _ _ _) | (refine zS ?_; intro _ _) | (apply Ws <;> intro hg))
  refine WC.condP rfl (fun hlt => ?_) (fun hlt => ?_)
  · have hk' : k < od.length := by omega
    have hcx : od.getD k 0 < xs.length := hB.lt _ (getD_mem hk')
    have hcl : od.getD k 0 < (hsL xs).length := by rw [hsL_len]; exact hcx
    have hg := hsL_get hcx
    have hbm := hm_lt10 h10 (od.getD k 0)
    have hb0 : hm xs (od.getD k 0) ≠ 0 := fun e => by
      have := hm_bit.2 ⟨hcx, adj_self xs (od.getD k 0)⟩
      rw [e] at this; simp at this
    have hpl := plcL_hm (i := od.getD k 0) h10
    repeat' (first | refine zP ?_ | refine zA ?_ | (refine zM ?_; intro _ _) | refine zX ?_ | (refine zC ?_; intro _ _ _ _) | (refine zS ?_; intro _ _) | refine zO ?_ | (apply Ws <;> intro hg))
    rw [hg]
    refine WR.call (by first | exact gN | exact gS rfl) rfl rfl (membersR_fs hH hbm hb0) ?_
    rintro v58 H6 ⟨Mx, n6, hO6, hn6, hH6⟩
    rw [hpl] at hO6
    clear hSo hSt hSs2 hSh2 hH
    have hnl : (hndL xs (od.getD k 0)).length ≤ 10 := by rw [← hpl]; exact plcL_len _ _
    have hIn : ∀ p, p ∈ hndL xs (od.getD k 0) ↔ p ∈ hndL xs (od.getD k 0) := fun p => Iff.rfl
    obtain ⟨nr, hnr⟩ : ∃ nr, hndL xs (od.getD k 0) = nr := ⟨_, rfl⟩
    rw [hnr] at hO6 hnl
    cases hO6 with
    | @mk b u q len _ hl =>
      obtain rfl : nr.length = len := by simpa [nodes] using hl
      cases tn
      case' false =>
        have hfact : (∀ p, p ∈ nr ↔ p ∈ hndL xs (od.getD k 0)) ∧ nr.length ≤ 10 := ⟨fun p => by rw [hnr], hnl⟩
        replace hH6 : hasH ((b, .row 3 u q (nodes nr)) :: (Mo ++ (Mt ++ X))) n6 H6 := hH6
        repeat' (first | refine zP ?_ | refine zA ?_ | (refine zM ?_; intro _ _) | refine zX ?_ | (refine zC ?_; intro _ _ _ _) | (refine zS ?_; intro _ _) | refine zO ?_ | (apply Ws <;> intro hg))
      case' true =>
        repeat' (first | refine zP ?_ | refine zA ?_ | (refine zM ?_; intro _ _) | refine zX ?_ | (refine zC ?_; intro _ _ _ _) | (refine zS ?_; intro _ _) | refine zO ?_ | (apply Ws <;> intro hg))
        refine WR.call (by first | exact gN | exact gS rfl) rfl rfl (ReverseN_fs hH6 (by omega)) ?_
        clear hH6
        rintro _ H6 hH6
        rw [show nr.length = nr.reverse.length by simp]
        have hfact : (∀ p, p ∈ nr.reverse ↔ p ∈ hndL xs (od.getD k 0)) ∧ nr.reverse.length ≤ 10 := ⟨fun p => by rw [List.mem_reverse, hnr], by simpa using hnl⟩
        clear hnl hnr hl
        generalize nr.reverse = nr at hfact hH6 ⊢
        repeat' (first | refine zP ?_ | refine zA ?_ | (refine zM ?_; intro _ _) | refine zX ?_ | (refine zC ?_; intro _ _ _ _) | (refine zS ?_; intro _ _) | refine zO ?_ | (apply Ws <;> intro hg))
      all_goals
        obtain ⟨hnr', hnl'⟩ := hfact
        replace hH6 : hasH ((b, Ch.row 3 u q (nodes nr)) :: (Mo ++ (Mt ++ X))) n6 H6 := hH6
        have hB0 := hB
        have hHs : hasH (Mo ++ (Mt ++ ((b, Ch.row 3 u q (nodes nr)) :: X))) n6 H6 := hH6.perm (by classical exact List.perm_iff_count.2 (fun a => by simp only [defds, List.map_cons, List.map_nil, List.count_append, List.count_cons, List.count_nil, List.cons_append, List.nil_append, List.append_nil]; omega))
        clear hH6
        refine WC.loopX [(2, _), (7, vs), (8, vh), (9, .int .i64 (xs.length : Int)), (12, .int .i64 (k : Int)), (62, .slice (some ⟨b, q, some u⟩) nr.length (2 * 1)), (63, .int .i64 (nr.length : Int))] (fun z : NV => [(64, .int .i64 (z.k : Int)), (10, z.vo), (11, z.vt)]) []
          (fun z H' => z.k ≤ nr.length ∧ BfsI xs z.od z.ot k ∧ k < z.od.length ∧ z.od.getD k 0 = od.getD k 0 ∧ (∀ j, j < z.k → nr.getD j 0 ∈ z.od) ∧ Own 3 1 z.vo (nodes z.od) z.Mo ∧ Own 3 1 z.vt (ints z.ot) z.Mt ∧ hasH (z.Mo ++ (z.Mt ++ ((b, Ch.row 3 u q (nodes nr)) :: X))) z.n H') (fun z => nr.length - z.k)
          ⟨0, od, ot, vo, vt, Mo, Mt, n6⟩ (by repeat' (first | exact .nil | refine .cons rfl ?_)) rfl ⟨Nat.zero_le _, hB, hk', rfl, fun j hj => absurd hj (Nat.not_lt_zero _), hOo, hOt, hHs⟩ ?_
        clear hHs hOo hOt hvo hvt
        rintro ⟨j, od2, ot2, vo2, vt2, Mo2, Mt2, n7⟩ H8 ⟨hj, hB2, hk2, he2, hin, hOo, hOt, hH⟩
        simp only at hj hB2 hk2 he2 hin hOo hOt hH
        have hodl2 := nodup_le xs.length od2 hB2.nodup hB2.lt
        have hotl2 := hB2.len
        have hSo : Sl (Mo2 ++ (Mt2 ++ ((b, Ch.row 3 u q (nodes nr)) :: X))) 1 vo2 (nodes od2) := hOo.sl _
        have hSn : Sl (Mo2 ++ (Mt2 ++ ((b, Ch.row 3 u q (nodes nr)) :: X))) 1 (.slice (some ⟨b, q, some u⟩) nr.length (2 * 1)) (nodes nr) := (OwnR.mk (e := 3) (sz := 1) (b := b) (u := u) (o := q) (len := nr.length) (cs := nodes nr) (by simp [nodes])).own.sl X |>.mono fun p hp => by
          rcases List.mem_append.1 hp with hp | hp
          · rw [List.mem_singleton] at hp; rw [hp]; simp
          · simp [hp]
        have hvo := hSo.one_
        have hvt : one vt2 = true := (hOt.sl X).one_
        dsimp only [List.cons_append, List.nil_append]
        repeat' (first | refine zP ?_ | refine zA ?_ | (refine zM ?_; intro _ _) | refine zX ?_ | (refine zC ?_; intro _ _ _ _) | (refine zS ?_; intro _ _) | (apply Ws <;> intro hg))
        refine WC.condP rfl (fun hlt2 => ?_) (fun hlt2 => ?_)
        · have hj' : j < nr.length := by omega
          have hpn : nr.getD j 0 ∈ nr := getD_mem hj'
          have hph := (hnr' _).1 hpn
          obtain ⟨hpx, hpa⟩ := List.mem_filter.1 hph
          rw [List.mem_range] at hpx
          repeat' (first | refine zP ?_ | refine zA ?_ | (refine zM ?_; intro _ _) | refine zX ?_ | (refine zC ?_; intro _ _ _ _) | (refine zS ?_; intro _ _) | refine zO ?_ | (apply Ws <;> intro hg))
          refine WR.op (by first | exact gN | exact gS rfl) rfl (OpV.load1 (v := .int .i64 ((nr.getD j 0 : Nat) : Int)) rfl hH (ch := .row 3 u q (nodes nr)) (b := b) (by simp) (.row _ _ _ _) (Nat.le_add_right _ _) (by rw [show q + j - q = j by omega]; simp only [nodes, List.getElem?_map, List.getElem?_eq_getElem hj', getD_eq hj']; rfl)) ?_
          repeat' (first | refine zP ?_ | refine zA ?_ | (refine zM ?_; intro _ _) | refine zX ?_ | (refine zC ?_; intro _ _ _ _) | (refine zS ?_; intro _ _) | refine zO ?_ | (apply Ws <;> intro hg))
          refine WR.call (by first | exact gN | exact gS rfl) rfl rfl (ContainsN_fs hH hSo (by omega) (nr.getD j 0)) ?_
          rintro _ _ ⟨rfl, rfl⟩
          by_cases hm : nr.getD j 0 ∈ od2
          · rw [decide_eq_true hm]
            repeat' (first | refine zP ?_ | refine zA ?_ | (refine zM ?_; intro _ _) | refine zX ?_ | (refine zC ?_; intro _ _ _ _) | (refine zS ?_; intro _ _) | refine zO ?_ | (apply Ws <;> intro hg))
            refine Ends.loop ⟨j + 1, od2, ot2, vo2, vt2, Mo2, Mt2, n7⟩ (by simp only; omega) (by repeat' (first | exact .nil | refine .cons rfl ?_)) rfl ⟨hj', hB2, hk2, he2, fun i hi => ?_, hOo, hOt, hH⟩
            by_cases e : i = j
            · rw [e]; exact hm
            · exact hin i (by simp only at hi; omega)
          · rw [decide_eq_false hm]
            have hBa := hB2.add hk2 hpx (by rw [he2]; exact hpa) hm
            repeat' (first | refine zP ?_ | refine zA ?_ | (refine zM ?_; intro _ _) | refine zX ?_ | (refine zC ?_; intro _ _ _ _) | (refine zS ?_; intro _ _) | refine zO ?_ | (apply Ws <;> intro hg))
            refine WR.append1F [] Mo2 (Mt2 ++ ((b, Ch.row 3 u q (nodes nr)) :: X)) rfl rfl rfl rfl hOo hH (new := [.int .i64 ((nr.getD j 0 : Nat) : Int)]) rfl rfl rfl (Nat.le_refl _) (by decide) (by simp [nodes]; omega) fun vo3 Mo3 n8 H9 q1 q2 q3 => ?_
            repeat' (first | refine zP ?_ | refine zA ?_ | (refine zM ?_; intro _ _) | refine zX ?_ | (refine zC ?_; intro _ _ _ _) | (refine zS ?_; intro _ _) | refine zO ?_ | (apply Ws <;> intro hg))
            refine WR.append1F Mo3 Mt2 ((b, Ch.row 3 u q (nodes nr)) :: X) rfl rfl rfl rfl hOt q2 (new := [.int .i64 (k : Int)]) rfl rfl rfl (Nat.le_refl _) (by decide) (by simp; omega) fun vt3 Mt3 n9 H10 r1 r2 r3 => ?_
            rw [← nodes_snoc] at q1
            have r1' : Own 3 1 vt3 (ints (ot2 ++ [(k : Int)])) Mt3 := by simpa [ints] using r1
            have hvo3 := (q1.sl X).one_
            have hvt3 := (r1.sl X).one_
            repeat' (first | refine zP ?_ | refine zA ?_ | (refine zM ?_; intro _ _) | refine zX ?_ | (refine zC ?_; intro _ _ _ _) | (refine zS ?_; intro _ _) | refine zO ?_ | (apply Ws <;> intro hg))
            refine Ends.loop ⟨j + 1, od2 ++ [nr.getD j 0], ot2 ++ [(k : Int)], vo3, vt3, Mo3, Mt3, n9⟩ (by simp only; omega) (by repeat' (first | exact .nil | refine .cons rfl ?_)) rfl ⟨hj', hBa, by simp only [List.length_append]; omega, ?_, fun i hi => ?_, q1, r1', r2⟩
            · simp only
              rw [getD_app_l hk2]; exact he2
            · simp only at hi ⊢
              by_cases e : i = j
              · rw [e]; simp
              · exact List.mem_append_left _ (hin i (by omega))
        · have hje : j = nr.length := by omega
          subst hje
          have hBn := hB2.next (nr := nr) hk2 (fun p => by rw [he2]; exact hnr' p) fun p hp => by
            obtain ⟨i, hi, rfl⟩ := List.mem_iff_getElem.1 hp
            have := hin i hi
            rwa [getD_eq hi] at this
          repeat' (first | refine zP ?_ | refine zA ?_ | (refine zM ?_; intro _ _) | refine zX ?_ | (refine zC ?_; intro _ _ _ _) | (refine zS ?_; intro _ _) | refine zO ?_ | (apply Ws <;> intro hg))
          exact Ends.loop ⟨k + 1, od2, ot2, vo2, vt2, Mo2, Mt2, n7⟩ (by simp only; omega) (by repeat' (first | exact .nil | refine .cons rfl ?_)) rfl ⟨hBn, hk2, hOo, hOt, (hH.perm (M' := (b, Ch.row 3 u q (nodes nr)) :: (Mo2 ++ (Mt2 ++ X))) (by classical exact List.perm_iff_count.2 (fun a => by simp only [defds, List.map_cons, List.map_nil, List.count_append, List.count_cons, List.count_nil, List.cons_append, List.nil_append, List.append_nil]; omega))).tail⟩
  · have hke : k = od.length := by omega
    subst hke
    obtain ⟨hfl, hok2, hI⟩ := hB.full hok
    have hE2 := errS_zero.2 hok2
    have hI1 := hI.few
    have hI2 := hI.grdL
    have hI3 := hI.fewB
    have hI4 := hI.alw_len
    have hs1 := strong hok
    have hs2 := strong hok2
    have hI5 : (far ot).length = (far xs).length := by omega
    have hl1 : (few xs).length ≤ 10 := Nat.le_trans (few_grd xs).1.len h10
    have hl2 : (alw xs).length ≤ 10 := Nat.le_trans (inL_len _ _ _) h10
    have hl3 : (grdL xs).length ≤ 5000 := Nat.le_trans (List.length_filter_le _ _) (allA_few h10)
    have hl4 : (fewB xs).length ≤ 5000 := fewB_few h10
    clear hSh2 hOo hOt hlt hk
    generalize Mo ++ (Mt ++ X) = X2 at hH hSo hSt hSs2
    repeat' (first | refine zP ?_ | refine zA ?_ | (refine zM ?_; intro _ _) | refine zX ?_ | (refine zC ?_; intro _ _ _ _) | (refine zS ?_; intro _ _) | refine zO ?_ | (apply Ws <;> intro hg))
    refine WR.call (by first | exact gN | exact gS rfl) rfl rfl (Fewest_fs hH hSs2 (by omega)) ?_
    rintro _ H20 ⟨u20, M20, n20, rfl, hU20, hn20, hH20⟩
    replace hSs2 := hSs2.mono fun q hq => List.mem_append_right M20 hq
    replace hSt := hSt.mono fun q hq => List.mem_append_right M20 hq
    replace hSo := hSo.mono fun q hq => List.mem_append_right M20 hq
    clear hH
    generalize M20 ++ X2 = X20 at hH20 hSs2 hSt hSo hU20
    rw [hE0] at hU20 ⊢
    rw [if_pos rfl] at hU20
    have hV20 : Sl X20 1 u20 (nodes (few xs)) := hU20
    clear hU20
    have ho20 := hV20.one_
    repeat' (first | refine zP ?_ | refine zA ?_ | (refine zM ?_; intro _ _) | refine zX ?_ | (refine zC ?_; intro _ _ _ _) | (refine zS ?_; intro _ _) | refine zO ?_ | (apply Ws <;> intro hg))
    refine WR.call (by first | exact gN | exact gS rfl) rfl rfl (Fewest_fs hH20 hSt (by omega)) ?_
    rintro _ H21 ⟨u21, M21, n21, rfl, hU21, hn21, hH21⟩
    replace hSs2 := hSs2.mono fun q hq => List.mem_append_right M21 hq
    replace hSt := hSt.mono fun q hq => List.mem_append_right M21 hq
    replace hSo := hSo.mono fun q hq => List.mem_append_right M21 hq
    replace hV20 := hV20.mono fun q hq => List.mem_append_right M21 hq
    clear hH20
    generalize M21 ++ X20 = X21 at hH21 hSs2 hSt hSo hV20 hU21
    rw [hE2] at hU21 ⊢
    rw [if_pos rfl] at hU21
    have hV21 : Sl X21 1 u21 (nodes (few ot)) := hU21
    clear hU21
    have ho21 := hV21.one_
    repeat' (first | refine zP ?_ | refine zA ?_ | (refine zM ?_; intro _ _) | refine zX ?_ | (refine zC ?_; intro _ _ _ _) | (refine zS ?_; intro _ _) | refine zO ?_ | (apply Ws <;> intro hg))
    clear hV20 hV21
    refine WR.call (by first | exact gN | exact gS rfl) rfl rfl (Apart_fs hH21 hSs2 (by omega)) ?_
    rintro _ H22 ⟨u22, M22, n22, rfl, hU22, hn22, hH22⟩
    replace hSs2 := hSs2.mono fun q hq => List.mem_append_right M22 hq
    replace hSt := hSt.mono fun q hq => List.mem_append_right M22 hq
    replace hSo := hSo.mono fun q hq => List.mem_append_right M22 hq
    clear hH21
    generalize M22 ++ X21 = X22 at hH22 hSs2 hSt hSo hU22
    rw [hE0] at hU22 ⊢
    rw [if_pos rfl] at hU22
    have hV22 : Sl X22 1 u22 (nodes (far xs)) := hU22
    clear hU22
    have ho22 := hV22.one_
    repeat' (first | refine zP ?_ | refine zA ?_ | (refine zM ?_; intro _ _) | refine zX ?_ | (refine zC ?_; intro _ _ _ _) | (refine zS ?_; intro _ _) | refine zO ?_ | (apply Ws <;> intro hg))
    refine WR.call (by first | exact gN | exact gS rfl) rfl rfl (Apart_fs hH22 hSt (by omega)) ?_
    rintro _ H23 ⟨u23, M23, n23, rfl, hU23, hn23, hH23⟩
    replace hSs2 := hSs2.mono fun q hq => List.mem_append_right M23 hq
    replace hSt := hSt.mono fun q hq => List.mem_append_right M23 hq
    replace hSo := hSo.mono fun q hq => List.mem_append_right M23 hq
    replace hV22 := hV22.mono fun q hq => List.mem_append_right M23 hq
    clear hH22
    generalize M23 ++ X22 = X23 at hH23 hSs2 hSt hSo hV22 hU23
    rw [hE2] at hU23 ⊢
    rw [if_pos rfl] at hU23
    have hV23 : Sl X23 1 u23 (nodes (far ot)) := hU23
    clear hU23
    have ho23 := hV23.one_
    repeat' (first | refine zP ?_ | refine zA ?_ | (refine zM ?_; intro _ _) | refine zX ?_ | (refine zC ?_; intro _ _ _ _) | (refine zS ?_; intro _ _) | refine zO ?_ | (apply Ws <;> intro hg))
    clear hV22 hV23
    refine WR.call (by first | exact gN | exact gS rfl) rfl rfl (Count_fs hH23 hSs2 (by omega)) ?_
    rintro _ H24 ⟨M24, n24, rfl, hn24, hH24⟩
    replace hSs2 := hSs2.mono fun q hq => List.mem_append_right M24 hq
    replace hSt := hSt.mono fun q hq => List.mem_append_right M24 hq
    replace hSo := hSo.mono fun q hq => List.mem_append_right M24 hq
    clear hH23
    generalize M24 ++ X23 = X24 at hH24 hSs2 hSt hSo
    rw [hE0, if_pos rfl]
    repeat' (first | refine zP ?_ | refine zA ?_ | (refine zM ?_; intro _ _) | refine zX ?_ | (refine zC ?_; intro _ _ _ _) | (refine zS ?_; intro _ _) | refine zO ?_ | (apply Ws <;> intro hg))
    refine WR.call (by first | exact gN | exact gS rfl) rfl rfl (Count_fs hH24 hSt (by omega)) ?_
    rintro _ H25 ⟨M25, n25, rfl, hn25, hH25⟩
    replace hSs2 := hSs2.mono fun q hq => List.mem_append_right M25 hq
    replace hSt := hSt.mono fun q hq => List.mem_append_right M25 hq
    replace hSo := hSo.mono fun q hq => List.mem_append_right M25 hq
    clear hH24
    generalize M25 ++ X24 = X25 at hH25 hSs2 hSt hSo
    rw [hE2, if_pos rfl]
    repeat' (first | refine zP ?_ | refine zA ?_ | (refine zM ?_; intro _ _) | refine zX ?_ | (refine zC ?_; intro _ _ _ _) | (refine zS ?_; intro _ _) | refine zO ?_ | (apply Ws <;> intro hg))
    refine WR.call (by first | exact gN | exact gS rfl) rfl rfl (Ways_fs hH25 hSs2 (by omega)) ?_
    rintro _ H26 ⟨M26, n26, rfl, hn26, hH26⟩
    replace hSs2 := hSs2.mono fun q hq => List.mem_append_right M26 hq
    replace hSt := hSt.mono fun q hq => List.mem_append_right M26 hq
    replace hSo := hSo.mono fun q hq => List.mem_append_right M26 hq
    clear hH25
    generalize M26 ++ X25 = X26 at hH26 hSs2 hSt hSo
    rw [hE0, if_pos rfl]
    repeat' (first | refine zP ?_ | refine zA ?_ | (refine zM ?_; intro _ _) | refine zX ?_ | (refine zC ?_; intro _ _ _ _) | (refine zS ?_; intro _ _) | refine zO ?_ | (apply Ws <;> intro hg))
    refine WR.call (by first | exact gN | exact gS rfl) rfl rfl (Ways_fs hH26 hSt (by omega)) ?_
    rintro _ H27 ⟨M27, n27, rfl, hn27, hH27⟩
    replace hSs2 := hSs2.mono fun q hq => List.mem_append_right M27 hq
    replace hSt := hSt.mono fun q hq => List.mem_append_right M27 hq
    replace hSo := hSo.mono fun q hq => List.mem_append_right M27 hq
    clear hH26
    generalize M27 ++ X26 = X27 at hH27 hSs2 hSt hSo
    rw [hE2, if_pos rfl]
    repeat' (first | refine zP ?_ | refine zA ?_ | (refine zM ?_; intro _ _) | refine zX ?_ | (refine zC ?_; intro _ _ _ _) | (refine zS ?_; intro _ _) | refine zO ?_ | (apply Ws <;> intro hg))
    refine WR.call (by first | exact gN | exact gS rfl) rfl rfl (Always_fs hH27 hSs2 (by omega)) ?_
    rintro _ H28 ⟨u28, M28, n28, rfl, hU28, hn28, hH28⟩
    replace hSs2 := hSs2.mono fun q hq => List.mem_append_right M28 hq
    replace hSt := hSt.mono fun q hq => List.mem_append_right M28 hq
    replace hSo := hSo.mono fun q hq => List.mem_append_right M28 hq
    clear hH27
    generalize M28 ++ X27 = X28 at hH28 hSs2 hSt hSo hU28
    rw [hE0] at hU28 ⊢
    rw [if_pos rfl] at hU28
    have hV28 : Sl X28 1 u28 (nodes (alw xs)) := hU28
    clear hU28
    have ho28 := hV28.one_
    repeat' (first | refine zP ?_ | refine zA ?_ | (refine zM ?_; intro _ _) | refine zX ?_ | (refine zC ?_; intro _ _ _ _) | (refine zS ?_; intro _ _) | refine zO ?_ | (apply Ws <;> intro hg))
    refine WR.call (by first | exact gN | exact gS rfl) rfl rfl (Always_fs hH28 hSt (by omega)) ?_
    rintro _ H29 ⟨u29, M29, n29, rfl, hU29, hn29, hH29⟩
    replace hSs2 := hSs2.mono fun q hq => List.mem_append_right M29 hq
    replace hSt := hSt.mono fun q hq => List.mem_append_right M29 hq
    replace hSo := hSo.mono fun q hq => List.mem_append_right M29 hq
    replace hV28 := hV28.mono fun q hq => List.mem_append_right M29 hq
    clear hH28
    generalize M29 ++ X28 = X29 at hH29 hSs2 hSt hSo hV28 hU29
    rw [hE2] at hU29 ⊢
    rw [if_pos rfl] at hU29
    have hV29 : Sl X29 1 u29 (nodes (alw ot)) := hU29
    clear hU29
    have ho29 := hV29.one_
    repeat' (first | refine zP ?_ | refine zA ?_ | (refine zM ?_; intro _ _) | refine zX ?_ | (refine zC ?_; intro _ _ _ _) | (refine zS ?_; intro _ _) | refine zO ?_ | (apply Ws <;> intro hg))
    refine WC.loopX [(9, .int .i64 (xs.length : Int)), (10, vo), (26, u28), (194, u29), (195, .int .i64 ((alw ot).length : Int))] (fun k : Nat => [(196, .int .i64 (k : Int))]) [] (fun k H' => H' = H29 ∧ k ≤ (alw ot).length) (fun k => (alw ot).length - k) 0 (by repeat' (first | exact .nil | refine .cons rfl ?_)) rfl ⟨rfl, Nat.zero_le _⟩ ?_
    rintro k H' ⟨rfl, hk⟩
    dsimp only [List.cons_append, List.nil_append]
    repeat' (first | refine zP ?_ | refine zA ?_ | (refine zM ?_; intro _ _) | refine zX ?_ | (refine zC ?_; intro _ _ _ _) | (refine zS ?_; intro _ _) | (apply Ws <;> intro hg))
    refine WC.condP rfl (fun hlt => ?_) (fun hlt => ?_)
    · have hk' : k < (alw ot).length := by omega
      have hy : (alw ot).getD k 0 ∈ alw ot := getD_mem hk'
      have hyn : (alw ot).getD k 0 < ot.length := (mem_alw.1 hy).1
      have hyo : (alw ot).getD k 0 < od.length := by omega
      have hym := hI.alw_mem hy
      repeat' (first | refine zP ?_ | refine zA ?_ | (refine zM ?_; intro _ _) | refine zX ?_ | (refine zC ?_; intro _ _ _ _) | (refine zS ?_; intro _ _) | refine zO ?_ | (apply Ws <;> intro hg))
      refine WR.call (by first | exact gN | exact gS rfl) rfl rfl (ContainsN_fs hH29 hV28 (by omega) (od.getD ((alw ot).getD k 0) 0)) ?_
      rintro _ _ ⟨rfl, rfl⟩
      rw [decide_eq_true hym]
      repeat' (first | refine zP ?_ | refine zA ?_ | (refine zM ?_; intro _ _) | refine zX ?_ | (refine zC ?_; intro _ _ _ _) | (refine zS ?_; intro _ _) | refine zO ?_ | (apply Ws <;> intro hg))
      exact Ends.loop (k + 1) (by omega) (by repeat' (first | exact .nil | refine .cons rfl ?_)) rfl ⟨rfl, hk'⟩
    · repeat' (first | refine zP ?_ | refine zA ?_ | (refine zM ?_; intro _ _) | refine zX ?_ | (refine zC ?_; intro _ _ _ _) | (refine zS ?_; intro _ _) | refine zO ?_ | (apply Ws <;> intro hg))
      refine WR.call (by first | exact gN | exact gS rfl) rfl rfl hfin ?_
      rintro _ _ ⟨rfl, rfl⟩
      repeat' (first | refine zP ?_ | refine zA ?_ | (refine zM ?_; intro _ _) | refine zX ?_ | (refine zC ?_; intro _ _ _ _) | (refine zS ?_; intro _ _) | refine zO ?_ | (apply Ws <;> intro hg))
      exact Ends.ret1 rfl rfl
end
end Go.Proofs.YtcfffhkabhmkmaaDoor.Ps
