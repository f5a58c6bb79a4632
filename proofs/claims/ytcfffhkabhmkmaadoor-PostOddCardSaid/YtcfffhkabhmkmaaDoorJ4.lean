/- Texts of the law, joined. -/
import Derived.Test.YtcfffhkabhmkmaaDoorJ3
/- Places in so many lists; what the package's other functions return. -/
namespace Go.Proofs.YtcfffhkabhmkmaaDoor.Ps
open Go Go.Abs Go.Mth
set_option linter.unusedVariables false
set_option linter.unusedSimpArgs false
def timL (zs : List (List Nat)) (p : Nat) : Nat := zs.countP fun z => decide (p ∈ z)
def inL (zs : List (List Nat)) (t n : Nat) : List Nat := (List.range n).filter fun p => decide (timL zs p = t)
theorem timL_le (zs : List (List Nat)) (p : Nat) : timL zs p ≤ zs.length := List.countP_le_length
theorem timL_succ {zs : List (List Nat)} {k p : Nat} (h : k < zs.length) : timL (zs.take (k + 1)) p = timL (zs.take k) p + if p ∈ zs.getD k [] then 1 else 0 := by
  unfold timL
  rw [List.take_succ_eq_append_getElem h, List.countP_append, ← getD_eq (a := [])]
  simp [List.countP_cons]
theorem inL_succ (zs : List (List Nat)) (t k : Nat) : inL zs t (k + 1) = if timL zs k = t then inL zs t k ++ [k] else inL zs t k := by
  unfold inL
  rw [List.range_succ, List.filter_append]
  by_cases h : timL zs k = t
  · rw [if_pos h, List.filter_cons_of_pos (by simpa using h)]; simp
  · rw [if_neg h, List.filter_cons_of_neg (by simpa using h)]; simp
theorem inL_len (zs : List (List Nat)) (t n : Nat) : (inL zs t n).length ≤ n := by
  have := List.length_filter_le (fun p => decide (timL zs p = t)) (List.range n)
  simpa [inL] using this
theorem fewB_few {xs : List Int} (h : xs.length ≤ 10) : (fewB xs).length ≤ 5000 := Nat.le_trans (bestF_len _ _) (Nat.le_trans (List.length_filter_le _ _) (allA_few h))
def plcL (s k : Nat) : List Nat := (List.range k).filter s.testBit
theorem plcL_len (s k : Nat) : (plcL s k).length ≤ k := by
  have := List.length_filter_le s.testBit (List.range k)
  simpa [plcL] using this
theorem nodes_snoc (l : List Nat) (x : Nat) : nodes (l ++ [x]) = nodes l ++ [.int .i64 (x : Int)] := by simp [nodes]
structure KO where
  k : Nat
  v : Value
  Mx : HL
  n : Nat
attribute [local irreducible] gOK WS WC WR WD Ends FS YS OpV seqK blockK loopK midK retK rdK asgK rangeEnd sat Cell
section
variable {M : HL} {n0 : Nat} {H : Heap} {v w : Value}
theorem ContainsN_fs (hH : hasH M n0 H) {l : List Nat} (hS : Sl M 1 v (nodes l)) (hx : l.length ≤ 100000) (a : Nat) :
    FS C 29 [v, .int .i64 (a : Int)] H (fun e H' => H' = H ∧ e = .bool (decide (a ∈ l))) := by
  refine (Contains_fs hH (xs := IL l) (by rw [← nodes_IL]; exact hS) (by rw [IL_len]; exact hx) a).mono ?_
  rintro e H' ⟨h1, h2⟩
  refine ⟨h1, ?_⟩
  rw [h2]
  congr 1
  rw [decide_eq_decide]
  exact mem_cast
theorem timesIn_fs (hH : hasH M n0 H) {ws : List Value} {zs : List (List Nat)} (hS : Sl M 1 v ws) (hR : RowsB M ws zs) (hz : ∀ z ∈ zs, z.length ≤ 1000) (hl : zs.length ≤ 5000) (p : Nat) :
    FS C 66 [v, .int .i64 (p : Int)] H (fun e H' => e = .int .i64 (timL zs p : Nat) ∧ H' = H) := by
  have hv := hS.one_
  have hwl := hR.1
  refine FS.intro (pf := pf66) rfl rfl rfl ?_
  repeat' (first | refine zP ?_ | refine zA ?_ | (refine zM ?_; intro _ _) | refine zX ?_ | (refine zC ?_; intro _ _ _ _) | (refine zS ?_; intro _ _) | (apply Ws <;> intro hg))
  refine WC.loopX [(1, _), (8, v), (9, _)] (fun k : Nat => [(10, .int .i64 (k : Int)), (5, .int .i64 (timL (zs.take k) p : Nat))]) [] (fun k H' => k ≤ zs.length ∧ H' = H) (fun k => zs.length - k) 0 (by repeat' (first | exact .nil | refine .cons rfl ?_)) rfl ⟨Nat.zero_le _, rfl⟩ ?_
  rintro k H' ⟨hk, rfl⟩
  have htl := timL_le (zs.take k) p
  rw [List.length_take] at htl
  dsimp only [List.cons_append, List.nil_append]
  repeat' (first | refine zP ?_ | refine zA ?_ | (refine zM ?_; intro _ _) | refine zX ?_ | (refine zC ?_; intro _ _ _ _) | (refine zS ?_; intro _ _) | (apply Ws <;> intro hg))
  refine WC.condP rfl (fun hlt => ?_) (fun hlt => ?_)
  · have hk' : k < zs.length := by omega
    have hkw : k < ws.length := by omega
    have hSk := hR.2 k hk'
    have hlk := hz _ (getD_mem (a := []) hk')
    have hts := timL_succ (p := p) hk'
    repeat' (first | refine zP ?_ | refine zA ?_ | (refine zM ?_; intro _ _) | refine zX ?_ | (refine zC ?_; intro _ _ _ _) | (refine zS ?_; intro _ _) | (apply Ws <;> intro hg))
    refine WR.call (by first | exact gN | exact gS rfl) rfl rfl (ContainsN_fs hH hSk (by omega) p) ?_
    rintro _ _ ⟨rfl, rfl⟩
    by_cases hm : p ∈ zs.getD k []
    · rw [if_pos hm] at hts
      rw [decide_eq_true hm]
      repeat' (first | refine zP ?_ | refine zA ?_ | (refine zM ?_; intro _ _) | refine zX ?_ | (refine zC ?_; intro _ _ _ _) | (refine zS ?_; intro _ _) | (apply Ws <;> intro hg))
      exact Ends.loop (k + 1) (by omega) (by rw [hts]; exact (by repeat' (first | exact .nil | refine .cons rfl ?_))) rfl ⟨hk', rfl⟩
    · rw [if_neg hm, Nat.add_zero] at hts
      rw [decide_eq_false hm]
      repeat' (first | refine zP ?_ | refine zA ?_ | (refine zM ?_; intro _ _) | refine zX ?_ | (refine zC ?_; intro _ _ _ _) | (refine zS ?_; intro _ _) | (apply Ws <;> intro hg))
      exact Ends.loop (k + 1) (by omega) (by rw [hts]; exact (by repeat' (first | exact .nil | refine .cons rfl ?_))) rfl ⟨hk', rfl⟩
  · have hkl : k = zs.length := by omega
    subst hkl
    rw [List.take_length]
    repeat' (first | refine zP ?_ | refine zA ?_ | (refine zM ?_; intro _ _) | refine zX ?_ | (refine zC ?_; intro _ _ _ _) | (refine zS ?_; intro _ _) | (apply Ws <;> intro hg))
    exact Ends.ret1 rfl ⟨rfl, rfl⟩
theorem placesIn_fs (hH : hasH M n0 H) {ws : List Value} {zs : List (List Nat)} (hS : Sl M 1 v ws) (hR : RowsB M ws zs) (hz : ∀ z ∈ zs, z.length ≤ 1000) (hl : zs.length ≤ 5000) (t n : Nat) (hn : n ≤ 1000) :
    FS C 50 [v, .int .i64 (t : Int), .int .i64 (n : Int)] H (fun e H' => ∃ Mx n', Own 3 1 e (nodes (inL zs t n)) Mx ∧ n0 ≤ n' ∧ hasH (Mx ++ M) n' H') := by
  have hv := hS.one_
  refine FS.intro (pf := pf50) rfl rfl rfl ?_
  repeat' (first | refine zP ?_ | refine zA ?_ | (refine zM ?_; intro _ _) | refine zX ?_ | (refine zC ?_; intro _ _ _ _) | (refine zS ?_; intro _ _) | (apply Ws <;> intro hg))
  refine WC.loopX [(0, v), (1, _), (9, _)] (fun s : KO => [(10, .int .i64 (s.k : Int)), (7, s.v)]) [] (fun s H' => s.k ≤ n ∧ Own 3 1 s.v (nodes (inL zs t s.k)) s.Mx ∧ n0 ≤ s.n ∧ hasH (s.Mx ++ M) s.n H') (fun s => n - s.k) ⟨0, .slice none 0 0, [], n0⟩ (by repeat' (first | exact .nil | refine .cons rfl ?_)) rfl ⟨Nat.zero_le _, .nil, Nat.le_refl _, hH⟩ ?_
  clear hH
  rintro ⟨k, v7, Mx, n1⟩ H1 ⟨hk, hO, hn1, hH⟩
  simp only at hk hO hn1 hH
  have hil := inL_len zs t k
  have his := inL_succ zs t k
  dsimp only [List.cons_append, List.nil_append]
  repeat' (first | refine zP ?_ | refine zA ?_ | (refine zM ?_; intro _ _) | refine zX ?_ | (refine zC ?_; intro _ _ _ _) | (refine zS ?_; intro _ _) | (apply Ws <;> intro hg))
  refine WC.condP rfl (fun hlt => ?_) (fun hlt => ?_)
  · have hk' : k < n := by omega
    repeat' (first | refine zP ?_ | refine zA ?_ | (refine zM ?_; intro _ _) | refine zX ?_ | (refine zC ?_; intro _ _ _ _) | (refine zS ?_; intro _ _) | (apply Ws <;> intro hg))
    refine WR.call (by first | exact gN | exact gS rfl) rfl rfl (timesIn_fs hH (hS.mono fun q hq => List.mem_append_right Mx hq) (hR.mono fun q hq => List.mem_append_right Mx hq) hz hl k) ?_
    rintro _ _ ⟨rfl, rfl⟩
    by_cases hm : timL zs k = t
    · rw [if_pos hm] at his
      repeat' (first | refine zP ?_ | refine zA ?_ | (refine zM ?_; intro _ _) | refine zX ?_ | (refine zC ?_; intro _ _ _ _) | (refine zS ?_; intro _ _) | refine zO ?_ | (apply Ws <;> intro hg))
      refine WR.append1F [] Mx M rfl rfl rfl rfl hO hH (new := [.int .i64 (k : Int)]) rfl rfl rfl (Nat.le_refl _) (by decide) (by simp; omega) fun v' Mx' n' H' q1 q2 q3 => ?_
      repeat' (first | refine zP ?_ | refine zA ?_ | (refine zM ?_; intro _ _) | refine zX ?_ | (refine zC ?_; intro _ _ _ _) | (refine zS ?_; intro _ _) | (apply Ws <;> intro hg))
      refine Ends.loop ⟨k + 1, v', Mx', n'⟩ (by simp only; omega) (by repeat' (first | exact .nil | refine .cons rfl ?_)) rfl ⟨hk', ?_, by simp only; omega, q2⟩
      simp only
      rw [his, nodes_snoc]; exact q1
    · rw [if_neg hm] at his
      repeat' (first | refine zP ?_ | refine zA ?_ | (refine zM ?_; intro _ _) | refine zX ?_ | (refine zC ?_; intro _ _ _ _) | (refine zS ?_; intro _ _) | refine zO ?_ | (apply Ws <;> intro hg))
      refine Ends.loop ⟨k + 1, v7, Mx, n1⟩ (by simp only; omega) (by repeat' (first | exact .nil | refine .cons rfl ?_)) rfl ⟨hk', ?_, by simp only; omega, hH⟩
      simp only
      rw [his]; exact hO
  · have hkn : k = n := by omega
    subst hkn
    repeat' (first | refine zP ?_ | refine zA ?_ | (refine zM ?_; intro _ _) | refine zX ?_ | (refine zC ?_; intro _ _ _ _) | (refine zS ?_; intro _ _) | (apply Ws <;> intro hg))
    exact Ends.ret1 rfl ⟨Mx, n1, hO, hn1, hH⟩
theorem fewB_len10 {xs : List Int} {c : List Nat → Int} {zs : List (List Nat)} (hz : ∀ z ∈ zs, AscN xs.length z) (h : xs.length ≤ 10) : ∀ z ∈ (bestF c zs).1, AscN xs.length z ∧ z.length ≤ 1000 := by
  have key : ∀ (ys : List (List Nat)) (s : List (List Nat) × Int), (∀ z ∈ ys, AscN xs.length z) → (∀ z ∈ s.1, AscN xs.length z) → ∀ z ∈ (ys.foldl (bestS c) s).1, AscN xs.length z := by
    intro ys
    induction ys with
    | nil => intro s _ h2; exact h2
    | cons y ys ih =>
      intro s h1 h2
      rw [List.foldl_cons]
      refine ih _ (fun z hz => h1 z (by simp [hz])) ?_
      intro z hz
      have hy := h1 y (by simp)
      unfold bestS at hz
      split at hz
      · rw [List.mem_singleton] at hz; rw [hz]; exact hy
      · split at hz
        · rcases List.mem_append.1 hz with hz | hz
          · exact h2 z hz
          · rw [List.mem_singleton] at hz; rw [hz]; exact hy
        · exact h2 z hz
  intro z hz2
  have h1 := key zs ([], 0) hz (by simp) z hz2
  exact ⟨h1, by have := h1.len; omega⟩
theorem grdL_asc {xs : List Int} : ∀ z ∈ grdL xs, AscN xs.length z := fun z hz => mem_allA.1 (List.mem_filter.1 hz).1
theorem aptL_asc {xs : List Int} : ∀ z ∈ aptL xs, AscN xs.length z := fun z hz => mem_allA.1 (List.mem_filter.1 hz).1
theorem Ways_fs (hH : hasH M n0 H) {xs : List Int} (hS : Sl M 1 v (ints xs)) (hl : xs.length ≤ 100000) :
    FS C 23 [v] H (fun e H' => ∃ M2 n', e = .tuple #[.int .i64 ((if errS xs = 0 then (fewB xs).length else 0 : Nat) : Int), .int .i64 (errS xs)] ∧ n0 ≤ n' ∧ hasH (M2 ++ M) n' H') := by
  refine FS.intro (pf := pf23) rfl rfl rfl ?_
  repeat' (first | refine zP ?_ | refine zA ?_ | (refine zM ?_; intro _ _) | refine zX ?_ | (refine zC ?_; intro _ _ _ _) | (refine zS ?_; intro _ _) | (apply Ws <;> intro hg))
  refine WR.call (by first | exact gN | exact gS rfl) rfl rfl (Check_fs hH hS hl) ?_
  rintro _ H1 ⟨rfl, rfl⟩
  repeat' (first | refine zP ?_ | refine zA ?_ | (refine zM ?_; intro _ _) | refine zX ?_ | (refine zC ?_; intro _ _ _ _) | (refine zS ?_; intro _ _) | (apply Ws <;> intro hg))
  refine WC.condP rfl (fun h0 => ?_) (fun h0 => ?_)
  · repeat' (first | refine zP ?_ | refine zA ?_ | (refine zM ?_; intro _ _) | refine zX ?_ | (refine zC ?_; intro _ _ _ _) | (refine zS ?_; intro _ _) | (apply Ws <;> intro hg))
    exact Ends.ret2 rfl rfl ⟨[], n0, by rw [if_neg h0]; rfl, Nat.le_refl _, hH⟩
  · have h00 : errS xs = 0 := by omega
    have hx := errS_zero.1 h00
    repeat' (first | refine zP ?_ | refine zA ?_ | (refine zM ?_; intro _ _) | refine zX ?_ | (refine zC ?_; intro _ _ _ _) | (refine zS ?_; intro _ _) | (apply Ws <;> intro hg))
    refine WR.call (by first | exact gN | exact gS rfl) rfl rfl (byNumber_fs hH hS hx) ?_
    rintro _ H2 ⟨hv, M2, n2, rfl, hV, hn2, hH2⟩
    refine WR.call (by first | exact gN | exact gS rfl) rfl rfl (best_fs (B := M2) hx.one hx.most hH2 (fun p hp => List.mem_append_left _ hp) (good_grd hx hV) (cost_one _ _) (fun x _ => by omega) (allA_few hx.most)) ?_
    rintro e3 H3 ⟨ws, M3, n3, hSe, hR, hn3, hH3⟩
    have hwl := hR.1
    repeat' (first | refine zP ?_ | refine zA ?_ | (refine zM ?_; intro _ _) | refine zX ?_ | (refine zC ?_; intro _ _ _ _) | (refine zS ?_; intro _ _) | (apply Ws <;> intro hg))
    refine Ends.ret2 rfl rfl ⟨M3 ++ M2, n3, by rw [h00, if_pos rfl, hwl]; rfl, by omega, by rw [List.append_assoc]; exact hH3⟩
theorem Always_fs (hH : hasH M n0 H) {xs : List Int} (hS : Sl M 1 v (ints xs)) (hl : xs.length ≤ 100000) :
    FS C 24 [v] H (fun e H' => ∃ u M2 n', e = .tuple #[u, .int .i64 (errS xs)] ∧ Sl (M2 ++ M) 1 u (nodes (if errS xs = 0 then inL (fewB xs) (fewB xs).length xs.length else [])) ∧ n0 ≤ n' ∧ hasH (M2 ++ M) n' H') := by
  refine FS.intro (pf := pf24) rfl rfl rfl ?_
  repeat' (first | refine zP ?_ | refine zA ?_ | (refine zM ?_; intro _ _) | refine zX ?_ | (refine zC ?_; intro _ _ _ _) | (refine zS ?_; intro _ _) | (apply Ws <;> intro hg))
  refine WR.call (by first | exact gN | exact gS rfl) rfl rfl (Check_fs hH hS hl) ?_
  rintro _ H1 ⟨rfl, rfl⟩
  repeat' (first | refine zP ?_ | refine zA ?_ | (refine zM ?_; intro _ _) | refine zX ?_ | (refine zC ?_; intro _ _ _ _) | (refine zS ?_; intro _ _) | (apply Ws <;> intro hg))
  refine WC.condP rfl (fun h0 => ?_) (fun h0 => ?_)
  · repeat' (first | refine zP ?_ | refine zA ?_ | (refine zM ?_; intro _ _) | refine zX ?_ | (refine zC ?_; intro _ _ _ _) | (refine zS ?_; intro _ _) | (apply Ws <;> intro hg))
    exact Ends.ret2 rfl rfl ⟨_, [], n0, rfl, by rw [if_neg h0]; exact .nil 0, Nat.le_refl _, hH⟩
  · have h00 : errS xs = 0 := by omega
    have hx := errS_zero.1 h00
    have h10 := hx.most
    repeat' (first | refine zP ?_ | refine zA ?_ | (refine zM ?_; intro _ _) | refine zX ?_ | (refine zC ?_; intro _ _ _ _) | (refine zS ?_; intro _ _) | (apply Ws <;> intro hg))
    refine WR.call (by first | exact gN | exact gS rfl) rfl rfl (byNumber_fs hH hS hx) ?_
    rintro _ H2 ⟨hv, M2, n2, rfl, hV, hn2, hH2⟩
    refine WR.call (by first | exact gN | exact gS rfl) rfl rfl (best_fs (B := M2) hx.one hx.most hH2 (fun p hp => List.mem_append_left _ hp) (good_grd hx hV) (cost_one _ _) (fun x _ => by omega) (allA_few hx.most)) ?_
    rintro e3 H3 ⟨ws, M3, n3, hSe, hR, hn3, hH3⟩
    have hwl := hR.1
    have hS3 : Sl (M3 ++ (M2 ++ M)) 1 v (ints xs) := hS.mono fun q hq => by simp [hq]
    repeat' (first | refine zP ?_ | refine zA ?_ | (refine zM ?_; intro _ _) | refine zX ?_ | (refine zC ?_; intro _ _ _ _) | (refine zS ?_; intro _ _) | (apply Ws <;> intro hg))
    rw [hwl]
    refine WR.call (by first | exact gN | exact gS rfl) rfl rfl (placesIn_fs hH3 hSe hR (fun z hz => (fewB_len10 grdL_asc h10 z hz).2) (fewB_few h10) _ xs.length (by omega)) ?_
    rintro e4 H4 ⟨Mx, n4, hO, hn4, hH4⟩
    repeat' (first | refine zP ?_ | refine zA ?_ | (refine zM ?_; intro _ _) | refine zX ?_ | (refine zC ?_; intro _ _ _ _) | (refine zS ?_; intro _ _) | (apply Ws <;> intro hg))
    refine Ends.ret2 rfl rfl ⟨_, Mx ++ (M3 ++ M2), n4, by rw [h00], ?_, by omega, hH4.perm (by classical exact List.perm_iff_count.2 (fun a => by simp only [defds, List.map_cons, List.map_nil, List.count_append, List.count_cons, List.count_nil, List.cons_append, List.nil_append, List.append_nil]; omega))⟩
    rw [if_pos h00]; exact (hO.sl []).mono fun q hq => by rw [List.append_nil] at hq; simp [hq]
theorem Never_fs (hH : hasH M n0 H) {xs : List Int} (hS : Sl M 1 v (ints xs)) (hl : xs.length ≤ 100000) :
    FS C 25 [v] H (fun e H' => ∃ u M2 n', e = .tuple #[u, .int .i64 (errS xs)] ∧ Sl (M2 ++ M) 1 u (nodes (if errS xs = 0 then inL (fewB xs) 0 xs.length else [])) ∧ n0 ≤ n' ∧ hasH (M2 ++ M) n' H') := by
  refine FS.intro (pf := pf25) rfl rfl rfl ?_
  repeat' (first | refine zP ?_ | refine zA ?_ | (refine zM ?_; intro _ _) | refine zX ?_ | (refine zC ?_; intro _ _ _ _) | (refine zS ?_; intro _ _) | (apply Ws <;> intro hg))
  refine WR.call (by first | exact gN | exact gS rfl) rfl rfl (Check_fs hH hS hl) ?_
  rintro _ H1 ⟨rfl, rfl⟩
  repeat' (first | refine zP ?_ | refine zA ?_ | (refine zM ?_; intro _ _) | refine zX ?_ | (refine zC ?_; intro _ _ _ _) | (refine zS ?_; intro _ _) | (apply Ws <;> intro hg))
  refine WC.condP rfl (fun h0 => ?_) (fun h0 => ?_)
  · repeat' (first | refine zP ?_ | refine zA ?_ | (refine zM ?_; intro _ _) | refine zX ?_ | (refine zC ?_; intro _ _ _ _) | (refine zS ?_; intro _ _) | (apply Ws <;> intro hg))
    exact Ends.ret2 rfl rfl ⟨_, [], n0, rfl, by rw [if_neg h0]; exact .nil 0, Nat.le_refl _, hH⟩
  · have h00 : errS xs = 0 := by omega
    have hx := errS_zero.1 h00
    have h10 := hx.most
    repeat' (first | refine zP ?_ | refine zA ?_ | (refine zM ?_; intro _ _) | refine zX ?_ | (refine zC ?_; intro _ _ _ _) | (refine zS ?_; intro _ _) | (apply Ws <;> intro hg))
    refine WR.call (by first | exact gN | exact gS rfl) rfl rfl (byNumber_fs hH hS hx) ?_
    rintro _ H2 ⟨hv, M2, n2, rfl, hV, hn2, hH2⟩
    refine WR.call (by first | exact gN | exact gS rfl) rfl rfl (best_fs (B := M2) hx.one hx.most hH2 (fun p hp => List.mem_append_left _ hp) (good_grd hx hV) (cost_one _ _) (fun x _ => by omega) (allA_few hx.most)) ?_
    rintro e3 H3 ⟨ws, M3, n3, hSe, hR, hn3, hH3⟩
    have hS3 : Sl (M3 ++ (M2 ++ M)) 1 v (ints xs) := hS.mono fun q hq => by simp [hq]
    repeat' (first | refine zP ?_ | refine zA ?_ | (refine zM ?_; intro _ _) | refine zX ?_ | (refine zC ?_; intro _ _ _ _) | (refine zS ?_; intro _ _) | (apply Ws <;> intro hg))
    refine WR.call (by first | exact gN | exact gS rfl) rfl rfl (placesIn_fs hH3 hSe hR (fun z hz => (fewB_len10 grdL_asc h10 z hz).2) (fewB_few h10) 0 xs.length (by omega)) ?_
    rintro e4 H4 ⟨Mx, n4, hO, hn4, hH4⟩
    repeat' (first | refine zP ?_ | refine zA ?_ | (refine zM ?_; intro _ _) | refine zX ?_ | (refine zC ?_; intro _ _ _ _) | (refine zS ?_; intro _ _) | (apply Ws <;> intro hg))
    refine Ends.ret2 rfl rfl ⟨_, Mx ++ (M3 ++ M2), n4, by rw [h00], ?_, by omega, hH4.perm (by classical exact List.perm_iff_count.2 (fun a => by simp only [defds, List.map_cons, List.map_nil, List.count_append, List.count_cons, List.count_nil, List.cons_append, List.nil_append, List.append_nil]; omega))⟩
    rw [if_pos h00]; exact (hO.sl []).mono fun q hq => by rw [List.append_nil] at hq; simp [hq]
end
end Go.Proofs.YtcfffhkabhmkmaaDoor.Ps

/- Count, Cheapest, Guards, Proves, Hand. -/
namespace Go.Proofs.YtcfffhkabhmkmaaDoor.Ps
open Go Go.Abs Go.Mth
set_option linter.unusedVariables false
set_option linter.unusedSimpArgs false
theorem toNat_IL (l : List Nat) : (IL l).map Int.toNat = l := by
  refine List.ext_getElem (by simp [IL]) fun i h1 h2 => by simp [IL]
attribute [local irreducible] gOK WS WC WR WD Ends FS YS OpV seqK blockK loopK midK retK rdK asgK rangeEnd sat Cell
section
variable {M : HL} {n0 : Nat} {H : Heap} {v w : Value}
set_option maxHeartbeats 1000000 in
theorem Count_fs (hH : hasH M n0 H) {xs : List Int} (hS : Sl M 1 v (ints xs)) (hl : xs.length ≤ 100000) :
    FS C 22 [v] H (fun e H' => ∃ M2 n', e = .tuple #[.int .i64 ((if errS xs = 0 then (grdL xs).length else 0 : Nat) : Int), .int .i64 (errS xs)] ∧ n0 ≤ n' ∧ hasH (M2 ++ M) n' H') := by
  refine FS.intro (pf := pf22) rfl rfl rfl ?_
  repeat' (first | refine zP ?_ | refine zA ?_ | (refine zM ?_; intro _ _) | refine zX ?_ | (refine zC ?_; intro _ _ _ _) | (refine zS ?_; intro _ _) | (apply Ws <;> intro hg))
  refine WR.call (by first | exact gN | exact gS rfl) rfl rfl (Check_fs hH hS hl) ?_
  rintro _ H1 ⟨rfl, rfl⟩
  repeat' (first | refine zP ?_ | refine zA ?_ | (refine zM ?_; intro _ _) | refine zX ?_ | (refine zC ?_; intro _ _ _ _) | (refine zS ?_; intro _ _) | (apply Ws <;> intro hg))
  refine WC.condP rfl (fun h0 => ?_) (fun h0 => ?_)
  · repeat' (first | refine zP ?_ | refine zA ?_ | (refine zM ?_; intro _ _) | refine zX ?_ | (refine zC ?_; intro _ _ _ _) | (refine zS ?_; intro _ _) | (apply Ws <;> intro hg))
    exact Ends.ret2 rfl rfl ⟨[], n0, by rw [if_neg h0]; rfl, Nat.le_refl _, hH⟩
  · have h00 : errS xs = 0 := by omega
    have hx := errS_zero.1 h00
    repeat' (first | refine zP ?_ | refine zA ?_ | (refine zM ?_; intro _ _) | refine zX ?_ | (refine zC ?_; intro _ _ _ _) | (refine zS ?_; intro _ _) | (apply Ws <;> intro hg))
    rename_i H2 hH2
    have hS2 : Sl ((n0, Ch.row 3 0 0 [.int .i64 0]) :: M) 1 v (ints xs) := hS.cons
    clear hH
    repeat' (first | refine zP ?_ | refine zA ?_ | (refine zM ?_; intro _ _) | refine zX ?_ | (refine zC ?_; intro _ _ _ _) | (refine zS ?_; intro _ _) | (apply Ws <;> intro hg))
    refine WR.call (by first | exact gN | exact gS rfl) rfl rfl (byNumber_fs hH2 hS2 hx) ?_
    rintro _ H3 ⟨hv, M2, n3, rfl, hV, hn3, hH3⟩
    clear hH2
    refine WR.call (by first | exact gN | exact gS rfl) rfl rfl (rated_fs hH3) ?_
    rintro _ H5 ⟨rfl, hH5⟩
    clear hH3
    repeat' (first | refine zP ?_ | refine zA ?_ | (refine zM ?_; intro _ _) | refine zX ?_ | (refine zC ?_; intro _ _ _ _) | (refine zS ?_; intro _ _) | (apply Ws <;> intro hg))
    replace hH5 : hasH ((n0, Ch.row 3 0 0 [.int .i64 0]) :: (n3, RtC xs.length 40 [hv] 58 []) :: (M2 ++ M)) (n3 + 1) H5 := hH5.perm (by classical exact List.perm_iff_count.2 (fun a => by simp only [defds, List.map_cons, List.map_nil, List.count_append, List.count_cons, List.count_nil, List.cons_append, List.nil_append, List.append_nil]; omega))
    refine WC.range0 (va := []) (vb := [ptrO n3 0]) rfl hH5 fun t ht H6 hH6 => ?_
    generalize hRR : ({ state := .ready, pending := none, fn := 22, tmps := t, params := [14], assign := _, body := _, nt := _ } : LoopE) = R at hH6
    obtain ⟨nn, hnn, hnn0⟩ : ∃ nn, n3 + 1 + 2 = nn ∧ n0 ≤ nn := ⟨_, rfl, by omega⟩
    rw [hnn] at hH6
    generalize n3 + 1 + 1 = lp at hH6 ⊢
    generalize n3 + 1 = df at hH6 ⊢
    clear hH5 hnn
    obtain ⟨rt, hrt⟩ : ∃ rt, RtC xs.length 40 [hv] 58 [] = rt := ⟨_, rfl⟩
    rw [hrt] at hH6
    refine FS.mono (ratedIt_fs (l := lp) (b1 := n3) (n := xs.length) (gf := 40) (gv := [hv]) (cf := 58) (cv := []) (good := grd xs) (B := (n3, rt) :: M2)
      (J := fun zs Mc => ∃ ds, ds ++ zs = grdL xs ∧ Mc = (lp, .loop R) :: (df, .defd false) :: (n0, .row 3 0 0 [.int .i64 (ds.length : Int)]) :: (n3, rt) :: (M2 ++ M))
      hx.one hx.most hH6 (by rw [hrt]; exact .head _) ?_ ⟨[], rfl, rfl⟩ (good_grd hx (hV.mono fun q hq => .tail _ hq)) ?_) ?_
    · rintro zs Mc ⟨ds, _, rfl⟩ p hp
      rcases List.mem_cons.1 hp with rfl | hp
      · exact .tail _ (.tail _ (.tail _ (.head _)))
      · exact .tail _ (.tail _ (.tail _ (.tail _ (List.mem_append_left _ hp))))
    · rintro z zs Mc T0 u n' H7 hn' ⟨ds, hds, rfl⟩ hasc hK hH7
      simp only [List.cons_append, List.append_assoc] at hH7
      have hdl : ds.length ≤ 5000 := by
        have h1 := congrArg List.length hds
        rw [List.length_append] at h1
        have h2 : (grdL xs).length ≤ 5000 := Nat.le_trans (List.length_filter_le _ _) (allA_few hx.most)
        omega
      have hds2 : (ds ++ [z]) ++ zs = grdL xs := by rw [← hds]; simp
      refine YS.intro hH7 (.head _) (by rw [← hRR]) (by rw [← hRR]) (by rw [← hRR]; rfl) (by rw [← hRR]; exact ht) ?_
      subst hRR
      dsimp only
      repeat' (first | refine zA ?_ | (refine zM ?_; intro _ _) | (apply Ws <;> intro hg))
      refine Ends.asg hH7 .here fun H8 hH8 => ?_
      dsimp only
      clear hH7
      generalize hRb : ({ state := .busy, pending := none, fn := 22, tmps := t, params := [14], assign := _, body := _, nt := _ } : LoopE) = Rb at hH8
      repeat' (first | refine zP ?_ | refine zA ?_ | (refine zM ?_; intro _ _) | refine zX ?_ | (refine zC ?_; intro _ _ _ _) | (refine zS ?_; intro _ _) | (apply Ws <;> intro hg))
      rw [show (ds.length : Int) + 1 = ((ds ++ [z]).length : Int) by simp]
      refine WR.storeBox (by first | exact gN | exact gS rfl) hH8 rfl rfl rfl (.there (.there .here)) fun H10 hH10 => ?_
      subst hRb
      repeat' (first | refine zP ?_ | refine zA ?_ | (refine zM ?_; intro _ _) | refine zX ?_ | (refine zC ?_; intro _ _ _ _) | (refine zS ?_; intro _ _) | (apply Ws <;> intro hg))
      exact Ends.rd rfl rfl rfl hH10 .here fun H' h' => ⟨_ :: _ :: _ :: _ :: (M2 ++ M), n', Nat.le_refl _, by rw [List.cons_append, List.cons_append, List.cons_append, List.cons_append, List.append_assoc]; exact h', rfl, ds ++ [z], hds2, rfl⟩
    · rintro _ H7 ⟨_, T0, n7, hn7, hH7, ds, hds, rfl⟩
      rw [List.append_nil] at hds
      subst hds
      simp only [List.cons_append, List.append_assoc] at hH7
      refine rangeEnd_of hH7 .here (by rw [← hRR]; simp) (by rw [← hRR]; rfl) fun H8 hH8 => ?_
      repeat' (first | refine zP ?_ | refine zA ?_ | (refine zM ?_; intro _ _) | refine zX ?_ | (refine zC ?_; intro _ _ _ _) | (refine zS ?_; intro _ _) | (apply Ws <;> intro hg))
      exact Ends.ret2D rfl rfl hH8 (.cons _ (List.Sublist.refl _)) (List.Perm.refl _) fun H' h' => ⟨(n0, .row 3 0 0 [.int .i64 ((grdL xs).length : Int)]) :: (n3, rt) :: (M2 ++ T0), n7, by rw [h00, if_pos rfl], by omega, h'.perm (by classical exact List.perm_iff_count.2 (fun a => by simp only [defds, List.map_cons, List.map_nil, List.count_append, List.count_cons, List.count_nil, List.cons_append, List.nil_append, List.append_nil]; omega))⟩
end
end Go.Proofs.YtcfffhkabhmkmaaDoor.Ps

/- Shores by numbers. -/
namespace Go.Proofs.YtcfffhkabhmkmaaDoor.Ps
open Go Go.Abs Go.Mth
set_option linter.unusedVariables false
set_option linter.unusedSimpArgs false
theorem u8k : C.c.P.underlying 5 = some (.int .u8) := by kernel_rfl
theorem i64k : C.c.P.underlying 3 = some (.int .i64) := by kernel_rfl
def mkS (by_ : List Nat) (n : Nat) : List Int := (List.range n).map fun i => if i = 0 then -1 else ((by_.getD i 0 % i : Nat) : Int)
theorem mkS_len (by_ : List Nat) (n : Nat) : (mkS by_ n).length = n := by simp [mkS]
theorem mkS_get {by_ : List Nat} {n i : Nat} (h : i < n) : (mkS by_ n).getD i 0 = if i = 0 then -1 else ((by_.getD i 0 % i : Nat) : Int) := by
  rw [getD_eq (by rw [mkS_len]; exact h)]; simp [mkS]
theorem mkS_succ (by_ : List Nat) (n : Nat) : mkS by_ (n + 1) = mkS by_ n ++ [if n = 0 then -1 else ((by_.getD n 0 % n : Nat) : Int)] := by simp [mkS, List.range_succ]
theorem mkS_ok (by_ : List Nat) {n : Nat} (h1 : 1 ≤ n) (h10 : n ≤ 10) : OKS (mkS by_ n) where
  one := by rw [mkS_len]; exact h1
  most := by rw [mkS_len]; exact h10
  root := by rw [mkS_get (by omega), if_pos rfl]
  par k hk hl := by
    rw [mkS_len] at hl
    rw [mkS_get hl, if_neg (by omega)]
    have := Nat.mod_lt (by_.getD k 0) (show 0 < k by omega)
    omega
theorem hm_grow {xs : List Int} (h : OKS xs) {k p : Nat} (hk1 : 1 ≤ k) (hk : k < xs.length) (hp : xs.getD k 0 = (p : Int)) (hpk : p < k) {l : List Nat} (hl : l.length = k) (hv : ∀ i, i < k → l.getD i 0 = hmTo xs k i) :
    ∀ i, i < k + 1 → ((l ++ [2 ^ k ||| 2 ^ p]).set p ((l ++ [2 ^ k ||| 2 ^ p]).getD p 0 ||| 2 ^ k)).getD i 0 = hmTo xs (k + 1) i := by
  obtain ⟨L, hL⟩ : ∃ L, l ++ List.replicate (xs.length - k) 0 = L := ⟨_, rfl⟩
  have hLl : L.length = xs.length := by rw [← hL]; simp [hl]; omega
  have hLv : ∀ i, i < xs.length → L.getD i 0 = hmTo xs k i := fun i hi => by
    by_cases e : i < k
    · rw [← hL, getD_app_l (by omega)]; exact hv i e
    · rw [hm_zero (by omega), ← hL, List.getD_eq_getElem?_getD, List.getElem?_append_right (by omega), List.getElem?_replicate]
      split <;> rfl
  have hs := hm_step h hk hp hpk hLl hLv
  have hLk : L.getD k 0 = 0 := by rw [hLv k hk, hm_zero (Nat.le_refl _)]
  intro i hi
  rw [← hs i (by omega)]
  have n1 : (L.set k (L.getD k 0 ||| 2 ^ k)).length = xs.length := by simp [hLl]
  have n2 : ((L.set k (L.getD k 0 ||| 2 ^ k)).set k ((L.set k (L.getD k 0 ||| 2 ^ k)).getD k 0 ||| 2 ^ p)).length = xs.length := by simp [hLl]
  have hsn : (l ++ [2 ^ k ||| 2 ^ p]).length = k + 1 := by simp [hl]
  rw [getD_set' (by omega), getD_set' (by omega)]
  have hlp : (l ++ [2 ^ k ||| 2 ^ p]).getD p 0 = L.getD p 0 := by rw [getD_app_l (by omega), hv p hpk, hLv p (by omega)]
  rw [getD_set' (by omega), if_neg (show ¬ p = k by omega), getD_set' (by omega), if_neg (show ¬ p = k by omega), hlp]
  by_cases e1 : i = p
  · rw [if_pos e1, if_pos e1]
  · rw [if_neg e1, if_neg e1, getD_set' (by omega)]
    by_cases e2 : i = k
    · rw [if_pos e2, getD_set' (by omega), if_pos rfl, hLk, Nat.zero_or, e2, ← hl, snoc_at]
    · rw [if_neg e2, getD_set' (by omega), if_neg e2, getD_app_l (by omega), hv i (by omega), hLv i (by omega)]
structure KH where
  k : Nat
  vs : Value
  vh : Value
  hs : List Nat
  MS : HL
  MH : HL
  n : Nat
theorem lt64 {a : Nat} (h : a < 1024) : a < capK .u64 := Nat.lt_of_lt_of_le h (by decide)
attribute [local irreducible] gOK WS WC WR WD Ends FS YS OpV seqK blockK loopK midK retK rdK asgK rangeEnd sat Cell
section
variable {M : HL} {n0 : Nat} {H : Heap} {v w : Value}
set_option maxHeartbeats 2000000 in
theorem made_fs (hH : hasH M n0 H) {x : Nat} {by_ : List Nat} (hx : x ≤ 255) (hb : ∀ y ∈ by_, y ≤ 255) (hbl : by_.length = 10) {most : Nat} (h1 : 1 ≤ most) (h10 : most ≤ 10) :
    FS C 8 [.agg (numsK .u8 (x :: by_)).toArray, .int .i64 (most : Int)] H (fun e H' => ∃ vs vh MS MH n', e = .tuple #[vs, vh] ∧ Own 3 1 vs (ints (mkS by_ (1 + x % most))) MS ∧ Own 29 1 vh (numsK .u64 (hsL (mkS by_ (1 + x % most)))) MH ∧ n0 ≤ n' ∧ hasH (MS ++ (MH ++ M)) n' H') := by
  have hone : (numsK .u8 (x :: by_)).all one = true := numsK_one _
  have hsl : (numsK .u8 (x :: by_)).length = 11 := by simp [numsK, hbl]
  have hg0 : (numsK .u8 (x :: by_))[0]? = some (.int .u8 (x : Int)) := rfl
  refine FS.intro (pf := pf8) rfl rfl rfl ?_
  refine WC.seq ?_
  refine WC.region ?_
  refine WR.boxA (cs := numsK .u8 (x :: by_)) (by first | exact gN | exact gS rfl) rfl hH rfl hone fun H1 hH1 => ?_
  repeat' (first | refine zP ?_ | refine zA ?_ | (refine zM ?_; intro _ _) | refine zX ?_ | (refine zC ?_; intro _ _ _ _) | (refine zS ?_; intro _ _) | (apply Ws <;> intro hg))
  refine WR.op (by first | exact gN | exact gS rfl) rfl (OpV.conv u8k i64k rfl (c := (x : Int)) (IntWalk.i64_in _ (by omega))) ?_
  have hmod := Nat.mod_lt x (show 0 < most by omega)
  repeat' (first | refine zP ?_ | refine zA ?_ | (refine zM ?_; intro _ _) | refine zX ?_ | (refine zC ?_; intro _ _ _ _) | (refine zS ?_; intro _ _) | (apply Ws <;> intro hg))
  rw [show (x : Int) % (most : Int) = ((x % most : Nat) : Int) by simp]
  obtain ⟨r, hr⟩ : ∃ r, x % most = r := ⟨_, rfl⟩
  rw [hr] at hmod ⊢
  repeat' (first | refine zP ?_ | refine zA ?_ | (refine zM ?_; intro _ _) | refine zX ?_ | (refine zC ?_; intro _ _ _ _) | (refine zS ?_; intro _ _) | (apply Ws <;> intro hg))
  rw [show (1 : Int) + (r : Int) = ((1 + r : Nat) : Int) by omega]
  obtain ⟨n, hn⟩ : ∃ n, 1 + r = n := ⟨_, rfl⟩
  rw [hn]
  have hn10 : 1 ≤ n ∧ n ≤ 10 := by omega
  have hok := mkS_ok by_ hn10.1 hn10.2
  have hlen := mkS_len by_ n
  clear hr hn hmod hH
  refine WR.bldS (by first | exact gN | exact gS rfl) rfl hH1 (vs := [(0, .int .i64 (-1))]) rfl (cs := [.int .i64 (-1)]) (by rfl) rfl fun H2 hH2 => ?_
  refine WR.bldS (by first | exact gN | exact gS rfl) rfl hH2 (vs := [(0, .int .u64 1)]) rfl (cs := [.int .u64 1]) (by rfl) rfl fun H3 hH3 => ?_
  have hH4 : hasH ([(n0 + 1, .inp 3 0 0 [.int .i64 (-1)])] ++ ([(n0 + 1 + 1, .inp 29 0 0 [.int .u64 1])] ++ ((n0, .row 24 0 0 (numsK .u8 (x :: by_))) :: M))) (n0 + 1 + 1 + 1) H3 := (hH3.asInp .here |>.asInp (.there .here)).swap
  have hOs : Own 3 1 (.slice (some ⟨n0 + 1, 0, some 0⟩) 1 (2 * 1 + 1)) (ints (mkS by_ 1)) [(n0 + 1, .inp 3 0 0 [.int .i64 (-1)])] := .full (len := 1) rfl rfl
  have hOh : Own 29 1 (.slice (some ⟨n0 + 1 + 1, 0, some 0⟩) 1 (2 * 1 + 1)) (numsK .u64 [1]) [(n0 + 1 + 1, .inp 29 0 0 [.int .u64 1])] := .full (len := 1) rfl rfl
  clear hH1 hH2 hH3
  repeat' (first | refine zP ?_ | refine zA ?_ | (refine zM ?_; intro _ _) | refine zX ?_ | (refine zC ?_; intro _ _ _ _) | (refine zS ?_; intro _ _) | (apply Ws <;> intro hg))
  refine WC.loopX [(2, _), (6, _)] (fun z : KH => [(9, .int .i64 (z.k : Int)), (7, z.vs), (8, z.vh)]) []
    (fun z H' => 1 ≤ z.k ∧ z.k ≤ n ∧ z.hs.length = z.k ∧ (∀ i, i < z.k → z.hs.getD i 0 = hmTo (mkS by_ n) z.k i) ∧ Own 3 1 z.vs (ints (mkS by_ z.k)) z.MS ∧ Own 29 1 z.vh (numsK .u64 z.hs) z.MH ∧ n0 ≤ z.n ∧ hasH (z.MS ++ (z.MH ++ ((n0, .row 24 0 0 (numsK .u8 (x :: by_))) :: M))) z.n H') (fun z => n - z.k)
    ⟨1, _, _, [1], _, _, n0 + 1 + 1 + 1⟩ (by repeat' (first | exact .nil | refine .cons rfl ?_)) rfl ⟨Nat.le_refl _, hn10.1, rfl, fun i hi => ?_, hOs, hOh, by simp only; omega, hH4⟩ ?_
  · have : i = 0 := by simp only at hi; omega
    subst this
    refine bits_ext fun j => ?_
    rw [hmTo_bit, show ([1] : List Nat).getD 0 0 = 2 ^ 0 from rfl, pow_bit]
    constructor
    · rintro rfl; exact ⟨by simp only; omega, by simp only; omega, adj_self _ _⟩
    · rintro ⟨_, h, _⟩; simp only at h; omega
  clear hH4 hOs hOh
  rintro ⟨k, vs, vh, hs, MS, MH, n1⟩ H2 ⟨hk1, hk, hhl, hhv, hOs, hOh, hn1, hH⟩
  simp only at hk1 hk hhl hhv hOs hOh hn1 hH
  have hm0 : (n0, Ch.row 24 0 0 (numsK .u8 (x :: by_))) ∈ MS ++ (MH ++ ((n0, .row 24 0 0 (numsK .u8 (x :: by_))) :: M)) := by simp
  dsimp only [List.cons_append, List.nil_append]
  repeat' (first | refine zP ?_ | refine zA ?_ | (refine zM ?_; intro _ _) | refine zX ?_ | (refine zC ?_; intro _ _ _ _) | (refine zS ?_; intro _ _) | (apply Ws <;> intro hg))
  refine WC.condP rfl (fun hlt => ?_) (fun hlt => ?_)
  · have hk' : k < n := by omega
    have hby : by_.getD k 0 ≤ 255 := hb _ (getD_mem (by omega))
    have hgk : (numsK .u8 (x :: by_))[1 + k]? = some (.int .u8 ((by_.getD k 0 : Nat) : Int)) := by
      unfold numsK
      rw [Nat.add_comm 1 k, List.map_cons, List.getElem?_cons_succ, List.getElem?_map, List.getElem?_eq_getElem (by omega), getD_eq (by omega)]; rfl
    repeat' (first | refine zP ?_ | refine zA ?_ | (refine zM ?_; intro _ _) | refine zX ?_ | (refine zC ?_; intro _ _ _ _) | (refine zS ?_; intro _ _) | (apply Ws <;> intro hg))
    refine WR.op (by first | exact gN | exact gS rfl) rfl (OpV.load1 (v := .int .u8 ((by_.getD k 0 : Nat) : Int)) rfl hH hm0 (.row _ _ _ _) (Nat.zero_le _) (by rw [Nat.sub_zero]; exact hgk)) ?_
    refine WR.op (by first | exact gN | exact gS rfl) rfl (OpV.conv u8k i64k rfl (c := ((by_.getD k 0 : Nat) : Int)) (IntWalk.i64_in _ (by omega))) ?_
    repeat' (first | refine zP ?_ | refine zA ?_ | (refine zM ?_; intro _ _) | refine zX ?_ | (refine zC ?_; intro _ _ _ _) | (refine zS ?_; intro _ _) | (apply Ws <;> intro hg))
    rw [show ((by_.getD k 0 : Nat) : Int) % (k : Int) = ((by_.getD k 0 % k : Nat) : Int) by simp]
    have hpm := Nat.mod_lt (by_.getD k 0) (show 0 < k by omega)
    have hss := mkS_succ by_ k
    rw [if_neg (by omega)] at hss
    have hgp := mkS_get (by_ := by_) hk'
    rw [if_neg (by omega)] at hgp
    have hgw := hm_grow hok hk1 (by rw [hlen]; exact hk') hgp hpm hhl hhv
    generalize by_.getD k 0 % k = p at hpm hss hgp hgw ⊢
    have hp1 : 2 ^ k < 1024 := by show 2 ^ k < 2 ^ 10; exact Nat.pow_lt_pow_right (by omega) (by omega)
    have hp2 : 2 ^ p < 1024 := by show 2 ^ p < 2 ^ 10; exact Nat.pow_lt_pow_right (by omega) (by omega)
    have hp3 : 2 ^ k ||| 2 ^ p < 1024 := Nat.or_lt_two_pow (n := 10) hp1 hp2
    repeat' (first | refine zP ?_ | refine zA ?_ | (refine zM ?_; intro _ _) | refine zX ?_ | (refine zC ?_; intro _ _ _ _) | (refine zS ?_; intro _ _) | (apply Ws <;> intro hg))
    refine WR.op (by first | exact gN | exact gS rfl) rfl (OpV.shl1 rfl rfl (by show k ≤ 64; omega) (lt64 hp1)) ?_
    repeat' (first | refine zP ?_ | refine zA ?_ | (refine zM ?_; intro _ _) | refine zX ?_ | (refine zC ?_; intro _ _ _ _) | (refine zS ?_; intro _ _) | (apply Ws <;> intro hg))
    refine WR.op (by first | exact gN | exact gS rfl) rfl (OpV.shl1 rfl rfl (by show p ≤ 64; omega) (lt64 hp2)) ?_
    refine WR.op (by first | exact gN | exact gS rfl) rfl (OpV.orN rfl rfl (lt64 hp1) (lt64 hp2)) ?_
    refine WR.append1RF [] MS (MH ++ ((n0, .row 24 0 0 (numsK .u8 (x :: by_))) :: M)) rfl rfl rfl rfl hOs hH (new := [.int .i64 (p : Int)]) rfl rfl rfl (Nat.le_refl _) (by decide) (by simp [mkS_len]; omega) fun vs2 MS2 n2 H3 hO2 hH3 hn2 => ?_
    refine WR.append1RF MS2 MH ((n0, .row 24 0 0 (numsK .u8 (x :: by_))) :: M) rfl rfl rfl rfl hOh hH3 (new := [.int .u64 ((2 ^ k ||| 2 ^ p : Nat) : Int)]) rfl rfl rfl (Nat.le_refl _) (by decide) (by simp; omega) fun vh2 MH2 n3 H4 hO3 hH4 hn3 => ?_
    clear hH hH3 hOs hOh
    have hO2' : Own 3 1 vs2 (ints (mkS by_ (k + 1))) MS2 := by rw [hss, ints, List.map_append]; exact hO2.own
    have hnn : numsK .u64 hs ++ [Value.int .u64 ((2 ^ k ||| 2 ^ p : Nat) : Int)] = numsK .u64 (hs ++ [2 ^ k ||| 2 ^ p]) := by simp [numsK]
    rw [hnn] at hO3
    have hls : (hs ++ [2 ^ k ||| 2 ^ p]).length = k + 1 := by simp [hhl]
    have hbp : (hs ++ [2 ^ k ||| 2 ^ p]).getD p 0 < 1024 := by rw [getD_app_l (by omega), hhv p (by omega)]; exact hmTo_lt p (by omega)
    generalize hs ++ [2 ^ k ||| 2 ^ p] = l2 at hO3 hls hbp hgw
    have hll : (numsK .u64 l2).length = (k + 1) * 1 := by simp [numsK, hls]
    generalize hq : numsK .u64 l2 = q2 at hO3 hll
    cases hO3 with
    | @mk b u o len _ hl3 =>
      have hlk : len = k + 1 := by omega
      subst hlk
      subst hq
      replace hH4 : hasH ((b, Ch.row 29 u o (numsK .u64 l2)) :: (MS2 ++ ((n0, .row 24 0 0 (numsK .u8 (x :: by_))) :: M))) n3 H4 := hH4.perm (List.perm_middle (l₁ := MS2) (a := (b, Ch.row 29 u o (numsK .u64 l2))))
      have hSh : Sl ((b, Ch.row 29 u o (numsK .u64 l2)) :: (MS2 ++ ((n0, .row 24 0 0 (numsK .u8 (x :: by_))) :: M))) 1 (.slice (some ⟨b, o, some u⟩) (k + 1) (2 * 1)) (numsK .u64 l2) := Own.sl (.row hl3) (MS2 ++ ((n0, .row 24 0 0 (numsK .u8 (x :: by_))) :: M))
      repeat' (first | refine zP ?_ | refine zA ?_ | (refine zM ?_; intro _ _) | refine zX ?_ | (refine zC ?_; intro _ _ _ _) | (refine zS ?_; intro _ _) | (apply Ws <;> intro hg))
      refine WR.op (by first | exact gN | exact gS rfl) rfl (OpV.load1 (v := .int .u64 ((l2.getD p 0 : Nat) : Int)) rfl hH4 (.head _) (.row _ _ _ _) (Nat.le_add_right _ _) (by rw [Nat.add_sub_cancel_left]; exact nodes_get (by omega))) ?_
      repeat' (first | refine zP ?_ | refine zA ?_ | (refine zM ?_; intro _ _) | refine zX ?_ | (refine zC ?_; intro _ _ _ _) | (refine zS ?_; intro _ _) | (apply Ws <;> intro hg))
      refine WR.op (by first | exact gN | exact gS rfl) rfl (OpV.shl1 rfl rfl (by show k ≤ 64; omega) (lt64 hp1)) ?_
      refine WR.op (by first | exact gN | exact gS rfl) rfl (OpV.orN rfl rfl (lt64 hbp) (lt64 hp1)) ?_
      repeat' (first | refine zP ?_ | refine zA ?_ | (refine zM ?_; intro _ _) | refine zX ?_ | (refine zC ?_; intro _ _ _ _) | (refine zS ?_; intro _ _) | (apply Ws <;> intro hg))
      refine WR.store1 (cs' := numsK .u64 (l2.set p (l2.getD p 0 ||| 2 ^ k))) (by first | exact gN | exact gS rfl) hH4 rfl rfl rfl .here (Nat.le_add_right _ _) (by rw [Nat.add_sub_cancel_left]; simp [numsK]; omega) (by rw [Nat.add_sub_cancel_left]; simp [numsK]) fun H5 hH5 => ?_
      repeat' (first | refine zP ?_ | refine zA ?_ | (refine zM ?_; intro _ _) | refine zX ?_ | (refine zC ?_; intro _ _ _ _) | (refine zS ?_; intro _ _) | (apply Ws <;> intro hg))
      exact Ends.loop ⟨k + 1, vs2, _, l2.set p (l2.getD p 0 ||| 2 ^ k), MS2, [(b, .row 29 u o (numsK .u64 (l2.set p (l2.getD p 0 ||| 2 ^ k))))], n3⟩ (by simp only; omega) (by repeat' (first | exact .nil | refine .cons rfl ?_)) rfl ⟨by simp only; omega, hk', by simpa using hls, hgw, hO2', .row (by simp [numsK, hls]), by simp only; omega, hH5.perm (List.perm_middle (l₁ := MS2)).symm⟩
  · have hkn : k = n := by omega
    subst hkn
    have hhs : hs = hsL (mkS by_ k) := by
      refine ext_getD (a := 0) (by rw [hsL_len, hlen, hhl]) fun i hi => ?_
      rw [hhv i (by omega), hsL_get (by omega)]
      have := hmTo_all (xs := mkS by_ k) (i := i) (by omega)
      rw [hlen] at this
      exact this
    subst hhs
    repeat' (first | refine zP ?_ | refine zA ?_ | (refine zM ?_; intro _ _) | refine zX ?_ | (refine zC ?_; intro _ _ _ _) | (refine zS ?_; intro _ _) | (apply Ws <;> intro hg))
    exact Ends.ret2 rfl rfl ⟨vs, vh, MS, MH, n1, rfl, hOs, hOh, hn1, (hH.perm (M' := (n0, .row 24 0 0 (numsK .u8 (x :: by_))) :: (MS ++ (MH ++ M))) (by classical exact List.perm_iff_count.2 (fun a => by simp only [defds, List.map_cons, List.map_nil, List.count_append, List.count_cons, List.count_nil, List.cons_append, List.nil_append, List.append_nil]; omega))).tail⟩
end
end Go.Proofs.YtcfffhkabhmkmaaDoor.Ps

/- Bits of numbers; sets as lists. -/
namespace Go.Abs
set_option linter.unusedSectionVars false
open Go
section
variable [Globs] {C : CW} {nt : Nat} {L : Env} {D : List Nat} {H : Heap} {K : St → Prop} {M M' : HL} {n : Nat} {gd : Option (Tmp × Bool)} {lo : List Nat} {l : List POp}
theorem OpV.idxG {x ix : Operand} {k : FloatKind} {g o m n sz : Nat} {kd : IntKind} (hx : ev L x = some (.complex k g o)) (hi : ev L ix = some (.int kd (m : Int))) (hm : m < n) : OpV C (.idxA x ix n sz) L H (.complex k g (o + m * sz)) H := fun t ht => by
  have e1 : natOf (.int kd (m : Int)) = some m := rfl
  simp only [opA, ev_ok ht hx, ev_ok ht hi, oIdxA, e1, blt_of hm, cond_true]
theorem OpV.loadG {x : Operand} {k : FloatKind} {g o : Nat} {v : Value} (hx : ev L x = some (.complex k g o)) (hv : gRead g o = some v) : OpV C (.load1 x) L H v H := fun t ht => by
  simp only [opA, ev_ok ht hx, oLoad1, hv, asVal]
theorem OpV.mulK {k : IntKind} {x y : Operand} {a b c : Int} (hx : ev L x = some (.int k a)) (hy : ev L y = some (.int k b)) (hc : k.wrap (a * b) = c) : OpV C (.ibin .mul k x y) L H (.int k c) H := by
  subst hc; exact OpV.arith hx hy (by simp only [ibinA, fitI_wrap])
theorem OpV.negK {dst : Option Tmp} {x : Operand} {s ty : TypeId} {pos : String} {af : Array Edge} {g : Option (Nat × Bool)} {k : IntKind} {a c : Int} (hx : ev L x = some (.int k a)) (hc : k.wrap (0 - a) = c) :
    OpV C (.plain ⟨dst, .unOp .neg s x, ty, pos, af, g⟩) L H (.int k c) H := by
  subst hc
  refine OpV.plain (fun t ht => ?_) (fun t ht => by simp [Op.operands, ev_ok ht hx, plainV, plain1]) rfl
  have e2 : pureRun C.c.P (Op.unary .neg (.int k a)) = some (.int k (k.wrap (0 - a))) := rfl
  simp only [pureNext, execOp, ev_ok ht hx, pureRun_bind, e2, Option.bind_some]
  rfl
end
end Go.Abs
namespace Go.Proofs.YtcfffhkabhmkmaaDoor.Ps
open Go Go.Abs Go.Mth
set_option linter.unusedVariables false
set_option linter.unusedSimpArgs false
theorem u64k : C.c.P.underlying 72 = some (.int .u64) := by kernel_rfl
theorem wrapI (z : Int) : IntKind.u64.wrap z = z % 18446744073709551616 := by
  simp [IntKind.wrap, IntKind.bits, IntKind.signed]
theorem wrapU (r : Nat) : IntKind.u64.wrap (r : Int) = ((r % 2 ^ 64 : Nat) : Int) := by
  rw [wrapI]; omega
def brT : List Nat := [0, 1, 56, 2, 57, 49, 28, 3, 61, 58, 42, 50, 38, 29, 17, 4, 62, 47, 59, 36, 45, 43, 51, 22, 53, 39, 33, 30, 24, 18, 12, 5, 63, 55, 48, 27, 60, 41, 37, 16, 46, 35, 44, 21, 52, 32, 23, 11, 54, 26, 40, 15, 34, 20, 31, 10, 25, 14, 19, 9, 13, 8, 7, 6]
theorem gread_br {m : Nat} (h : m < 64) : gRead 1 (0 + m * 1) = some (.int .u8 ((brT.getD m 0 : Nat) : Int)) := by
  have e : (numsK .u8 brT)[0 + m * 1]? = some (.int .u8 ((brT.getD m 0 : Nat) : Int)) := by
    rw [Nat.zero_add, Nat.mul_one]
    exact nodes_get (by simpa [brT] using h)
  show (match (numsK .u8 brT)[0 + m * 1]? with | some v => bif plain1 v then some v else none | none => none) = _
  rw [e]; rfl
def ngN (s : Nat) : Nat := (2 ^ 64 - s) % 2 ^ 64
def tzI (s : Nat) : Nat := ((s &&& ngN s) * 285870213051353865 % 2 ^ 64) >>> 58
theorem tz_ok : ∀ s, s < 1024 → s ≠ 0 → tzI s < 64 ∧ plcL s 10 = brT.getD (tzI s) 0 :: plcL (s &&& (s - 1)) 10 ∧ (s &&& (s - 1)) < s := by decide +kernel
theorem plcL_zero : plcL 0 10 = [] := by decide
def pc1 (x : Nat) : Nat := ((x >>> 1) &&& 6148914691236517205) + (x &&& 6148914691236517205)
def pc2 (x : Nat) : Nat := ((x >>> 2) &&& 3689348814741910323) + (x &&& 3689348814741910323)
def pc3 (x : Nat) : Nat := ((x >>> 4) + x) &&& 1085102592571150095
def pcS (k x : Nat) : Nat := x + (x >>> k)
def pcA (x : Nat) : Nat := pcS 32 (pcS 16 (pcS 8 (pc3 (pc2 (pc1 x))))) &&& 127
theorem pop_ok : ∀ x, x < 1024 → pcA x = (plcL x 10).length := by decide +kernel
attribute [local irreducible] gOK WS WC WR WD Ends FS YS OpV seqK blockK loopK midK retK rdK asgK rangeEnd sat Cell
theorem pop_fs {x : Nat} (hx : x < 1024) (H : Heap) : FS C 48 [.int .u64 (x : Int)] H (fun e H' => e = .int .i64 ((plcL x 10).length : Int) ∧ H' = H) := by
  have hsh : ∀ a k : Nat, a >>> k ≤ a := fun a k => Nat.shiftRight_le a k
  have hand : ∀ a b : Nat, a &&& b ≤ a := fun a b => Nat.and_le_left
  refine FS.intro (pf := pf48) rfl rfl rfl ?_
  repeat' (first | refine zP ?_ | refine zA ?_ | (refine zM ?_; intro _ _) | refine zX ?_ | (refine zC ?_; intro _ _ _ _) | (refine zS ?_; intro _ _) | (apply Ws <;> intro hg))
  refine WR.op (by first | exact gN | exact gS rfl) rfl (OpV.shrN (m := 1) rfl rfl (by decide)) ?_
  refine WR.op (by first | exact gN | exact gS rfl) rfl (OpV.andN (b := 6148914691236517205) rfl rfl (by show x >>> 1 < 2 ^ 64; have := hsh x 1; omega) (by decide)) ?_
  repeat' (first | refine zP ?_ | refine zA ?_ | (refine zM ?_; intro _ _) | refine zX ?_ | (refine zC ?_; intro _ _ _ _) | (refine zS ?_; intro _ _) | (apply Ws <;> intro hg))
  refine WR.op (by first | exact gN | exact gS rfl) rfl (OpV.andN (b := 6148914691236517205) rfl rfl (by show x < 2 ^ 64; omega) (by decide)) ?_
  refine WR.op (by first | exact gN | exact gS rfl) rfl (OpV.addN rfl rfl (by show _ < 2 ^ 64; have := hsh x 1; have := hand (x >>> 1) 6148914691236517205; have := hand x 6148914691236517205; omega)) ?_
  have b1 : pc1 x < 2048 := by unfold pc1; have := hsh x 1; have := hand (x >>> 1) 6148914691236517205; have := hand x 6148914691236517205; omega
  have e0 := pop_ok x hx
  rw [show ((x >>> 1) &&& 6148914691236517205) + (x &&& 6148914691236517205) = pc1 x from rfl]
  unfold pcA at e0
  obtain ⟨y, hy⟩ : ∃ y, pc1 x = y := ⟨_, rfl⟩
  rw [hy] at b1 e0 ⊢
  repeat' (first | refine zP ?_ | refine zA ?_ | (refine zM ?_; intro _ _) | refine zX ?_ | (refine zC ?_; intro _ _ _ _) | (refine zS ?_; intro _ _) | (apply Ws <;> intro hg))
  refine WR.op (by first | exact gN | exact gS rfl) rfl (OpV.shrN (m := 2) rfl rfl (by decide)) ?_
  refine WR.op (by first | exact gN | exact gS rfl) rfl (OpV.andN (b := 3689348814741910323) rfl rfl (by show y >>> 2 < 2 ^ 64; have := hsh y 2; omega) (by decide)) ?_
  repeat' (first | refine zP ?_ | refine zA ?_ | (refine zM ?_; intro _ _) | refine zX ?_ | (refine zC ?_; intro _ _ _ _) | (refine zS ?_; intro _ _) | (apply Ws <;> intro hg))
  refine WR.op (by first | exact gN | exact gS rfl) rfl (OpV.andN (b := 3689348814741910323) rfl rfl (by show y < 2 ^ 64; omega) (by decide)) ?_
  refine WR.op (by first | exact gN | exact gS rfl) rfl (OpV.addN rfl rfl (by show _ < 2 ^ 64; have := hsh y 2; have := hand (y >>> 2) 3689348814741910323; have := hand y 3689348814741910323; omega)) ?_
  have b2 : pc2 y < 4096 := by unfold pc2; have := hsh y 2; have := hand (y >>> 2) 3689348814741910323; have := hand y 3689348814741910323; omega
  rw [show ((y >>> 2) &&& 3689348814741910323) + (y &&& 3689348814741910323) = pc2 y from rfl]
  obtain ⟨z, hz⟩ : ∃ z, pc2 y = z := ⟨_, rfl⟩
  rw [hz] at b2 e0 ⊢
  repeat' (first | refine zP ?_ | refine zA ?_ | (refine zM ?_; intro _ _) | refine zX ?_ | (refine zC ?_; intro _ _ _ _) | (refine zS ?_; intro _ _) | (apply Ws <;> intro hg))
  refine WR.op (by first | exact gN | exact gS rfl) rfl (OpV.shrN (m := 4) rfl rfl (by decide)) ?_
  repeat' (first | refine zP ?_ | refine zA ?_ | (refine zM ?_; intro _ _) | refine zX ?_ | (refine zC ?_; intro _ _ _ _) | (refine zS ?_; intro _ _) | (apply Ws <;> intro hg))
  refine WR.op (by first | exact gN | exact gS rfl) rfl (OpV.addN rfl rfl (by show _ < 2 ^ 64; have := hsh z 4; omega)) ?_
  refine WR.op (by first | exact gN | exact gS rfl) rfl (OpV.andN (b := 1085102592571150095) rfl rfl (by show _ < 2 ^ 64; have := hsh z 4; omega) (by decide)) ?_
  have b3 : pc3 z < 8192 := by unfold pc3; have := hsh z 4; have := hand (z >>> 4 + z) 1085102592571150095; omega
  rw [show ((z >>> 4) + z) &&& 1085102592571150095 = pc3 z from rfl]
  obtain ⟨w, hw⟩ : ∃ w, pc3 z = w := ⟨_, rfl⟩
  rw [hw] at b3 e0 ⊢
  repeat' (first | refine zP ?_ | refine zA ?_ | (refine zM ?_; intro _ _) | refine zX ?_ | (refine zC ?_; intro _ _ _ _) | (refine zS ?_; intro _ _) | (apply Ws <;> intro hg))
  refine WR.op (by first | exact gN | exact gS rfl) rfl (OpV.shrN (m := 8) rfl rfl (by decide)) ?_
  refine WR.op (by first | exact gN | exact gS rfl) rfl (OpV.addN rfl rfl (by show _ < 2 ^ 64; have := hsh w 8; omega)) ?_
  have b4 : pcS 8 w < 16384 := by unfold pcS; have := hsh w 8; omega
  rw [show w + w >>> 8 = pcS 8 w from rfl]
  obtain ⟨p, hp⟩ : ∃ p, pcS 8 w = p := ⟨_, rfl⟩
  rw [hp] at b4 e0 ⊢
  repeat' (first | refine zP ?_ | refine zA ?_ | (refine zM ?_; intro _ _) | refine zX ?_ | (refine zC ?_; intro _ _ _ _) | (refine zS ?_; intro _ _) | (apply Ws <;> intro hg))
  refine WR.op (by first | exact gN | exact gS rfl) rfl (OpV.shrN (m := 16) rfl rfl (by decide)) ?_
  refine WR.op (by first | exact gN | exact gS rfl) rfl (OpV.addN rfl rfl (by show _ < 2 ^ 64; have := hsh p 16; omega)) ?_
  have b5 : pcS 16 p < 32768 := by unfold pcS; have := hsh p 16; omega
  rw [show p + p >>> 16 = pcS 16 p from rfl]
  obtain ⟨q, hq⟩ : ∃ q, pcS 16 p = q := ⟨_, rfl⟩
  rw [hq] at b5 e0 ⊢
  repeat' (first | refine zP ?_ | refine zA ?_ | (refine zM ?_; intro _ _) | refine zX ?_ | (refine zC ?_; intro _ _ _ _) | (refine zS ?_; intro _ _) | (apply Ws <;> intro hg))
  refine WR.op (by first | exact gN | exact gS rfl) rfl (OpV.shrN (m := 32) rfl rfl (by decide)) ?_
  refine WR.op (by first | exact gN | exact gS rfl) rfl (OpV.addN rfl rfl (by show _ < 2 ^ 64; have := hsh q 32; omega)) ?_
  have b6 : pcS 32 q < 65536 := by unfold pcS; have := hsh q 32; omega
  rw [show q + q >>> 32 = pcS 32 q from rfl]
  obtain ⟨r, hr⟩ : ∃ r, pcS 32 q = r := ⟨_, rfl⟩
  rw [hr] at b6 e0 ⊢
  repeat' (first | refine zP ?_ | refine zA ?_ | (refine zM ?_; intro _ _) | refine zX ?_ | (refine zC ?_; intro _ _ _ _) | (refine zS ?_; intro _ _) | (apply Ws <;> intro hg))
  refine WR.op (by first | exact gN | exact gS rfl) rfl (OpV.conv u64k i64k rfl (c := (r : Int)) (IntWalk.i64_in _ (by omega))) ?_
  refine WR.op (by first | exact gN | exact gS rfl) rfl (OpV.andN (b := 127) rfl rfl (by show r < 2 ^ 63; omega) (by decide)) ?_
  repeat' (first | refine zP ?_ | refine zA ?_ | (refine zM ?_; intro _ _) | refine zX ?_ | (refine zC ?_; intro _ _ _ _) | (refine zS ?_; intro _ _) | (apply Ws <;> intro hg))
  exact Ends.ret1 rfl ⟨by rw [e0], rfl⟩
section
variable {M : HL} {n0 : Nat} {H : Heap} {v w : Value}
theorem OnesCount_fs {x : Nat} (hx : x < 1024) (H : Heap) : FS C 21 [.int .u64 (x : Int)] H (fun e H' => e = .int .i64 ((plcL x 10).length : Int) ∧ H' = H) := by
  refine FS.intro (pf := pf21) rfl rfl rfl ?_
  repeat' (first | refine zP ?_ | refine zA ?_ | (refine zM ?_; intro _ _) | refine zX ?_ | (refine zC ?_; intro _ _ _ _) | (refine zS ?_; intro _ _) | (apply Ws <;> intro hg))
  refine WR.call (by first | exact gN | exact gS rfl) rfl rfl (pop_fs hx _) ?_
  rintro _ _ ⟨rfl, rfl⟩
  repeat' (first | refine zP ?_ | refine zA ?_ | (refine zM ?_; intro _ _) | refine zX ?_ | (refine zC ?_; intro _ _ _ _) | (refine zS ?_; intro _ _) | (apply Ws <;> intro hg))
  exact Ends.ret1 rfl ⟨rfl, rfl⟩
theorem tz64_fs {s : Nat} (hs : s < 1024) (h0 : s ≠ 0) (H : Heap) : FS C 54 [.int .u64 (s : Int)] H (fun e H' => e = .int .i64 ((brT.getD (tzI s) 0 : Nat) : Int) ∧ H' = H) := by
  obtain ⟨h1, h2, h3⟩ := tz_ok s hs h0
  refine FS.intro (pf := pf54) rfl rfl rfl ?_
  repeat' (first | refine zP ?_ | refine zA ?_ | (refine zM ?_; intro _ _) | refine zX ?_ | (refine zC ?_; intro _ _ _ _) | (refine zS ?_; intro _ _) | refine zO ?_ | (apply Ws <;> intro hg))
  have hng : ngN s < 2 ^ 64 := Nat.mod_lt _ (by decide)
  have ha : s &&& ngN s < capK .u64 := and_cap (lt64 hs)
  have hbr : brT.getD (tzI s) 0 ≤ 255 := by
    have : ∀ i, i < 64 → brT.getD i 0 ≤ 255 := by decide
    exact this _ h1
  refine WR.op (by first | exact gN | exact gS rfl) rfl (OpV.negK rfl (c := ((ngN s : Nat) : Int)) (by rw [wrapI]; unfold ngN; omega)) ?_
  refine WR.op (by first | exact gN | exact gS rfl) rfl (OpV.andN rfl rfl (lt64 hs) hng) ?_
  refine WR.op (by first | exact gN | exact gS rfl) rfl (OpV.mulK rfl rfl (c := (((s &&& ngN s) * 285870213051353865 % 2 ^ 64 : Nat) : Int)) (by rw [show ((s &&& ngN s : Nat) : Int) * 285870213051353865 = (((s &&& ngN s) * 285870213051353865 : Nat) : Int) by omega]; exact wrapU _)) ?_
  refine WR.op (by first | exact gN | exact gS rfl) rfl (OpV.shrN (m := 58) rfl rfl (by decide)) ?_
  refine WR.op (by first | exact gN | exact gS rfl) rfl (OpV.idxG (m := tzI s) rfl rfl (by omega)) ?_
  refine WR.op (by first | exact gN | exact gS rfl) rfl (OpV.loadG rfl (gread_br h1)) ?_
  refine WR.op (by first | exact gN | exact gS rfl) rfl (OpV.conv u8k i64k rfl (c := ((brT.getD (tzI s) 0 : Nat) : Int)) (IntWalk.i64_in _ (by omega))) ?_
  repeat' (first | refine zP ?_ | refine zA ?_ | (refine zM ?_; intro _ _) | refine zX ?_ | (refine zC ?_; intro _ _ _ _) | (refine zS ?_; intro _ _) | (apply Ws <;> intro hg))
  exact Ends.ret1 rfl ⟨rfl, rfl⟩
theorem tz_fs {s : Nat} (hs : s < 1024) (h0 : s ≠ 0) (H : Heap) : FS C 30 [.int .u64 (s : Int)] H (fun e H' => e = .int .i64 ((brT.getD (tzI s) 0 : Nat) : Int) ∧ H' = H) := by
  refine FS.intro (pf := pf30) rfl rfl rfl ?_
  repeat' (first | refine zP ?_ | refine zA ?_ | (refine zM ?_; intro _ _) | refine zX ?_ | (refine zC ?_; intro _ _ _ _) | (refine zS ?_; intro _ _) | (apply Ws <;> intro hg))
  refine WR.call (by first | exact gN | exact gS rfl) rfl rfl (tz64_fs hs h0 _) ?_
  rintro _ _ ⟨rfl, rfl⟩
  repeat' (first | refine zP ?_ | refine zA ?_ | (refine zM ?_; intro _ _) | refine zX ?_ | (refine zC ?_; intro _ _ _ _) | (refine zS ?_; intro _ _) | (apply Ws <;> intro hg))
  exact Ends.ret1 rfl ⟨rfl, rfl⟩
structure KB where
  s : Nat
  done : List Nat
  v : Value
  Mx : HL
  n : Nat
theorem members_fs (hH : hasH M n0 H) {s : Nat} (hs : s < 1024) :
    FS C 9 [.int .u64 (s : Int)] H (fun e H' => ∃ Mx n', Own 3 1 e (nodes (plcL s 10)) Mx ∧ n0 ≤ n' ∧ hasH (Mx ++ M) n' H') := by
  refine FS.intro (pf := pf9) rfl rfl rfl ?_
  repeat' (first | refine zP ?_ | refine zA ?_ | (refine zM ?_; intro _ _) | refine zX ?_ | (refine zC ?_; intro _ _ _ _) | (refine zS ?_; intro _ _) | (apply Ws <;> intro hg))
  refine WC.loopX [] (fun z : KB => [(0, .int .u64 (z.s : Int)), (3, z.v)]) [] (fun z H' => z.s < 1024 ∧ z.done ++ plcL z.s 10 = plcL s 10 ∧ Own 3 1 z.v (nodes z.done) z.Mx ∧ n0 ≤ z.n ∧ hasH (z.Mx ++ M) z.n H') (fun z => z.s) ⟨s, [], .slice none 0 0, [], n0⟩ (by repeat' (first | exact .nil | refine .cons rfl ?_)) rfl ⟨hs, rfl, .nil, Nat.le_refl _, hH⟩ ?_
  clear hH
  rintro ⟨r, dn, v3, Mx, n1⟩ H1 ⟨hr, hd, hO, hn1, hH⟩
  simp only at hr hd hO hn1 hH
  have hdl : dn.length ≤ 10 := by
    have h1 := congrArg List.length hd
    have h2 := plcL_len s 10
    rw [List.length_append] at h1
    omega
  dsimp only [List.cons_append, List.nil_append]
  by_cases h0 : r = 0
  · subst h0
    rw [plcL_zero, List.append_nil] at hd
    rw [hd] at hO
    repeat' (first | refine zP ?_ | refine zA ?_ | (refine zM ?_; intro _ _) | refine zX ?_ | (refine zC ?_; intro _ _ _ _) | (refine zS ?_; intro _ _) | refine zO ?_ | (apply Ws <;> intro hg))
    exact Ends.ret1 rfl ⟨Mx, n1, hO, hn1, hH⟩
  · obtain ⟨h1, h2, h3⟩ := tz_ok r hr h0
    rw [h2] at hd
    repeat' (first | refine zP ?_ | refine zA ?_ | (refine zM ?_; intro _ _) | refine zX ?_ | (refine zC ?_; intro _ _ _ _) | (refine zS ?_; intro _ _) | refine zO ?_ | (apply Ws <;> intro hg))
    refine WR.call (by first | exact gN | exact gS rfl) rfl rfl (tz_fs hr h0 _) ?_
    rintro _ _ ⟨rfl, rfl⟩
    refine WR.append1F [] Mx M rfl rfl rfl rfl hO hH (new := [.int .i64 ((brT.getD (tzI r) 0 : Nat) : Int)]) rfl rfl rfl (Nat.le_refl _) (by decide) (by simp; omega) fun v' Mx' n' H' q1 q2 q3 => ?_
    repeat' (first | refine zP ?_ | refine zA ?_ | (refine zM ?_; intro _ _) | refine zX ?_ | (refine zC ?_; intro _ _ _ _) | (refine zS ?_; intro _ _) | (apply Ws <;> intro hg))
    refine WR.op (by first | exact gN | exact gS rfl) rfl (OpV.subK rfl rfl (c := ((r - 1 : Nat) : Int)) (by rw [wrapI]; omega)) ?_
    refine WR.op (by first | exact gN | exact gS rfl) rfl (OpV.andN rfl rfl (lt64 hr) (lt64 (by omega))) ?_
    repeat' (first | refine zP ?_ | refine zA ?_ | (refine zM ?_; intro _ _) | refine zX ?_ | (refine zC ?_; intro _ _ _ _) | (refine zS ?_; intro _ _) | (apply Ws <;> intro hg))
    refine Ends.loop ⟨r &&& (r - 1), dn ++ [brT.getD (tzI r) 0], v', Mx', n'⟩ h3 (by repeat' (first | exact .nil | refine .cons rfl ?_)) rfl ⟨by simp only; omega, by simp only; rw [← hd]; simp, ?_, by simp only; omega, q2⟩
    simp only
    rw [nodes_snoc]; exact q1
def grdS (xs : List Int) (s : Nat) : Bool := (List.range xs.length).all fun i => decide (hm xs i &&& s ≠ 0)
theorem isNone_fs (hH : hasH M n0 H) {h s b : Nat} (hh : h < 1024) (hs : s < 1024) (hm' : (b, Ch.row 29 0 0 [.int .u64 (s : Int)]) ∈ M) :
    FS C 32 ([] ++ [.int .u64 (h : Int)] ++ [ptrO b 0]) H (fun e H' => e = .bool (decide (h &&& s = 0)) ∧ H' = H) := by
  refine FS.intro (pf := pf32) rfl rfl rfl ?_
  repeat' (first | refine zP ?_ | refine zA ?_ | (refine zM ?_; intro _ _) | refine zX ?_ | (refine zC ?_; intro _ _ _ _) | (refine zS ?_; intro _ _) | (apply Ws <;> intro hg))
  refine WR.op (by first | exact gN | exact gS rfl) rfl (OpV.andN rfl rfl (lt64 hh) (lt64 hs)) ?_
  repeat' (first | refine zP ?_ | refine zA ?_ | (refine zM ?_; intro _ _) | refine zX ?_ | (refine zC ?_; intro _ _ _ _) | (refine zS ?_; intro _ _) | (apply Ws <;> intro hg))
  exact Ends.ret1 rfl ⟨by congr 1; rw [decide_eq_decide]; omega, rfl⟩
theorem guardsS_fs (hH : hasH M n0 H) {xs : List Int} (h10 : xs.length ≤ 10) (hS : Sl M 1 v (numsK .u64 (hsL xs))) {s : Nat} (hs : s < 1024) :
    FS C 10 [v, .int .u64 (s : Int)] H (fun e H' => e = .bool (grdS xs s) ∧ hasH M (n0 + 1) H') := by
  have hv := hS.one_
  have hl := hsL_len xs
  have hIdx : ∀ {H1 : Heap}, hasH ((n0, Ch.row 29 0 0 [.int .u64 (s : Int)]) :: M) (n0 + 1) H1 → FS C 55 [v, .func (.func 32) [].toArray [ptrO n0 0].toArray] H1 (fun e H' => e = .int .i64 (if grdS xs s = true then -1 else 0) ∧ H' = H1 ∨ (∃ k : Nat, e = .int .i64 (k : Int) ∧ grdS xs s = false ∧ H' = H1)) := by
    intro H1 hH1
    have hS1 := hS.cons (p := (n0, Ch.row 29 0 0 [.int .u64 (s : Int)]))
    refine FS.intro (pf := pf55) rfl rfl rfl ?_
    repeat' (first | refine zP ?_ | refine zA ?_ | (refine zM ?_; intro _ _) | refine zX ?_ | (refine zC ?_; intro _ _ _ _) | (refine zS ?_; intro _ _) | (apply Ws <;> intro hg))
    refine WC.loopX [(0, v), (1, _), (6, v), (7, _)] (fun k : Nat => [(8, .int .i64 (k : Int))]) [] (fun k H' => H' = H1 ∧ k ≤ xs.length ∧ ∀ i, i < k → hm xs i &&& s ≠ 0) (fun k => xs.length - k) 0 (by repeat' (first | exact .nil | refine .cons rfl ?_)) rfl ⟨rfl, Nat.zero_le _, fun i h => absurd h (Nat.not_lt_zero _)⟩ ?_
    rintro k H' ⟨rfl, hk, hall⟩
    dsimp only [List.cons_append, List.nil_append]
    repeat' (first | refine zP ?_ | refine zA ?_ | (refine zM ?_; intro _ _) | refine zX ?_ | (refine zC ?_; intro _ _ _ _) | (refine zS ?_; intro _ _) | (apply Ws <;> intro hg))
    refine WC.condP rfl (fun hlt => ?_) (fun hlt => ?_)
    · have hk' : k < xs.length := by omega
      have hg := hsL_get hk'
      have hb := hm_lt10 h10 k
      repeat' (first | refine zP ?_ | refine zA ?_ | (refine zM ?_; intro _ _) | refine zX ?_ | (refine zC ?_; intro _ _ _ _) | (refine zS ?_; intro _ _) | (apply Ws <;> intro hg))
      rw [hg]
      refine WR.callV (by first | exact gN | exact gS rfl) rfl rfl rfl (isNone_fs hH1 hb hs (.head _)) ?_
      rintro _ _ ⟨rfl, rfl⟩
      by_cases h0 : hm xs k &&& s = 0
      · rw [decide_eq_true h0]
        repeat' (first | refine zP ?_ | refine zA ?_ | (refine zM ?_; intro _ _) | refine zX ?_ | (refine zC ?_; intro _ _ _ _) | (refine zS ?_; intro _ _) | (apply Ws <;> intro hg))
        refine Ends.ret1 rfl (.inr ⟨k, rfl, ?_, rfl⟩)
        cases hgs : grdS xs s with
        | false => rfl
        | true =>
          have := List.all_eq_true.1 hgs k (List.mem_range.2 hk')
          exact absurd h0 (of_decide_eq_true this)
      · rw [decide_eq_false h0]
        repeat' (first | refine zP ?_ | refine zA ?_ | (refine zM ?_; intro _ _) | refine zX ?_ | (refine zC ?_; intro _ _ _ _) | (refine zS ?_; intro _ _) | (apply Ws <;> intro hg))
        refine Ends.loop (k + 1) (by omega) (by repeat' (first | exact .nil | refine .cons rfl ?_)) rfl ⟨rfl, hk', fun i hi => ?_⟩
        by_cases e : i = k
        · rw [e]; exact h0
        · exact hall i (by omega)
    · have hkl : k = xs.length := by omega
      subst hkl
      have hgs : grdS xs s = true := List.all_eq_true.2 fun i hi => decide_eq_true (hall i (List.mem_range.1 hi))
      repeat' (first | refine zP ?_ | refine zA ?_ | (refine zM ?_; intro _ _) | refine zX ?_ | (refine zC ?_; intro _ _ _ _) | (refine zS ?_; intro _ _) | (apply Ws <;> intro hg))
      exact Ends.ret1 rfl (.inl ⟨by rw [hgs, if_pos rfl], rfl⟩)
  have hCon : ∀ {H1 : Heap}, hasH ((n0, Ch.row 29 0 0 [.int .u64 (s : Int)]) :: M) (n0 + 1) H1 → FS C 31 [v, .func (.func 32) [].toArray [ptrO n0 0].toArray] H1 (fun e H' => e = .bool (!grdS xs s) ∧ H' = H1) := by
    intro H1 hH1
    refine FS.intro (pf := pf31) rfl rfl rfl ?_
    repeat' (first | refine zP ?_ | refine zA ?_ | (refine zM ?_; intro _ _) | refine zX ?_ | (refine zC ?_; intro _ _ _ _) | (refine zS ?_; intro _ _) | (apply Ws <;> intro hg))
    refine WR.call (by first | exact gN | exact gS rfl) rfl rfl (hIdx hH1) ?_
    rintro _ _ (⟨rfl, rfl⟩ | ⟨k, rfl, hg, rfl⟩)
    · cases hg : grdS xs s with
      | true =>
        repeat' (first | refine zP ?_ | refine zA ?_ | (refine zM ?_; intro _ _) | refine zX ?_ | (refine zC ?_; intro _ _ _ _) | (refine zS ?_; intro _ _) | (apply Ws <;> intro hg))
        exact Ends.ret1 rfl ⟨by simp, rfl⟩
      | false =>
        repeat' (first | refine zP ?_ | refine zA ?_ | (refine zM ?_; intro _ _) | refine zX ?_ | (refine zC ?_; intro _ _ _ _) | (refine zS ?_; intro _ _) | (apply Ws <;> intro hg))
        exact Ends.ret1 rfl ⟨by simp, rfl⟩
    · rw [hg]
      repeat' (first | refine zP ?_ | refine zA ?_ | (refine zM ?_; intro _ _) | refine zX ?_ | (refine zC ?_; intro _ _ _ _) | (refine zS ?_; intro _ _) | (apply Ws <;> intro hg))
      exact Ends.ret1 rfl ⟨by simp, rfl⟩
  refine FS.intro (pf := pf10) rfl rfl rfl ?_
  repeat' (first | refine zP ?_ | refine zA ?_ | (refine zM ?_; intro _ _) | refine zX ?_ | (refine zC ?_; intro _ _ _ _) | (refine zS ?_; intro _ _) | (apply Ws <;> intro hg))
  rename_i H1 hH1
  refine WR.call (by first | exact gN | exact gS rfl) rfl rfl (hCon hH1) ?_
  rintro _ _ ⟨rfl, rfl⟩
  cases hg : grdS xs s with
  | true =>
    repeat' (first | refine zP ?_ | refine zA ?_ | (refine zM ?_; intro _ _) | refine zX ?_ | (refine zC ?_; intro _ _ _ _) | (refine zS ?_; intro _ _) | (apply Ws <;> intro hg))
    exact Ends.ret1 rfl ⟨by simp, hH1.tail⟩
  | false =>
    repeat' (first | refine zP ?_ | refine zA ?_ | (refine zM ?_; intro _ _) | refine zX ?_ | (refine zC ?_; intro _ _ _ _) | (refine zS ?_; intro _ _) | (apply Ws <;> intro hg))
    exact Ends.ret1 rfl ⟨by simp, hH1.tail⟩
theorem plcL_lt {s x : Nat} (h : x ∈ plcL s 10) : x < 10 ∧ s.testBit x = true := by
  have := List.mem_filter.1 h
  exact ⟨List.mem_range.1 this.1, this.2⟩
end
end Go.Proofs.YtcfffhkabhmkmaaDoor.Ps

/- The lists that cost the least, one after the other. -/
namespace Go.Proofs.YtcfffhkabhmkmaaDoor.Ps
open Go Go.Abs Go.Mth
set_option linter.unusedVariables false
set_option linter.unusedSimpArgs false
theorem snocInd {α : Type} {P : List α → Prop} (h0 : P []) (h1 : ∀ l x, P l → P (l ++ [x])) (l : List α) : P l := by
  have : ∀ r : List α, P r.reverse := by
    intro r
    induction r with
    | nil => exact h0
    | cons x r ih => rw [List.reverse_cons]; exact h1 _ _ ih
  have h := this l.reverse
  rwa [List.reverse_reverse] at h
theorem bestF_inv (c : List Nat → Int) (zs : List (List Nat)) : (zs = [] ∧ bestF c zs = ([], 0)) ∨ ((∀ z ∈ zs, (bestF c zs).2 ≤ c z) ∧ (bestF c zs).1 = zs.filter (fun z => decide (c z = (bestF c zs).2)) ∧ (bestF c zs).1 ≠ []) := by
  refine snocInd (P := fun zs => (zs = [] ∧ bestF c zs = ([], 0)) ∨ ((∀ z ∈ zs, (bestF c zs).2 ≤ c z) ∧ (bestF c zs).1 = zs.filter (fun z => decide (c z = (bestF c zs).2)) ∧ (bestF c zs).1 ≠ [])) (.inl ⟨rfl, rfl⟩) (fun l x ih => ?_) zs
  right
  rw [bestF_snoc]
  rcases ih with ⟨rfl, h⟩ | ⟨h1, h2, h3⟩
  · rw [h]
    simp [bestS]
  · obtain ⟨B, m, hb⟩ : ∃ B m, bestF c l = (B, m) := ⟨_, _, rfl⟩
    rw [hb] at h1 h2 h3 ⊢
    simp only at h1 h2 h3
    unfold bestS
    simp only
    by_cases hc : c x < m
    · rw [if_pos (.inr hc)]
      refine ⟨fun z hz => ?_, ?_, by simp⟩
      · rcases List.mem_append.1 hz with hz | hz
        · have := h1 z hz; simp only; omega
        · rw [List.mem_singleton.1 hz]; exact Int.le_refl _
      · simp only
        rw [List.filter_append, List.filter_eq_nil_iff.2 fun z hz => by have := h1 z hz; simp; omega]
        simp
    · rw [if_neg (by rintro (h | h); exact h3 h; exact hc h)]
      by_cases he : c x = m
      · rw [if_pos he]
        refine ⟨fun z hz => ?_, ?_, by simp⟩
        · rcases List.mem_append.1 hz with hz | hz
          · exact h1 z hz
          · rw [List.mem_singleton.1 hz]; simp only; omega
        · simp only
          rw [List.filter_append, List.filter_cons_of_pos (by simpa using he), ← h2]; rfl
      · rw [if_neg he]
        refine ⟨fun z hz => ?_, ?_, h3⟩
        · rcases List.mem_append.1 hz with hz | hz
          · exact h1 z hz
          · rw [List.mem_singleton.1 hz]; simp only; omega
        · simp only
          rw [List.filter_append, List.filter_cons_of_neg (by simpa using he), ← h2]; simp
theorem sumZ_len (z : List Nat) : sumZ (fun _ => 1) z = (z.length : Int) := by
  induction z with
  | nil => rfl
  | cons x z ih => have : sumZ (fun _ => 1) (x :: z) = 1 + sumZ (fun _ => 1) z := by simp [sumZ]
                   rw [this, ih, List.length_cons]; omega
theorem sumZ_neg (z : List Nat) : sumZ (fun _ => -1) z = -(z.length : Int) := by
  induction z with
  | nil => rfl
  | cons x z ih => have : sumZ (fun _ => -1) (x :: z) = -1 + sumZ (fun _ => -1) z := by simp [sumZ]
                   rw [this, ih, List.length_cons]; omega
def fstB (c : List Nat → Int) (zs : List (List Nat)) : List Nat := (bestF c zs).1.getD 0 []
theorem bestF_all {c : List Nat → Int} {zs : List (List Nat)} {z : List Nat} (h : z ∈ (bestF c zs).1) : z ∈ zs ∧ c z = (bestF c zs).2 := by
  rcases bestF_inv c zs with ⟨rfl, h1⟩ | ⟨_, h2, _⟩
  · rw [h1] at h; cases h
  · rw [h2] at h
    have := List.mem_filter.1 h
    exact ⟨this.1, by simpa using this.2⟩
theorem fstB_mem {c : List Nat → Int} {zs : List (List Nat)} (h : zs ≠ []) : fstB c zs ∈ (bestF c zs).1 := by
  unfold fstB
  exact getD_mem (List.length_pos_iff.2 (bestF_ne h))
theorem fstB_cost {c : List Nat → Int} {zs : List (List Nat)} (h : zs ≠ []) : c (fstB c zs) = (bestF c zs).2 := (bestF_all (fstB_mem h)).2
theorem bestF_le {c : List Nat → Int} {zs : List (List Nat)} {z : List Nat} (h : z ∈ zs) : (bestF c zs).2 ≤ c z := by
  rcases bestF_inv c zs with ⟨rfl, h1⟩ | ⟨h1, _, _⟩
  · cases h
  · exact h1 z h
end Go.Proofs.YtcfffhkabhmkmaaDoor.Ps

/- As few posts guard as places can be apart; at most half of the places; a place more. -/
namespace Go.Proofs.YtcfffhkabhmkmaaDoor.Ps
open Go Go.Abs Go.Mth
set_option linter.unusedVariables false
set_option linter.unusedSimpArgs false
def selL (n : Nat) (f : Nat → Bool) : List Nat := (List.range n).filter f
def cnt (n : Nat) (f : Nat → Bool) : Nat := (selL n f).length
theorem selL_asc (n : Nat) (f : Nat → Bool) : AscN n (selL n f) := ⟨List.pairwise_lt_range.sublist List.filter_sublist, fun x hx => List.mem_range.1 (List.mem_filter.1 hx).1⟩
theorem mem_selL {n : Nat} {f : Nat → Bool} {x : Nat} : x ∈ selL n f ↔ x < n ∧ f x = true := by simp [selL]
theorem cnt_succ (n : Nat) (f : Nat → Bool) : cnt (n + 1) f = cnt n f + if f n = true then 1 else 0 := by
  unfold cnt selL
  rw [List.range_succ, List.filter_append, List.length_append]
  by_cases h : f n = true
  · rw [if_pos h, List.filter_cons_of_pos h]; rfl
  · rw [if_neg h, List.filter_cons_of_neg h]; rfl
theorem cnt_or {f : Nat → Bool} {p : Nat} : ∀ {n : Nat}, cnt n (fun x => f x || decide (x = p)) ≤ cnt n f + 1 ∧ (n ≤ p → cnt n (fun x => f x || decide (x = p)) = cnt n f)
  | 0 => by simp [cnt, selL]
  | n + 1 => by
    obtain ⟨h1, h2⟩ := cnt_or (f := f) (p := p) (n := n)
    rw [cnt_succ, cnt_succ]
    by_cases e : n = p
    · have := h2 (by omega)
      rw [this]
      refine ⟨?_, fun h => by omega⟩
      split <;> split <;> omega
    · have e2 : (f n || decide (n = p)) = f n := by simp [e]
      rw [e2]
      refine ⟨by omega, fun h => by rw [h2 (by omega)]⟩
theorem asc_sel {n : Nat} {l : List Nat} (h : AscN n l) : l = selL n (fun x => decide (x ∈ l)) := by
  have hs := selL_asc n fun x => decide (x ∈ l)
  have key : ∀ {a b : List Nat}, a.Pairwise (· < ·) → b.Pairwise (· < ·) → (∀ x, x ∈ a ↔ x ∈ b) → a = b := by
    intro a
    induction a with
    | nil =>
      intro b _ _ hm
      cases b with
      | nil => rfl
      | cons y b => exact absurd ((hm y).2 (by simp)) (by simp)
    | cons x a ih =>
      intro b h1 h2 hm
      cases b with
      | nil => exact absurd ((hm x).1 (by simp)) (by simp)
      | cons y b =>
        obtain ⟨k1, k2⟩ := List.pairwise_cons.1 h1
        obtain ⟨k3, k4⟩ := List.pairwise_cons.1 h2
        have hxy : x = y := by
          rcases List.mem_cons.1 ((hm x).1 (by simp)) with e | e
          · exact e
          · rcases List.mem_cons.1 ((hm y).2 (by simp)) with e2 | e2
            · exact e2.symm
            · have := k3 x e; have := k1 y e2; omega
        subst hxy
        rw [ih k2 k4 fun z => ?_]
        constructor
        · intro hz
          rcases List.mem_cons.1 ((hm z).1 (by simp [hz])) with e | e
          · have := k1 z hz; omega
          · exact e
        · intro hz
          rcases List.mem_cons.1 ((hm z).2 (by simp [hz])) with e | e
          · have := k3 z hz; omega
          · exact e
  refine key h.asc hs.asc fun x => ?_
  rw [mem_selL, decide_eq_true_eq]
  exact ⟨fun hx => ⟨h.lt x hx, hx⟩, fun hx => hx.2⟩
def few (xs : List Int) : List Nat := (fewB xs).getD 0 []
def far (xs : List Int) : List Nat := (aptB xs).getD 0 []
theorem few_mem (xs : List Int) : few xs ∈ grdL xs := (bestF_all (fstB_mem (grdL_ne xs))).1
theorem far_mem (xs : List Int) : far xs ∈ aptL xs := (bestF_all (fstB_mem (aptL_ne xs))).1
theorem few_grd (xs : List Int) : AscN xs.length (few xs) ∧ grd xs (few xs) = true := ⟨grdL_asc _ (few_mem xs), (List.mem_filter.1 (few_mem xs)).2⟩
theorem far_apt (xs : List Int) : AscN xs.length (far xs) ∧ apt xs (far xs) = true := ⟨aptL_asc _ (far_mem xs), (List.mem_filter.1 (far_mem xs)).2⟩
theorem few_le {xs : List Int} {z : List Nat} (h : AscN xs.length z) (hg : grd xs z = true) : (few xs).length ≤ z.length := by
  have h1 := bestF_le (c := sumZ fun _ => 1) (zs := grdL xs) (z := z) (List.mem_filter.2 ⟨mem_allA.2 h, hg⟩)
  have h2 := fstB_cost (c := sumZ fun _ => 1) (grdL_ne xs)
  have e : fstB (sumZ fun _ => 1) (grdL xs) = few xs := rfl
  rw [← h2, e, sumZ_len, sumZ_len] at h1
  omega
theorem far_ge {xs : List Int} {z : List Nat} (h : AscN xs.length z) (hg : apt xs z = true) : z.length ≤ (far xs).length := by
  have h1 := bestF_le (c := sumZ fun _ => -1) (zs := aptL xs) (z := z) (List.mem_filter.2 ⟨mem_allA.2 h, hg⟩)
  have h2 := fstB_cost (c := sumZ fun _ => -1) (aptL_ne xs)
  have e : fstB (sumZ fun _ => -1) (aptL xs) = far xs := rfl
  rw [← h2, e, sumZ_neg, sumZ_neg] at h1
  omega
end Go.Proofs.YtcfffhkabhmkmaaDoor.Ps

/- Sets by numbers are lists of places; the first of the best lists. -/
namespace Go.Proofs.YtcfffhkabhmkmaaDoor.Ps
open Go Go.Abs Go.Mth
set_option linter.unusedVariables false
set_option linter.unusedSimpArgs false
def ordN (l m : List Nat) : Prop := l.length < m.length ∨ (l.length = m.length ∧ lexN l m)
instance ordN_dec (l m : List Nat) : Decidable (ordN l m) := by unfold ordN; infer_instance
theorem ordN_irr (l : List Nat) : ¬ ordN l l := by
  rintro (h | ⟨_, h⟩)
  · exact Nat.lt_irrefl _ h
  · exact lexN_irr l h
theorem ordN_tri {l m : List Nat} (h : l ≠ m) : ordN l m ∨ ordN m l := by
  rcases Nat.lt_trichotomy l.length m.length with e | e | e
  · exact .inl (.inl e)
  · rcases lexN_tri h with k | k
    · exact .inl (.inr ⟨e, k⟩)
    · exact .inr (.inr ⟨e.symm, k⟩)
  · exact .inr (.inl e)
theorem lexN_trans : ∀ {a b c : List Nat}, lexN a b → lexN b c → lexN a c := fun {a b c} h1 h2 => lexN_C.1 (lex_trans _ _ _ (lexN_C.2 h1) (lexN_C.2 h2))
theorem ordN_trans {a b c : List Nat} (h1 : ordN a b) (h2 : ordN b c) : ordN a c := by
  rcases h1 with h1 | ⟨h1, h3⟩ <;> rcases h2 with h2 | ⟨h2, h4⟩
  · exact .inl (by omega)
  · exact .inl (by omega)
  · exact .inl (by omega)
  · exact .inr ⟨by omega, lexN_trans h3 h4⟩
def lonN (l m : List Nat) : Prop := m.length < l.length ∨ (l.length = m.length ∧ lexN l m)
instance lonN_dec (l m : List Nat) : Decidable (lonN l m) := by unfold lonN; infer_instance
theorem lonN_irr (l : List Nat) : ¬ lonN l l := by
  rintro (h | ⟨_, h⟩)
  · exact Nat.lt_irrefl _ h
  · exact lexN_irr l h
theorem lonN_tri {l m : List Nat} (h : l ≠ m) : lonN l m ∨ lonN m l := by
  rcases Nat.lt_trichotomy l.length m.length with e | e | e
  · exact .inr (.inl e)
  · rcases lexN_tri h with k | k
    · exact .inl (.inr ⟨e, k⟩)
    · exact .inr (.inr ⟨e.symm, k⟩)
  · exact .inl (.inl e)
theorem lonN_trans {a b c : List Nat} (h1 : lonN a b) (h2 : lonN b c) : lonN a c := by
  rcases h1 with h1 | ⟨h1, h3⟩ <;> rcases h2 with h2 | ⟨h2, h4⟩
  · exact .inl (by omega)
  · exact .inl (by omega)
  · exact .inl (by omega)
  · exact .inr ⟨by omega, lexN_trans h3 h4⟩
theorem fst_least {c : List Nat → Int} {zs : List (List Nat)} (hs : zs.Pairwise lexN) {z : List Nat} (hz : z ∈ zs) (hc : c z = (bestF c zs).2) : z = fstB c zs ∨ lexN (fstB c zs) z := by
  rcases bestF_inv c zs with ⟨rfl, _⟩ | ⟨_, h2, h3⟩
  · cases hz
  · have hm : z ∈ (bestF c zs).1 := by rw [h2]; exact List.mem_filter.2 ⟨hz, by simpa using hc⟩
    have hp : (bestF c zs).1.Pairwise lexN := by rw [h2]; exact hs.sublist List.filter_sublist
    unfold fstB
    cases hB : (bestF c zs).1 with
    | nil => exact absurd hB h3
    | cons b B =>
      rw [hB] at hm hp
      rcases List.mem_cons.1 hm with e | e
      · exact .inl e
      · exact .inr ((List.pairwise_cons.1 hp).1 z e)
theorem few_first {xs : List Int} {z : List Nat} (h : AscN xs.length z) (hg : grd xs z = true) : ¬ ordN z (few xs) := by
  have hz : z ∈ grdL xs := List.mem_filter.2 ⟨mem_allA.2 h, hg⟩
  have hs : (grdL xs).Pairwise lexN := (allA_sorted _).sublist List.filter_sublist
  have hle := few_le h hg
  have h2 := fstB_cost (c := sumZ fun _ => 1) (grdL_ne xs)
  have e : fstB (sumZ fun _ => 1) (grdL xs) = few xs := rfl
  rw [e, sumZ_len] at h2
  rintro (hl | ⟨hl, hx⟩)
  · omega
  · rcases fst_least (c := sumZ fun _ => 1) hs hz (by rw [sumZ_len, ← h2, hl]) with k | k
    · rw [e] at k; rw [k] at hx; exact lexN_irr _ hx
    · rw [e] at k; exact lexN_asym hx k
theorem far_first {xs : List Int} {z : List Nat} (h : AscN xs.length z) (hg : apt xs z = true) : ¬ lonN z (far xs) := by
  have hz : z ∈ aptL xs := List.mem_filter.2 ⟨mem_allA.2 h, hg⟩
  have hs : (aptL xs).Pairwise lexN := (allA_sorted _).sublist List.filter_sublist
  have hle := far_ge h hg
  have h2 := fstB_cost (c := sumZ fun _ => -1) (aptL_ne xs)
  have e : fstB (sumZ fun _ => -1) (aptL xs) = far xs := rfl
  rw [e, sumZ_neg] at h2
  rintro (hl | ⟨hl, hx⟩)
  · omega
  · rcases fst_least (c := sumZ fun _ => -1) hs hz (by rw [sumZ_neg, ← h2, hl]) with k | k
    · rw [e] at k; rw [k] at hx; exact lexN_irr _ hx
    · rw [e] at k; exact lexN_asym hx k
/-! Sets. -/
theorem plcL_sel (s : Nat) : plcL s 10 = selL 10 s.testBit := rfl
theorem set_lt {n s x : Nat} (hs : s < 2 ^ n) (h : s.testBit x = true) : x < n := by
  refine Nat.lt_of_not_le fun hc => ?_
  have := Nat.testBit_lt_two_pow (Nat.lt_of_lt_of_le hs (Nat.pow_le_pow_right (by omega) hc))
  rw [h] at this; cases this
theorem plcL_asc {n s : Nat} (hs : s < 2 ^ n) : AscN n (plcL s 10) := ⟨(selL_asc 10 s.testBit).asc, fun x hx => set_lt hs (plcL_lt hx).2⟩
theorem plcL_mem {n s x : Nat} (hn : n ≤ 10) (hs : s < 2 ^ n) : x ∈ plcL s 10 ↔ s.testBit x = true := by
  rw [plcL_sel, mem_selL]
  exact ⟨fun h => h.2, fun h => ⟨by have := set_lt hs h; omega, h⟩⟩
theorem plcL_mask {n : Nat} (hn : n ≤ 10) {z : List Nat} (h : AscN n z) : maskN z < 2 ^ n ∧ plcL (maskN z) 10 = z := by
  have h1 := mask_lt h.lt
  refine ⟨h1, ?_⟩
  have h10 : AscN 10 z := ⟨h.asc, fun x hx => by have := h.lt x hx; omega⟩
  rw [plcL_sel]
  refine Eq.trans ?_ (asc_sel h10).symm
  unfold selL
  refine List.filter_congr fun x hx => ?_
  rw [Bool.eq_iff_iff, decide_eq_true_eq, mask_bit]
theorem grdS_iff {xs : List Int} {s : Nat} (hn : xs.length ≤ 10) (hs : s < 2 ^ xs.length) : grdS xs s = grd xs (plcL s 10) := by
  rw [Bool.eq_iff_iff, grd_iff]
  unfold grdS
  rw [List.all_eq_true]
  constructor
  · intro h i hi
    have h1 := of_decide_eq_true (h i (List.mem_range.2 hi))
    refine Classical.byContradiction fun hc => h1 (and_zero.2 fun j hj => hc ⟨j, (plcL_mem hn hs).2 hj.2, ?_⟩)
    rw [adj_comm]; exact (hm_bit.1 hj.1).2
  · intro h i hi
    have hi' := List.mem_range.1 hi
    obtain ⟨p, hp, ha⟩ := h i hi'
    refine decide_eq_true fun h0 => and_zero.1 h0 p ⟨hm_bit.2 ⟨(plcL_asc hs).lt p hp, by rw [adj_comm]; exact ha⟩, (plcL_mem hn hs).1 hp⟩
def FewI (xs : List Int) (k : Nat) (fw : List Nat) (fo : Bool) : Prop := (fo = false ∧ fw = [] ∧ ∀ s, s < k → grdS xs s = false) ∨ (fo = true ∧ (∃ s, s < k ∧ grdS xs s = true ∧ fw = plcL s 10) ∧ ∀ s, s < k → grdS xs s = true → ¬ ordN (plcL s 10) fw)
def ManI (xs : List Int) (k : Nat) (mn : List Nat) : Prop := (mn = [] ∨ ∃ s, s < k ∧ apt xs (plcL s 10) = true ∧ mn = plcL s 10) ∧ ∀ s, s < k → apt xs (plcL s 10) = true → ¬ lonN (plcL s 10) mn
theorem FewI.keep {xs : List Int} {k : Nat} {fw : List Nat} {fo : Bool} (h : FewI xs k fw fo) (hn : grdS xs k = false ∨ (fo = true ∧ ¬ ordN (plcL k 10) fw)) : FewI xs (k + 1) fw fo := by
  rcases h with ⟨h1, h2, h3⟩ | ⟨h1, ⟨s, h2, h3, h4⟩, h5⟩
  · refine .inl ⟨h1, h2, fun s hs => ?_⟩
    by_cases e : s = k
    · rcases hn with hn | hn
      · rw [e]; exact hn
      · rw [h1] at hn; cases hn.1
    · exact h3 s (by omega)
  · refine .inr ⟨h1, ⟨s, by omega, h3, h4⟩, fun t ht hg => ?_⟩
    by_cases e : t = k
    · rcases hn with hn | hn
      · rw [e, hn] at hg; cases hg
      · rw [e]; exact hn.2
    · exact h5 t (by omega) hg
theorem FewI.take {xs : List Int} {k : Nat} {fw : List Nat} {fo : Bool} (h : FewI xs k fw fo) (hg : grdS xs k = true) (ho : fo = false ∨ ordN (plcL k 10) fw) : FewI xs (k + 1) (plcL k 10) true := by
  refine .inr ⟨rfl, ⟨k, by omega, hg, rfl⟩, fun t ht hgt hlt => ?_⟩
  by_cases e : t = k
  · rw [e] at hlt; exact ordN_irr _ hlt
  · rcases h with ⟨h1, h2, h3⟩ | ⟨h1, h2, h5⟩
    · rw [h3 t (by omega)] at hgt; cases hgt
    · rcases ho with ho | ho
      · rw [h1] at ho; cases ho
      · exact h5 t (by omega) hgt (ordN_trans hlt ho)
theorem ManI.keep {xs : List Int} {k : Nat} {mn : List Nat} (h : ManI xs k mn) (hn : apt xs (plcL k 10) = false ∨ ¬ lonN (plcL k 10) mn) : ManI xs (k + 1) mn := by
  obtain ⟨h1, h2⟩ := h
  refine ⟨h1.imp id fun ⟨s, a, b⟩ => ⟨s, by omega, b⟩, fun t ht hg => ?_⟩
  by_cases e : t = k
  · rcases hn with hn | hn
    · rw [e, hn] at hg; cases hg
    · rw [e]; exact hn
  · exact h2 t (by omega) hg
theorem ManI.take {xs : List Int} {k : Nat} {mn : List Nat} (h : ManI xs k mn) (hg : apt xs (plcL k 10) = true) (ho : lonN (plcL k 10) mn) : ManI xs (k + 1) (plcL k 10) := by
  refine ⟨.inr ⟨k, by omega, hg, rfl⟩, fun t ht hgt hlt => ?_⟩
  by_cases e : t = k
  · rw [e] at hlt; exact lonN_irr _ hlt
  · exact h.2 t (by omega) hgt (lonN_trans hlt ho)
theorem FewI.all {xs : List Int} (hn : xs.length ≤ 10) {fw : List Nat} {fo : Bool} (h : FewI xs (2 ^ xs.length) fw fo) : few xs = fw := by
  obtain ⟨g1, g2⟩ := few_grd xs
  obtain ⟨m1, m2⟩ := plcL_mask hn g1
  have hg : grdS xs (maskN (few xs)) = true := by rw [grdS_iff hn m1, m2]; exact g2
  rcases h with ⟨h1, h2, h3⟩ | ⟨h1, ⟨s, h2, h3, rfl⟩, h5⟩
  · rw [h3 _ m1] at hg; cases hg
  · refine Classical.byContradiction fun hc => ?_
    have h6 := h5 _ m1 hg
    rw [m2] at h6
    rcases ordN_tri hc with k | k
    · exact h6 k
    · exact few_first (plcL_asc h2) (by rw [← grdS_iff hn h2]; exact h3) k
theorem ManI.all {xs : List Int} (hn : xs.length ≤ 10) {mn : List Nat} (h : ManI xs (2 ^ xs.length) mn) : far xs = mn := by
  obtain ⟨g1, g2⟩ := far_apt xs
  obtain ⟨m1, m2⟩ := plcL_mask hn g1
  obtain ⟨h1, h5⟩ := h
  refine Classical.byContradiction fun hc => ?_
  have h6 := h5 _ m1 (by rw [m2]; exact g2)
  rw [m2] at h6
  rcases lonN_tri hc with k | k
  · exact h6 k
  · rcases h1 with rfl | ⟨s, h2, h3, rfl⟩
    · exact far_first ⟨by simp, by simp⟩ (by simp [apt]) k
    · exact far_first (plcL_asc h2) h3 k
end Go.Proofs.YtcfffhkabhmkmaaDoor.Ps

/- A place more; cheaper prices. -/
namespace Go.Proofs.YtcfffhkabhmkmaaDoor.Ps
open Go Go.Abs Go.Mth
set_option linter.unusedVariables false
set_option linter.unusedSimpArgs false
end Go.Proofs.YtcfffhkabhmkmaaDoor.Ps

/- The law PostPacked. -/
namespace Go.Proofs.YtcfffhkabhmkmaaDoor.Ps
open Go Go.Abs Go.Mth
set_option linter.unusedVariables false
set_option linter.unusedSimpArgs false
theorem IL_inj {a b : List Nat} (h : IL a = IL b) : a = b := by
  have := congrArg (List.map Int.toNat) h
  rwa [toNat_IL, toNat_IL] at this
attribute [local irreducible] gOK WS WC WR WD Ends FS YS OpV seqK blockK loopK midK retK rdK asgK rangeEnd sat Cell
section
variable {M : HL} {n0 : Nat} {H : Heap} {v w : Value}
theorem sameI_fs (hH : hasH M n0 H) {a b : List Int} (hS : Sl M 1 v (ints a)) (hU : Sl M 1 w (ints b)) (ha : a.length ≤ 100000) (hb : b.length ≤ 100000) :
    FS C 16 [v, w] H (fun e H' => e = .bool (decide (a = b)) ∧ H' = H) := by
  have hv := hS.one_
  have hw := hU.one_
  refine FS.intro (pf := pf16) rfl rfl rfl ?_
  repeat' (first | refine zP ?_ | refine zA ?_ | (refine zM ?_; intro _ _) | refine zX ?_ | (refine zC ?_; intro _ _ _ _) | (refine zS ?_; intro _ _) | (apply Ws <;> intro hg))
  refine WC.condP rfl (fun hne => ?_) (fun hne => ?_)
  · repeat' (first | refine zP ?_ | refine zA ?_ | (refine zM ?_; intro _ _) | refine zX ?_ | (refine zC ?_; intro _ _ _ _) | (refine zS ?_; intro _ _) | (apply Ws <;> intro hg))
    exact Ends.ret1 rfl ⟨by rw [decide_eq_false (fun h => by rw [h] at hne; exact hne rfl)], rfl⟩
  · have hle : a.length = b.length := by omega
    repeat' (first | refine zP ?_ | refine zA ?_ | (refine zM ?_; intro _ _) | refine zX ?_ | (refine zC ?_; intro _ _ _ _) | (refine zS ?_; intro _ _) | (apply Ws <;> intro hg))
    refine WC.loopX [(0, v), (1, w)] (fun k : Nat => [(5, .int .i64 (k : Int))]) [] (fun k H' => H' = H ∧ k ≤ a.length ∧ ∀ j, j < k → a.getD j 0 = b.getD j 0) (fun k => a.length - k) 0 (by repeat' (first | exact .nil | refine .cons rfl ?_)) rfl ⟨rfl, Nat.zero_le _, fun j h => absurd h (Nat.not_lt_zero _)⟩ ?_
    rintro k H' ⟨rfl, hk, hall⟩
    dsimp only [List.cons_append, List.nil_append]
    repeat' (first | refine zP ?_ | refine zA ?_ | (refine zM ?_; intro _ _) | refine zX ?_ | (refine zC ?_; intro _ _ _ _) | (refine zS ?_; intro _ _) | (apply Ws <;> intro hg))
    refine WC.condP rfl (fun hlt => ?_) (fun hlt => ?_)
    · have hk' : k < a.length := by omega
      have hkb : k < b.length := by omega
      repeat' (first | refine zP ?_ | refine zA ?_ | (refine zM ?_; intro _ _) | refine zX ?_ | (refine zC ?_; intro _ _ _ _) | (refine zS ?_; intro _ _))
      by_cases he : a.getD k 0 = b.getD k 0
      · repeat' (first | refine zP ?_ | refine zA ?_ | (refine zM ?_; intro _ _) | refine zX ?_ | (refine zC ?_; intro _ _ _ _) | (refine zS ?_; intro _ _) | refine zO ?_ | (apply Ws <;> intro hg))
        refine Ends.loop (k + 1) (by omega) (by repeat' (first | exact .nil | refine .cons rfl ?_)) rfl ⟨rfl, hk', fun j hj => ?_⟩
        by_cases e : j = k
        · rw [e]; exact he
        · exact hall j (by omega)
      · repeat' (first | refine zP ?_ | refine zA ?_ | (refine zM ?_; intro _ _) | refine zX ?_ | (refine zC ?_; intro _ _ _ _) | (refine zS ?_; intro _ _) | refine zO ?_ | (apply Ws <;> intro hg))
        exact Ends.ret1 rfl ⟨by rw [decide_eq_false (fun h => he (by rw [h]))], rfl⟩
    · have hkl : k = a.length := by omega
      subst hkl
      repeat' (first | refine zP ?_ | refine zA ?_ | (refine zM ?_; intro _ _) | refine zX ?_ | (refine zC ?_; intro _ _ _ _) | (refine zS ?_; intro _ _) | (apply Ws <;> intro hg))
      exact Ends.ret1 rfl ⟨by rw [decide_eq_true (ext_getD (a := 0) hle hall)], rfl⟩
theorem same_fs (hH : hasH M n0 H) {a b : List Nat} (hS : Sl M 1 v (nodes a)) (hU : Sl M 1 w (nodes b)) (ha : a.length ≤ 100000) (hb : b.length ≤ 100000) :
    FS C 16 [v, w] H (fun e H' => e = .bool (decide (a = b)) ∧ H' = H) := by
  refine (sameI_fs hH (a := IL a) (b := IL b) (by rw [← nodes_IL]; exact hS) (by rw [← nodes_IL]; exact hU) (by rw [IL_len]; exact ha) (by rw [IL_len]; exact hb)).mono ?_
  rintro e H' ⟨h1, h2⟩
  refine ⟨?_, h2⟩
  rw [h1]
  congr 1
  rw [decide_eq_decide]
  exact ⟨IL_inj, fun h => by rw [h]⟩
end
end Go.Proofs.YtcfffhkabhmkmaaDoor.Ps

/- How many lists of posts guard: an odd number. -/
namespace Go.Proofs.YtcfffhkabhmkmaaDoor.Ps
open Go Go.Abs Go.Mth
set_option linter.unusedVariables false
set_option linter.unusedSimpArgs false
theorem cnt_congr {f g : Nat → Bool} {n : Nat} (h : ∀ x, x < n → f x = g x) : cnt n f = cnt n g := by
  unfold cnt selL
  rw [List.filter_congr fun x hx => h x (List.mem_range.1 hx)]
theorem cnt_add (a b : Nat) (f : Nat → Bool) : cnt (a + b) f = cnt a f + cnt b (fun i => f (a + i)) := by
  induction b with
  | zero => simp [cnt, selL]
  | succ b ih => rw [← Nat.add_assoc, cnt_succ, ih, cnt_succ, Nat.add_assoc]
theorem cnt_false {f : Nat → Bool} {n : Nat} (h : ∀ x, x < n → f x = false) : cnt n f = 0 := by
  unfold cnt selL
  rw [List.filter_eq_nil_iff.2 fun x hx => by rw [h x (List.mem_range.1 hx)]; decide]; rfl
theorem cnt_pos {f : Nat → Bool} {n x : Nat} (hx : x < n) (h : f x = true) : 1 ≤ cnt n f := List.length_pos_of_mem (mem_selL.2 ⟨hx, h⟩)
theorem cnt_and : ∀ (n N : Nat), cnt (2 ^ n) (fun t => decide (t &&& N = 0)) % 2 = 1 ↔ ∀ j, j < n → N.testBit j = true
  | 0, N => by
    have : cnt (2 ^ 0) (fun t => decide (t &&& N = 0)) = 1 := by
      rw [show 2 ^ 0 = 0 + 1 from rfl, cnt_succ, if_pos (by simp)]; rfl
    rw [this]
    exact ⟨fun _ j hj => by omega, fun _ => rfl⟩
  | n + 1, N => by
    have ih := cnt_and n N
    rw [show 2 ^ (n + 1) = 2 ^ n + 2 ^ n by rw [Nat.pow_succ]; omega, cnt_add]
    have hbit : ∀ t, t < 2 ^ n → ((2 ^ n + t) &&& N = 0 ↔ N.testBit n = false ∧ t &&& N = 0) := fun t ht => by
      have e0 := Nat.two_pow_add_eq_or_of_lt ht 1
      rw [Nat.mul_one] at e0
      rw [e0, and_zero, and_zero]
      constructor
      · intro h
        refine ⟨?_, fun j hj => h j ⟨or_bit.2 (.inr hj.1), hj.2⟩⟩
        cases hb : N.testBit n with
        | false => rfl
        | true => exact absurd ⟨or_bit.2 (.inl (pow_bit.2 rfl)), hb⟩ (h n)
      · rintro ⟨h1, h2⟩ j ⟨h3, h4⟩
        rcases or_bit.1 h3 with h3 | h3
        · have := pow_bit.1 h3
          subst this
          rw [h1] at h4; cases h4
        · exact h2 j ⟨h3, h4⟩
    cases hb : N.testBit n with
    | true =>
      rw [cnt_false (f := fun i => decide ((2 ^ n + i) &&& N = 0)) fun t ht => decide_eq_false fun h => absurd ((hbit t ht).1 h).1 (by rw [hb]; decide), Nat.add_zero, ih]
      constructor
      · intro h j hj
        by_cases e : j = n
        · rw [e]; exact hb
        · exact h j (by omega)
      · exact fun h j hj => h j (by omega)
    | false =>
      rw [cnt_congr (f := fun i => decide ((2 ^ n + i) &&& N = 0)) (g := fun i => decide (i &&& N = 0)) fun t ht => by rw [decide_eq_decide, hbit t ht]; exact ⟨fun h => h.2, fun h => ⟨hb, h⟩⟩]
      constructor
      · intro h; omega
      · intro h
        have := h n (by omega)
        rw [hb] at this; cases this
theorem sumN_add2 (f g : Nat → Nat) : ∀ m, sumN (fun i => f i + g i) m = sumN f m + sumN g m
  | 0 => rfl
  | m + 1 => by
    have := sumN_add2 f g m
    simp only [sumN] at this ⊢
    omega
theorem sumN_cnt (p : Nat → Bool) : ∀ m, sumN (fun i => if p i = true then 1 else 0) m = cnt m p
  | 0 => rfl
  | m + 1 => by
    have := sumN_cnt p m
    rw [cnt_succ, ← this]; rfl
theorem sumN_odd (f : Nat → Nat) : ∀ m, sumN f m % 2 = cnt m (fun i => decide (f i % 2 = 1)) % 2
  | 0 => rfl
  | m + 1 => by
    have ih := sumN_odd f m
    rw [cnt_succ]
    have : sumN f (m + 1) = sumN f m + f m := rfl
    rw [this]
    by_cases h : f m % 2 = 1
    · rw [if_pos (by simpa using h)]; omega
    · rw [if_neg (by simpa using h)]; omega
theorem pairs_odd {P : Nat → Nat → Bool} : ∀ {k : Nat}, (∀ s t, s < k → t < k → P s t = P t s) → sumN (fun s => cnt k (P s)) k % 2 = cnt k (fun s => P s s) % 2
  | 0, _ => rfl
  | k + 1, h => by
    have ih := pairs_odd (P := P) (k := k) fun s t hs ht => h s t (by omega) (by omega)
    have e1 : sumN (fun s => cnt (k + 1) (P s)) (k + 1) = sumN (fun s => cnt (k + 1) (P s)) k + cnt (k + 1) (P k) := rfl
    have e2 : sumN (fun s => cnt (k + 1) (P s)) k = sumN (fun s => cnt k (P s) + (if P s k = true then 1 else 0)) k := sumN_congr fun s _ => cnt_succ k (P s)
    have e3 : cnt k (fun s => P s k) = cnt k (P k) := cnt_congr fun s hs => h s k (by omega) (by omega)
    rw [e1, e2, sumN_add2, sumN_cnt (fun s => P s k), e3, cnt_succ, cnt_succ]
    omega
theorem grd_odd {xs : List Int} (hn : xs.length ≤ 10) : cnt (2 ^ xs.length) (grdS xs) % 2 = 1 := by
  have hN : ∀ s, s < 2 ^ xs.length → ∀ j, (orM xs (plcL s 10)).testBit j = true ↔ ∃ p, s.testBit p = true ∧ j < xs.length ∧ adj xs p j = true := fun s hs j => by
    rw [orM_bit]
    constructor
    · rintro ⟨p, hp, hb⟩; exact ⟨p, (plcL_mem hn hs).1 hp, hm_bit.1 hb⟩
    · rintro ⟨p, hp, hb⟩; exact ⟨p, (plcL_mem hn hs).2 hp, hm_bit.2 hb⟩
  have hsym : ∀ s t, s < 2 ^ xs.length → t < 2 ^ xs.length → decide (t &&& orM xs (plcL s 10) = 0) = decide (s &&& orM xs (plcL t 10) = 0) := by
    have key : ∀ s t, s < 2 ^ xs.length → t < 2 ^ xs.length → t &&& orM xs (plcL s 10) = 0 → s &&& orM xs (plcL t 10) = 0 := fun s t hs ht h => by
      rw [and_zero] at h ⊢
      rintro j ⟨h1, h2⟩
      obtain ⟨p, hp, hj, ha⟩ := (hN t ht j).1 h2
      exact h p ⟨hp, (hN s hs p).2 ⟨j, h1, set_lt ht hp, by rw [adj_comm]; exact ha⟩⟩
    intro s t hs ht
    rw [decide_eq_decide]
    exact ⟨key s t hs ht, key t s ht hs⟩
  have h1 := pairs_odd (P := fun s t => decide (t &&& orM xs (plcL s 10) = 0)) (k := 2 ^ xs.length) hsym
  have h2 := sumN_odd (fun s => cnt (2 ^ xs.length) (fun t => decide (t &&& orM xs (plcL s 10) = 0))) (2 ^ xs.length)
  have h3 : cnt (2 ^ xs.length) (fun s => decide (cnt (2 ^ xs.length) (fun t => decide (t &&& orM xs (plcL s 10) = 0)) % 2 = 1)) = cnt (2 ^ xs.length) (grdS xs) := cnt_congr fun s hs => by
    rw [Bool.eq_iff_iff, decide_eq_true_eq, cnt_and, grdS_iff hn hs, grd_iff]
    constructor
    · intro h i hi
      obtain ⟨p, hp, _, ha⟩ := (hN s hs i).1 (h i hi)
      exact ⟨p, (plcL_mem hn hs).2 hp, ha⟩
    · intro h i hi
      obtain ⟨p, hp, ha⟩ := h i hi
      exact (hN s hs i).2 ⟨p, (plcL_mem hn hs).1 hp, hi, ha⟩
  have h4 : cnt (2 ^ xs.length) (fun s => decide (s &&& orM xs (plcL s 10) = 0)) = 1 := by
    have e : cnt (2 ^ xs.length) (fun s => decide (s &&& orM xs (plcL s 10) = 0)) = cnt (2 ^ xs.length) (fun s => false || decide (s = 0)) := cnt_congr fun s hs => by
      rw [Bool.false_or, decide_eq_decide]
      constructor
      · intro h
        refine bits_ext fun j => ?_
        rw [Nat.zero_testBit]
        constructor
        · intro hj
          exact absurd ⟨hj, (hN s hs j).2 ⟨j, hj, set_lt hs hj, adj_self _ _⟩⟩ (and_zero.1 h j)
        · intro hj; cases hj
      · rintro rfl; simp
    have h5 := (cnt_or (f := fun _ => false) (p := 0) (n := 2 ^ xs.length)).1
    have h6 : cnt (2 ^ xs.length) (fun _ => false) = 0 := cnt_false fun _ _ => rfl
    have h7 := cnt_pos (f := fun s => false || decide (s = 0)) (n := 2 ^ xs.length) (x := 0) (Nat.pow_pos (by omega)) rfl
    omega
  omega
/-! As many sets as lists. -/
theorem sub_len {α : Type} [DecidableEq α] : ∀ {a b : List α}, a.Nodup → (∀ x ∈ a, x ∈ b) → a.length ≤ b.length
  | [], b, _, _ => by simp
  | x :: a, b, h1, h2 => by
    obtain ⟨k1, k2⟩ := List.nodup_cons.1 h1
    have hx := h2 x (by simp)
    have := sub_len (b := b.erase x) k2 fun y hy => (List.mem_erase_of_ne (fun e => k1 (by rw [← e]; exact hy))).2 (h2 y (by simp [hy]))
    rw [List.length_erase_of_mem hx] at this
    have := List.length_pos_of_mem hx
    rw [List.length_cons]; omega
theorem plcL_inj {n s t : Nat} (hn : n ≤ 10) (hs : s < 2 ^ n) (ht : t < 2 ^ n) (h : plcL s 10 = plcL t 10) : s = t := bits_ext fun j => by rw [← plcL_mem hn hs, ← plcL_mem hn ht, h]
theorem map_nodup {α β : Type} {f : α → β} : ∀ {l : List α}, l.Nodup → (∀ x ∈ l, ∀ y ∈ l, f x = f y → x = y) → (l.map f).Nodup
  | [], _, _ => by simp
  | a :: l, h1, h2 => by
    obtain ⟨k1, k2⟩ := List.nodup_cons.1 h1
    rw [List.map_cons, List.nodup_cons]
    refine ⟨fun hm => ?_, map_nodup k2 fun x hx y hy => h2 x (by simp [hx]) y (by simp [hy])⟩
    obtain ⟨y, hy, he⟩ := List.mem_map.1 hm
    have := h2 y (by simp [hy]) a (by simp) he
    exact k1 (this ▸ hy)
theorem cnt_lists {n : Nat} (hn : n ≤ 10) (q : List Nat → Bool) : cnt (2 ^ n) (fun s => q (plcL s 10)) = ((allA n).filter q).length := by
  refine Nat.le_antisymm ?_ ?_
  · have h1 : ((selL (2 ^ n) fun s => q (plcL s 10)).map fun s => plcL s 10).Nodup := map_nodup (selL_asc _ _).nodup fun s hs t ht h => plcL_inj hn (mem_selL.1 hs).1 (mem_selL.1 ht).1 h
    have := sub_len (b := (allA n).filter q) h1 fun z hz => by
      obtain ⟨s, hs, rfl⟩ := List.mem_map.1 hz
      obtain ⟨h2, h3⟩ := mem_selL.1 hs
      exact List.mem_filter.2 ⟨mem_allA.2 (plcL_asc h2), h3⟩
    rw [List.length_map] at this
    exact this
  · have h1 : (((allA n).filter q).map maskN).Nodup := map_nodup ((allA_nodup n).sublist List.filter_sublist) fun y hy z hz h => by
      have a1 := mem_allA.1 (List.mem_filter.1 hy).1
      have a2 := mem_allA.1 (List.mem_filter.1 hz).1
      rw [← (plcL_mask hn a1).2, ← (plcL_mask hn a2).2, h]
    have := sub_len (b := selL (2 ^ n) fun s => q (plcL s 10)) h1 fun s hs => by
      obtain ⟨z, hz, rfl⟩ := List.mem_map.1 hs
      obtain ⟨h2, h3⟩ := List.mem_filter.1 hz
      obtain ⟨m1, m2⟩ := plcL_mask hn (mem_allA.1 h2)
      exact mem_selL.2 ⟨m1, by rw [m2]; exact h3⟩
    rw [List.length_map] at this
    exact this
theorem asc_ext {n : Nat} {a b : List Nat} (h1 : AscN n a) (h2 : AscN n b) (h : ∀ x, x < n → (x ∈ a ↔ x ∈ b)) : a = b := by
  rw [asc_sel h1, asc_sel h2]
  unfold selL
  refine List.filter_congr fun x hx => ?_
  rw [decide_eq_decide]
  exact h x (List.mem_range.1 hx)
end Go.Proofs.YtcfffhkabhmkmaaDoor.Ps

/- The law PostPacked: its walk. -/
namespace Go.Proofs.YtcfffhkabhmkmaaDoor.Ps
open Go Go.Abs Go.Mth
set_option linter.unusedVariables false
set_option linter.unusedSimpArgs false
attribute [local irreducible] gOK WS WC WR WD Ends FS YS OpV seqK blockK loopK midK retK rdK asgK rangeEnd sat Cell
section
variable {M : HL} {n0 : Nat} {H : Heap} {v w : Value}
end
end Go.Proofs.YtcfffhkabhmkmaaDoor.Ps

/- The law PostOdd. -/
namespace Go.Proofs.YtcfffhkabhmkmaaDoor.Ps
open Go Go.Abs Go.Mth
set_option linter.unusedVariables false
set_option linter.unusedSimpArgs false
def minB (xs : List Int) (fe s : Nat) : Bool := grdS xs s && decide ((plcL s 10).length = fe)
theorem minB_iff {xs : List Int} {fe s : Nat} : minB xs fe s = true ↔ grdS xs s = true ∧ (plcL s 10).length = fe := by simp [minB]
structure OddI (xs : List Int) (k cn wy fe al ne : Nat) : Prop where
  cn : cn = cnt k (grdS xs)
  wl : wy ≤ k
  fl : fe ≤ 99
  ha : al < 2 ^ xs.length
  hb : ne < 2 ^ xs.length
  st : (cnt k (grdS xs) = 0 ∧ wy = 0 ∧ fe = 99) ∨ ((∃ s, s < k ∧ minB xs fe s = true) ∧ (∀ s, s < k → grdS xs s = true → fe ≤ (plcL s 10).length) ∧ wy = cnt k (minB xs fe) ∧
    ∀ j, j < xs.length → (al.testBit j = true ↔ ∀ s, s < k → minB xs fe s = true → s.testBit j = true) ∧ (ne.testBit j = true ↔ ∀ s, s < k → minB xs fe s = true → s.testBit j = false))
theorem andnot_bit {a b j : Nat} : (a ^^^ (a &&& b)).testBit j = true ↔ a.testBit j = true ∧ b.testBit j = false := by
  rw [Nat.testBit_xor, Nat.testBit_and]
  cases a.testBit j <;> cases b.testBit j <;> simp
theorem and_bit {a b j : Nat} : (a &&& b).testBit j = true ↔ a.testBit j = true ∧ b.testBit j = true := by rw [Nat.testBit_and, Bool.and_eq_true]
theorem andnot_lt {a b n : Nat} (h : a < 2 ^ n) : a ^^^ (a &&& b) < 2 ^ n := Nat.xor_lt_two_pow h (Nat.lt_of_le_of_lt Nat.and_le_left h)
theorem all_bit {n j : Nat} (h : j < n) : (2 ^ n - 1).testBit j = true := by rw [Nat.testBit_two_pow_sub_one]; simpa using h
theorem OddI.skip {xs : List Int} {k cn wy fe al ne : Nat} (h : OddI xs k cn wy fe al ne) (hg : grdS xs k = false) : OddI xs (k + 1) cn wy fe al ne := by
  have e1 : cnt (k + 1) (grdS xs) = cnt k (grdS xs) := by rw [cnt_succ, hg]; simp
  have hm : ∀ f, minB xs f k = false := fun f => by unfold minB; rw [hg]; rfl
  have e2 : cnt (k + 1) (minB xs fe) = cnt k (minB xs fe) := by rw [cnt_succ, hm]; simp
  refine ⟨by rw [e1]; exact h.cn, by have := h.wl; omega, h.fl, h.ha, h.hb, ?_⟩
  rcases h.st with ⟨h1, h2⟩ | ⟨⟨s, h1, h2⟩, h3, h4, h5⟩
  · exact .inl ⟨by rw [e1]; exact h1, h2⟩
  · refine .inr ⟨⟨s, by omega, h2⟩, fun t ht hgt => ?_, by rw [e2]; exact h4, fun j hj => ⟨(h5 j hj).1.trans ⟨fun q t ht hb => ?_, fun q t ht hb => q t (by omega) hb⟩, (h5 j hj).2.trans ⟨fun q t ht hb => ?_, fun q t ht hb => q t (by omega) hb⟩⟩⟩
    · by_cases e : t = k
      · rw [e, hg] at hgt; cases hgt
      · exact h3 t (by omega) hgt
    · by_cases e : t = k
      · rw [e, hm] at hb; cases hb
      · exact q t (by omega) hb
    · by_cases e : t = k
      · rw [e, hm] at hb; cases hb
      · exact q t (by omega) hb
theorem OddI.more {xs : List Int} {k cn wy fe al ne : Nat} (h : OddI xs k cn wy fe al ne) (hg : grdS xs k = true) (hl : fe < (plcL k 10).length) : OddI xs (k + 1) (cn + 1) wy fe al ne := by
  have e1 : cnt (k + 1) (grdS xs) = cnt k (grdS xs) + 1 := by rw [cnt_succ, if_pos hg]
  have hm : minB xs fe k = false := by unfold minB; rw [hg, decide_eq_false (by omega)]; rfl
  have e2 : cnt (k + 1) (minB xs fe) = cnt k (minB xs fe) := by rw [cnt_succ, hm]; simp
  have h10 := plcL_len k 10
  refine ⟨by rw [e1, h.cn], by have := h.wl; omega, h.fl, h.ha, h.hb, ?_⟩
  rcases h.st with ⟨h1, h2, h3⟩ | ⟨⟨s, h1, h2⟩, h3, h4, h5⟩
  · omega
  · refine .inr ⟨⟨s, by omega, h2⟩, fun t ht hgt => ?_, by rw [e2]; exact h4, fun j hj => ⟨(h5 j hj).1.trans ⟨fun q t ht hb => ?_, fun q t ht hb => q t (by omega) hb⟩, (h5 j hj).2.trans ⟨fun q t ht hb => ?_, fun q t ht hb => q t (by omega) hb⟩⟩⟩
    · by_cases e : t = k
      · rw [e]; omega
      · exact h3 t (by omega) hgt
    · by_cases e : t = k
      · rw [e, hm] at hb; cases hb
      · exact q t (by omega) hb
    · by_cases e : t = k
      · rw [e, hm] at hb; cases hb
      · exact q t (by omega) hb
theorem OddI.same {xs : List Int} {k cn wy fe al ne : Nat} (h : OddI xs k cn wy fe al ne) (hg : grdS xs k = true) (hl : (plcL k 10).length = fe) : OddI xs (k + 1) (cn + 1) (wy + 1) fe (al &&& k) (ne ^^^ (ne &&& k)) := by
  have e1 : cnt (k + 1) (grdS xs) = cnt k (grdS xs) + 1 := by rw [cnt_succ, if_pos hg]
  have hm : minB xs fe k = true := minB_iff.2 ⟨hg, hl⟩
  have e2 : cnt (k + 1) (minB xs fe) = cnt k (minB xs fe) + 1 := by rw [cnt_succ, if_pos hm]
  have h10 := plcL_len k 10
  refine ⟨by rw [e1, h.cn], by have := h.wl; omega, h.fl, Nat.lt_of_le_of_lt Nat.and_le_left h.ha, andnot_lt h.hb, ?_⟩
  rcases h.st with ⟨h1, h2, h3⟩ | ⟨⟨s, h1, h2⟩, h3, h4, h5⟩
  · omega
  · refine .inr ⟨⟨s, by omega, h2⟩, fun t ht hgt => ?_, by rw [e2, h4], fun j hj => ⟨?_, ?_⟩⟩
    · by_cases e : t = k
      · rw [e]; omega
      · exact h3 t (by omega) hgt
    · rw [and_bit, (h5 j hj).1]
      constructor
      · rintro ⟨q1, q2⟩ t ht hb
        by_cases e : t = k
        · rw [e]; exact q2
        · exact q1 t (by omega) hb
      · exact fun q => ⟨fun t ht hb => q t (by omega) hb, q k (by omega) hm⟩
    · rw [andnot_bit, (h5 j hj).2]
      constructor
      · rintro ⟨q1, q2⟩ t ht hb
        by_cases e : t = k
        · rw [e]; exact q2
        · exact q1 t (by omega) hb
      · exact fun q => ⟨fun t ht hb => q t (by omega) hb, q k (by omega) hm⟩
theorem OddI.less {xs : List Int} {k cn wy fe al ne : Nat} (h : OddI xs k cn wy fe al ne) (hg : grdS xs k = true) (hl : (plcL k 10).length < fe) : OddI xs (k + 1) (cn + 1) 1 (plcL k 10).length ((2 ^ xs.length - 1) &&& k) ((2 ^ xs.length - 1) ^^^ ((2 ^ xs.length - 1) &&& k)) := by
  have e1 : cnt (k + 1) (grdS xs) = cnt k (grdS xs) + 1 := by rw [cnt_succ, if_pos hg]
  have hm : minB xs (plcL k 10).length k = true := minB_iff.2 ⟨hg, rfl⟩
  have hp : 2 ^ xs.length - 1 < 2 ^ xs.length := by have := Nat.pow_pos (a := 2) (n := xs.length) (by omega); omega
  have h10 := plcL_len k 10
  have hno : ∀ t, t < k → minB xs (plcL k 10).length t = false := fun t ht => by
    cases hb : minB xs (plcL k 10).length t with
    | false => rfl
    | true =>
      obtain ⟨b1, b2⟩ := minB_iff.1 hb
      rcases h.st with ⟨h1, _, _⟩ | ⟨_, h3, _, _⟩
      · have := cnt_pos ht b1; omega
      · have := h3 t ht b1; omega
  have e2 : cnt (k + 1) (minB xs (plcL k 10).length) = 1 := by rw [cnt_succ, if_pos hm, cnt_false hno]
  refine ⟨by rw [e1, h.cn], by omega, by omega, Nat.lt_of_le_of_lt Nat.and_le_left hp, andnot_lt hp, .inr ⟨⟨k, by omega, hm⟩, fun t ht hgt => ?_, e2.symm, fun j hj => ⟨?_, ?_⟩⟩⟩
  · by_cases e : t = k
    · rw [e]; exact Nat.le_refl _
    · rcases h.st with ⟨h1, _, _⟩ | ⟨_, h3, _, _⟩
      · have := cnt_pos (show t < k by omega) hgt; omega
      · have := h3 t (by omega) hgt; omega
  · rw [and_bit]
    constructor
    · rintro ⟨_, q2⟩ t ht hb
      by_cases e : t = k
      · rw [e]; exact q2
      · rw [hno t (by omega)] at hb; cases hb
    · exact fun q => ⟨all_bit hj, q k (by omega) hm⟩
  · rw [andnot_bit]
    constructor
    · rintro ⟨_, q2⟩ t ht hb
      by_cases e : t = k
      · rw [e]; exact q2
      · rw [hno t (by omega)] at hb; cases hb
    · exact fun q => ⟨all_bit hj, q k (by omega) hm⟩
theorem few_min (xs : List Int) : fewB xs = (allA xs.length).filter fun z => grd xs z && decide (z.length = (few xs).length) := by
  have h2 := fstB_cost (c := sumZ fun _ => 1) (grdL_ne xs)
  have e : fstB (sumZ fun _ => 1) (grdL xs) = few xs := rfl
  rw [e, sumZ_len] at h2
  rcases bestF_inv (sumZ fun _ => 1) (grdL xs) with ⟨h, _⟩ | ⟨_, h3, _⟩
  · exact absurd h (grdL_ne xs)
  · unfold fewB
    obtain ⟨m, hm⟩ : ∃ m, (bestF (sumZ fun _ => 1) (grdL xs)).2 = m := ⟨_, rfl⟩
    rw [hm] at h2 h3
    rw [h3, grdL, List.filter_filter]
    refine List.filter_congr fun z hz => ?_
    rw [Bool.and_comm]
    congr 1
    rw [decide_eq_decide, sumZ_len]
    constructor
    · intro h; omega
    · intro h; omega
theorem OddI.all {xs : List Int} (hok : OKS xs) {cn wy fe al ne : Nat} (h : OddI xs (2 ^ xs.length) cn wy fe al ne) : cn = (grdL xs).length ∧ cn % 2 = 1 ∧ wy = (fewB xs).length ∧ plcL al 10 = inL (fewB xs) (fewB xs).length xs.length ∧ plcL ne 10 = inL (fewB xs) 0 xs.length := by
  have hn := hok.most
  have hodd := grd_odd hn
  rw [← h.cn] at hodd
  have hg : ∀ s, s < 2 ^ xs.length → grdS xs s = grd xs (plcL s 10) := fun s hs => grdS_iff hn hs
  have hcl : cn = (grdL xs).length := by rw [h.cn, cnt_congr hg, cnt_lists hn]; rfl
  have h0 := h.cn
  rcases h.st with ⟨h1, _, _⟩ | ⟨⟨s, h1, h2⟩, h3, h4, h5⟩
  · omega
  · obtain ⟨b1, b2⟩ := minB_iff.1 h2
    obtain ⟨f1, f2⟩ := few_grd xs
    obtain ⟨m1, m2⟩ := plcL_mask hn f1
    have hfe : fe = (few xs).length := by
      have k1 := h3 _ m1 (by rw [hg _ m1, m2]; exact f2)
      rw [m2] at k1
      have k2 := few_le (plcL_asc h1) (by rw [← hg s h1]; exact b1)
      omega
    have hmB : ∀ t, t < 2 ^ xs.length → minB xs fe t = (fun z => grd xs z && decide (z.length = (few xs).length)) (plcL t 10) := fun t ht => by
      unfold minB; rw [hg t ht, hfe]
    have hmem : ∀ z, z ∈ fewB xs ↔ ∃ t, t < 2 ^ xs.length ∧ minB xs fe t = true ∧ z = plcL t 10 := fun z => by
      rw [few_min, List.mem_filter, mem_allA]
      constructor
      · rintro ⟨q1, q2⟩
        obtain ⟨p1, p2⟩ := plcL_mask hn q1
        exact ⟨maskN z, p1, by rw [hmB _ p1, p2]; exact q2, p2.symm⟩
      · rintro ⟨t, ht, hb, rfl⟩
        exact ⟨plcL_asc ht, by rw [hmB t ht] at hb; exact hb⟩
    have hasc : ∀ t, AscN xs.length (inL (fewB xs) t xs.length) := fun t => selL_asc _ _
    refine ⟨hcl, hodd, ?_, ?_, ?_⟩
    · rw [h4, cnt_congr hmB, cnt_lists hn (fun z => grd xs z && decide (z.length = (few xs).length)), ← few_min]
    · refine asc_ext (plcL_asc h.ha) (hasc _) fun j hj => ?_
      rw [plcL_mem hn h.ha, (h5 j hj).1]
      unfold inL timL
      rw [List.mem_filter, List.mem_range, decide_eq_true_eq, List.countP_eq_length]
      constructor
      · refine fun q => ⟨hj, fun z hz => decide_eq_true ?_⟩
        obtain ⟨t, ht, hb, rfl⟩ := (hmem z).1 hz
        exact (plcL_mem hn ht).2 (q t ht hb)
      · rintro ⟨_, q⟩ t ht hb
        exact (plcL_mem hn ht).1 (of_decide_eq_true (q _ ((hmem _).2 ⟨t, ht, hb, rfl⟩)))
    · refine asc_ext (plcL_asc h.hb) (hasc _) fun j hj => ?_
      rw [plcL_mem hn h.hb, (h5 j hj).2]
      unfold inL timL
      rw [List.mem_filter, List.mem_range, decide_eq_true_eq, List.countP_eq_zero]
      constructor
      · refine fun q => ⟨hj, fun z hz hc => ?_⟩
        obtain ⟨t, ht, hb, rfl⟩ := (hmem z).1 hz
        have k1 := (plcL_mem hn ht).1 (of_decide_eq_true hc)
        rw [q t ht hb] at k1; cases k1
      · rintro ⟨_, q⟩ t ht hb
        cases hc : t.testBit j with
        | false => rfl
        | true => exact absurd (decide_eq_true ((plcL_mem hn ht).2 hc)) (q _ ((hmem _).2 ⟨t, ht, hb, rfl⟩))
end Go.Proofs.YtcfffhkabhmkmaaDoor.Ps

/- The law PostOdd: its walk. -/
namespace Go.Proofs.YtcfffhkabhmkmaaDoor.Ps
open Go Go.Abs Go.Mth
set_option linter.unusedVariables false
set_option linter.unusedSimpArgs false
structure KV where
  k : Nat
  cn : Nat
  wy : Nat
  fe : Nat
  al : Nat
  ne : Nat
  M : HL
  n : Nat
attribute [local irreducible] gOK WS WC WR WD Ends FS YS OpV seqK blockK loopK midK retK rdK asgK rangeEnd sat Cell
section
variable {M : HL} {n0 : Nat} {H : Heap} {v w : Value}
set_option maxHeartbeats 8000000 in
theorem PostOdd_fs (hH : hasH M n0 H) {x : List Nat} (hxl : x.length = 11) (hx : ∀ y ∈ x, y ≤ 255) :
    FS C 5 [.agg (numsK .u8 x).toArray] H (fun e H' => e = .bool true) := by
  obtain ⟨x, by_, rfl⟩ : ∃ a l, x = a :: l := by
    cases x with
    | nil => simp at hxl
    | cons a l => exact ⟨a, l, rfl⟩
  have hbl : by_.length = 10 := by simpa using hxl
  have hx0 := hx x (by simp)
  have hb : ∀ y ∈ by_, y ≤ 255 := fun y hy => hx y (by simp [hy])
  have hsl : (numsK .u8 (x :: by_)).length = 11 := by simp [numsK, hbl]
  have hfin : ∀ {H' : Heap}, FS C 19 [] H' (fun e H'' => e = .bool true ∧ H'' = H') := fun {H'} => FS.works ⟨rfl, rfl⟩
  refine FS.intro (pf := pf5) rfl rfl rfl ?_
  refine WC.seq ?_
  refine WC.region ?_
  refine WR.boxA (cs := numsK .u8 (x :: by_)) (by first | exact gN | exact gS rfl) rfl hH rfl (numsK_one _) fun H1 hH1 => ?_
  clear hH
  repeat' (first | refine zP ?_ | refine zA ?_ | (refine zM ?_; intro _ _) | refine zX ?_ | (refine zC ?_; intro _ _ _ _) | (refine zS ?_; intro _ _) | (apply Ws <;> intro hg))
  refine WR.call (by first | exact gN | exact gS rfl) rfl rfl (made_fs (most := 10) hH1 hx0 hb hbl (by decide) (by decide)) ?_
  rintro _ H3 ⟨vs, vh, MS, MH, n3, rfl, hOs, hOh, hn3, hH3⟩
  have hmod := Nat.mod_lt x (show 0 < 10 by decide)
  obtain ⟨n, hn⟩ : ∃ n, 1 + x % 10 = n := ⟨_, rfl⟩
  rw [hn] at hOs hOh
  have hok := mkS_ok by_ (n := n) (by omega) (by omega)
  have hlen := mkS_len by_ n
  obtain ⟨X, hX⟩ : ∃ X, MS ++ (MH ++ ((n0, Ch.row 24 0 0 (numsK .u8 (x :: by_))) :: M)) = X := ⟨_, rfl⟩
  have hSs : Sl X 1 vs (ints (mkS by_ n)) := (hOs.sl []).mono fun q hq => by rw [List.append_nil] at hq; rw [← hX]; simp [hq]
  have hSh : Sl X 1 vh (numsK .u64 (hsL (mkS by_ n))) := (hOh.sl []).mono fun q hq => by rw [List.append_nil] at hq; rw [← hX]; simp [hq]
  rw [hX] at hH3
  clear hX hH1 hOs hOh hsl
  generalize mkS by_ n = xs at hok hlen hSs hSh
  have hvs := hSs.one_
  have hvh := hSh.one_
  have h10 : xs.length ≤ 10 := hok.most
  have h1x := hok.one
  have hpw : 2 ^ n ≤ 1024 := by show 2 ^ n ≤ 2 ^ 10; exact Nat.pow_le_pow_right (by omega) (by omega)
  have hpw1 : 1 ≤ 2 ^ n := Nat.pow_pos (by omega)
  have hE0 := errS_zero.2 hok
  subst hlen
  have hlp : 2 ^ xs.length < capK .u64 := Nat.lt_of_le_of_lt hpw (by decide)
  have hal1 : 2 ^ xs.length - 1 < 1024 := by omega
  repeat' (first | refine zP ?_ | refine zA ?_ | (refine zM ?_; intro _ _) | refine zX ?_ | (refine zC ?_; intro _ _ _ _) | (refine zS ?_; intro _ _) | (apply Ws <;> intro hg))
  refine WR.op (by first | exact gN | exact gS rfl) rfl (OpV.shl1 rfl rfl (by show xs.length ≤ 64; omega) hlp) ?_
  refine WR.op (by first | exact gN | exact gS rfl) rfl (OpV.subK rfl rfl (c := ((2 ^ xs.length - 1 : Nat) : Int)) (by rw [wrapI]; omega)) ?_
  repeat' (first | refine zP ?_ | refine zA ?_ | (refine zM ?_; intro _ _) | refine zX ?_ | (refine zC ?_; intro _ _ _ _) | (refine zS ?_; intro _ _) | (apply Ws <;> intro hg))
  refine WR.op (by first | exact gN | exact gS rfl) rfl (OpV.addN (b := 1) rfl rfl (by rw [Nat.sub_add_cancel hpw1]; exact hlp)) ?_
  rw [Nat.sub_add_cancel hpw1]
  repeat' (first | refine zP ?_ | refine zA ?_ | (refine zM ?_; intro _ _) | refine zX ?_ | (refine zC ?_; intro _ _ _ _) | (refine zS ?_; intro _ _) | (apply Ws <;> intro hg))
  refine WC.loopX [(3, vs), (4, vh), (10, .int .u64 ((2 ^ xs.length - 1 : Nat) : Int)), (31, .int .u64 ((2 ^ xs.length : Nat) : Int))] (fun z : KV => [(32, .int .u64 (z.k : Int)), (5, .int .i64 (z.cn : Int)), (6, .int .i64 (z.wy : Int)), (7, .int .i64 (z.fe : Int)), (8, .int .u64 (z.al : Int)), (9, .int .u64 (z.ne : Int))]) []
    (fun z H' => z.k ≤ 2 ^ xs.length ∧ OddI xs z.k z.cn z.wy z.fe z.al z.ne ∧ hasH X z.n H') (fun z => 2 ^ xs.length - z.k)
    ⟨0, 0, 0, 99, 0, 0, X, n3⟩ (by repeat' (first | exact .nil | refine .cons rfl ?_)) rfl ⟨Nat.zero_le _, ⟨rfl, Nat.zero_le _, Nat.le_refl _, hpw1, hpw1, .inl ⟨rfl, rfl, rfl⟩⟩, hH3⟩ ?_
  clear hH3
  rintro ⟨k, cn, wy, fe, al, ne, _, n4⟩ H4 ⟨hk, hI, hH⟩
  simp only at hk hI hH
  have hcn : cn ≤ k := by rw [hI.cn]; have := List.length_filter_le (grdS xs) (List.range k); simpa [cnt, selL] using this
  have hwl := hI.wl
  have hfl := hI.fl
  have hal10 : al < 1024 := by have := hI.ha; omega
  have hne10 : ne < 1024 := by have := hI.hb; omega
  dsimp only [List.cons_append, List.nil_append]
  repeat' (first | refine zP ?_ | refine zA ?_ | (refine zM ?_; intro _ _) | refine zX ?_ | (refine zC ?_; intro _ _ _ _) | (refine zS ?_; intro _ _) | (apply Ws <;> intro hg))
  refine WC.condP rfl (fun hlt => ?_) (fun hlt => ?_)
  · have hk' : k < 2 ^ xs.length := by omega
    have hk10 : k < 1024 := by omega
    have hpl := plcL_len k 10
    have hadd : k + 1 < capK .u64 := by have : capK .u64 = 18446744073709551616 := by decide
                                        omega
    repeat' (first | refine zP ?_ | refine zA ?_ | (refine zM ?_; intro _ _) | refine zX ?_ | (refine zC ?_; intro _ _ _ _) | (refine zS ?_; intro _ _) | (apply Ws <;> intro hg))
    refine WR.call (by first | exact gN | exact gS rfl) rfl rfl (guardsS_fs hH h10 hSh hk10) ?_
    rintro _ H7 ⟨rfl, hH7⟩
    clear hH
    by_cases hgk : grdS xs k = true
    · rw [hgk]
      repeat' (first | refine zP ?_ | refine zA ?_ | (refine zM ?_; intro _ _) | refine zX ?_ | (refine zC ?_; intro _ _ _ _) | (refine zS ?_; intro _ _) | (apply Ws <;> intro hg))
      rw [show (cn : Int) + 1 = ((cn + 1 : Nat) : Int) by omega]
      refine WR.call (by first | exact gN | exact gS rfl) rfl rfl (OnesCount_fs hk10 _) ?_
      rintro _ H8 ⟨rfl, hHe⟩
      replace hH7 : hasH X (n4 + 1) H8 := by rw [hHe]; exact hH7
      by_cases hl1 : (plcL k 10).length < fe
      · have hI2 := hI.less hgk hl1
        repeat' (first | refine zP ?_ | refine zA ?_ | (refine zM ?_; intro _ _) | refine zX ?_ | (refine zC ?_; intro _ _ _ _) | (refine zS ?_; intro _ _) | refine zO ?_ | (apply Ws <;> intro hg))
        refine WR.op (by first | exact gN | exact gS rfl) rfl (OpV.andN rfl rfl (lt64 hal1) (lt64 hk10)) ?_
        repeat' (first | refine zP ?_ | refine zA ?_ | (refine zM ?_; intro _ _) | refine zX ?_ | (refine zC ?_; intro _ _ _ _) | (refine zS ?_; intro _ _) | refine zO ?_ | (apply Ws <;> intro hg))
        refine WR.op (by first | exact gN | exact gS rfl) rfl (OpV.andNotN rfl rfl (lt64 hal1) (lt64 hk10)) ?_
        repeat' (first | refine zP ?_ | refine zA ?_ | (refine zM ?_; intro _ _) | refine zX ?_ | (refine zC ?_; intro _ _ _ _) | (refine zS ?_; intro _ _) | refine zO ?_ | (apply Ws <;> intro hg))
        refine WR.op (by first | exact gN | exact gS rfl) rfl (OpV.addN (b := 1) rfl rfl hadd) ?_
        repeat' (first | refine zP ?_ | refine zA ?_ | (refine zM ?_; intro _ _) | refine zX ?_ | (refine zC ?_; intro _ _ _ _) | (refine zS ?_; intro _ _) | refine zO ?_ | (apply Ws <;> intro hg))
        exact Ends.loop ⟨k + 1, cn + 1, 1, (plcL k 10).length, (2 ^ xs.length - 1) &&& k, (2 ^ xs.length - 1) ^^^ ((2 ^ xs.length - 1) &&& k), X, n4 + 1⟩ (by simp only; omega) (by repeat' (first | exact .nil | refine .cons rfl ?_)) rfl ⟨hk', hI2, hH7⟩
      · by_cases hl2 : (plcL k 10).length = fe
        · have hI2 := hI.same hgk hl2
          repeat' (first | refine zP ?_ | refine zA ?_ | (refine zM ?_; intro _ _) | refine zX ?_ | (refine zC ?_; intro _ _ _ _) | (refine zS ?_; intro _ _) | refine zO ?_ | (apply Ws <;> intro hg))
          rw [show (wy : Int) + 1 = ((wy + 1 : Nat) : Int) by omega]
          refine WR.op (by first | exact gN | exact gS rfl) rfl (OpV.andN rfl rfl (lt64 hal10) (lt64 hk10)) ?_
          repeat' (first | refine zP ?_ | refine zA ?_ | (refine zM ?_; intro _ _) | refine zX ?_ | (refine zC ?_; intro _ _ _ _) | (refine zS ?_; intro _ _) | refine zO ?_ | (apply Ws <;> intro hg))
          refine WR.op (by first | exact gN | exact gS rfl) rfl (OpV.andNotN rfl rfl (lt64 hne10) (lt64 hk10)) ?_
          repeat' (first | refine zP ?_ | refine zA ?_ | (refine zM ?_; intro _ _) | refine zX ?_ | (refine zC ?_; intro _ _ _ _) | (refine zS ?_; intro _ _) | refine zO ?_ | (apply Ws <;> intro hg))
          refine WR.op (by first | exact gN | exact gS rfl) rfl (OpV.addN (b := 1) rfl rfl hadd) ?_
          repeat' (first | refine zP ?_ | refine zA ?_ | (refine zM ?_; intro _ _) | refine zX ?_ | (refine zC ?_; intro _ _ _ _) | (refine zS ?_; intro _ _) | refine zO ?_ | (apply Ws <;> intro hg))
          exact Ends.loop ⟨k + 1, cn + 1, wy + 1, fe, al &&& k, ne ^^^ (ne &&& k), X, n4 + 1⟩ (by simp only; omega) (by repeat' (first | exact .nil | refine .cons rfl ?_)) rfl ⟨hk', hI2, hH7⟩
        · have hI2 := hI.more hgk (by omega)
          repeat' (first | refine zP ?_ | refine zA ?_ | (refine zM ?_; intro _ _) | refine zX ?_ | (refine zC ?_; intro _ _ _ _) | (refine zS ?_; intro _ _) | refine zO ?_ | (apply Ws <;> intro hg))
          refine WR.op (by first | exact gN | exact gS rfl) rfl (OpV.addN (b := 1) rfl rfl hadd) ?_
          repeat' (first | refine zP ?_ | refine zA ?_ | (refine zM ?_; intro _ _) | refine zX ?_ | (refine zC ?_; intro _ _ _ _) | (refine zS ?_; intro _ _) | refine zO ?_ | (apply Ws <;> intro hg))
          exact Ends.loop ⟨k + 1, cn + 1, wy, fe, al, ne, X, n4 + 1⟩ (by simp only; omega) (by repeat' (first | exact .nil | refine .cons rfl ?_)) rfl ⟨hk', hI2, hH7⟩
    · have hgf : grdS xs k = false := by simpa using hgk
      have hI2 := hI.skip hgf
      rw [hgf]
      repeat' (first | refine zP ?_ | refine zA ?_ | (refine zM ?_; intro _ _) | refine zX ?_ | (refine zC ?_; intro _ _ _ _) | (refine zS ?_; intro _ _) | refine zO ?_ | (apply Ws <;> intro hg))
      refine WR.op (by first | exact gN | exact gS rfl) rfl (OpV.addN (b := 1) rfl rfl hadd) ?_
      repeat' (first | refine zP ?_ | refine zA ?_ | (refine zM ?_; intro _ _) | refine zX ?_ | (refine zC ?_; intro _ _ _ _) | (refine zS ?_; intro _ _) | refine zO ?_ | (apply Ws <;> intro hg))
      exact Ends.loop ⟨k + 1, cn, wy, fe, al, ne, X, n4 + 1⟩ (by simp only; omega) (by repeat' (first | exact .nil | refine .cons rfl ?_)) rfl ⟨hk', hI2, hH7⟩
  · have hke : k = 2 ^ xs.length := by omega
    subst hke
    obtain ⟨r1, r2, r3, r4, r5⟩ := hI.all hok
    have hLa : (inL (fewB xs) (fewB xs).length xs.length).length ≤ 10 := by rw [← r4]; exact plcL_len _ _
    have hLn : (inL (fewB xs) 0 xs.length).length ≤ 10 := by rw [← r5]; exact plcL_len _ _
    clear hI
    repeat' (first | refine zP ?_ | refine zA ?_ | (refine zM ?_; intro _ _) | refine zX ?_ | (refine zC ?_; intro _ _ _ _) | (refine zS ?_; intro _ _) | (apply Ws <;> intro hg))
    refine WR.call (by first | exact gN | exact gS rfl) rfl rfl (Count_fs hH hSs (by omega)) ?_
    rintro _ H6 ⟨M6, n6, rfl, hn6, hH6⟩
    have hS6 := hSs.mono fun q hq => List.mem_append_right M6 hq
    clear hH
    generalize M6 ++ X = X6 at hH6 hS6
    repeat' (first | refine zP ?_ | refine zA ?_ | (refine zM ?_; intro _ _) | refine zX ?_ | (refine zC ?_; intro _ _ _ _) | (refine zS ?_; intro _ _) | (apply Ws <;> intro hg))
    refine WR.call (by first | exact gN | exact gS rfl) rfl rfl (Ways_fs hH6 hS6 (by omega)) ?_
    rintro _ H7 ⟨M7, n7, rfl, hn7, hH7⟩
    have hS7 := hS6.mono fun q hq => List.mem_append_right M7 hq
    clear hH6
    generalize M7 ++ X6 = X7 at hH7 hS7
    repeat' (first | refine zP ?_ | refine zA ?_ | (refine zM ?_; intro _ _) | refine zX ?_ | (refine zC ?_; intro _ _ _ _) | (refine zS ?_; intro _ _) | (apply Ws <;> intro hg))
    refine WR.call (by first | exact gN | exact gS rfl) rfl rfl (Always_fs hH7 hS7 (by omega)) ?_
    rintro _ H8 ⟨u8, M8, n8, rfl, hU8, hn8, hH8⟩
    have hS8 := hS7.mono fun q hq => List.mem_append_right M8 hq
    clear hH7
    generalize M8 ++ X7 = X8 at hH8 hS8 hU8
    repeat' (first | refine zP ?_ | refine zA ?_ | (refine zM ?_; intro _ _) | refine zX ?_ | (refine zC ?_; intro _ _ _ _) | (refine zS ?_; intro _ _) | (apply Ws <;> intro hg))
    refine WR.call (by first | exact gN | exact gS rfl) rfl rfl (Never_fs hH8 hS8 (by omega)) ?_
    rintro _ H9 ⟨u9, M9, n9, rfl, hU9, hn9, hH9⟩
    replace hU8 := hU8.mono fun q hq => List.mem_append_right M9 hq
    clear hH8 hS8
    generalize M9 ++ X8 = X9 at hH9 hU8 hU9
    rw [hE0] at hU8 hU9 ⊢
    rw [if_pos rfl] at hU8 hU9
    rw [if_pos rfl, if_pos rfl, ← r1, ← r3]
    have hod : (cn : Int) % 2 = 1 := by omega
    repeat' (first | refine zP ?_ | refine zA ?_ | (refine zM ?_; intro _ _) | refine zX ?_ | (refine zC ?_; intro _ _ _ _) | (refine zS ?_; intro _ _) | refine zO ?_ | (apply Ws <;> intro hg))
    refine WR.call (by first | exact gN | exact gS rfl) rfl rfl (members_fs hH9 hal10) ?_
    rintro v113 H10 ⟨Mx, n10, hO10, hn10, hH10⟩
    rw [r4] at hO10
    refine WR.call (by first | exact gN | exact gS rfl) rfl rfl (same_fs hH10 (hU8.mono fun q hq => List.mem_append_right Mx hq) (hO10.sl X9) (by omega) (by omega)) ?_
    rintro _ H11 ⟨rfl, hHe⟩
    have hH11 : hasH X9 n10 H11 := by rw [hHe]; exact hH10.sub (List.sublist_append_right _ _)
    rw [decide_eq_true rfl]
    repeat' (first | refine zP ?_ | refine zA ?_ | (refine zM ?_; intro _ _) | refine zX ?_ | (refine zC ?_; intro _ _ _ _) | (refine zS ?_; intro _ _) | refine zO ?_ | (apply Ws <;> intro hg))
    refine WR.call (by first | exact gN | exact gS rfl) rfl rfl (members_fs hH11 hne10) ?_
    rintro v119 H12 ⟨My, n12, hO12, hn12, hH12⟩
    rw [r5] at hO12
    refine WR.call (by first | exact gN | exact gS rfl) rfl rfl (same_fs hH12 (hU9.mono fun q hq => List.mem_append_right My hq) (hO12.sl X9) (by omega) (by omega)) ?_
    rintro _ H13 ⟨rfl, hHe2⟩
    rw [decide_eq_true rfl]
    repeat' (first | refine zP ?_ | refine zA ?_ | (refine zM ?_; intro _ _) | refine zX ?_ | (refine zC ?_; intro _ _ _ _) | (refine zS ?_; intro _ _) | refine zO ?_ | (apply Ws <;> intro hg))
    refine WR.call (by first | exact gN | exact gS rfl) rfl rfl hfin ?_
    rintro _ _ ⟨rfl, rfl⟩
    repeat' (first | refine zP ?_ | refine zA ?_ | (refine zM ?_; intro _ _) | refine zX ?_ | (refine zC ?_; intro _ _ _ _) | (refine zS ?_; intro _ _) | refine zO ?_ | (apply Ws <;> intro hg))
    exact Ends.ret1 rfl rfl
end
end Go.Proofs.YtcfffhkabhmkmaaDoor.Ps
