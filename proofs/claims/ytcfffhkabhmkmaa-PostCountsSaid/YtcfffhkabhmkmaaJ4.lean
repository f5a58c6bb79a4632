/- Texts of the law, joined. -/
import Derived.Test.YtcfffhkabhmkmaaJ3
/- Places in so many lists; what the package's other functions return. -/
namespace Go.Proofs.Ytcfffhkabhmkmaa.Ps
open Go Go.Abs Go.Mth
set_option linter.unusedVariables false
set_option linter.unusedSimpArgs false
def timL (zs : List (List Nat)) (p : Nat) : Nat := zs.countP fun z => decide (p ∈ z)
def inL (zs : List (List Nat)) (t n : Nat) : List Nat := (List.range n).filter fun p => decide (timL zs p = t)
theorem timL_le (zs : List (List Nat)) (p : Nat) : timL zs p ≤ zs.length := List.countP_le_length
theorem timL_succ {zs : List (List Nat)} {k p : Nat} (h : k < zs.length) : timL (zs.take (k + 1)) p = timL (zs.take k) p + if p ∈ zs.getD k [] then 1 else 0 := by
  unfold timL
  rw [List.take_succ_eq_append_getElem h, List.countP_append, ← getD_eq (a := [])]
  simp [List.countP_cons]
theorem inL_succ (zs : List (List Nat)) (t k : Nat) : inL zs t (k + 1) = if timL zs k = t then inL zs t k ++ [k] else inL zs t k := by
  unfold inL
  rw [List.range_succ, List.filter_append]
  by_cases h : timL zs k = t
  · rw [if_pos h, List.filter_cons_of_pos (by simpa using h)]; simp
  · rw [if_neg h, List.filter_cons_of_neg (by simpa using h)]; simp
theorem inL_len (zs : List (List Nat)) (t n : Nat) : (inL zs t n).length ≤ n := by
  have := List.length_filter_le (fun p => decide (timL zs p = t)) (List.range n)
  simpa [inL] using this
theorem fewB_few {xs : List Int} (h : xs.length ≤ 10) : (fewB xs).length ≤ 5000 := Nat.le_trans (bestF_len _ _) (Nat.le_trans (List.length_filter_le _ _) (allA_few h))
theorem nodes_snoc (l : List Nat) (x : Nat) : nodes (l ++ [x]) = nodes l ++ [.int .i64 (x : Int)] := by simp [nodes]
structure KO where
  k : Nat
  v : Value
  Mx : HL
  n : Nat
attribute [local irreducible] gOK WS WC WR WD Ends FS YS OpV seqK blockK loopK midK retK rdK asgK rangeEnd sat Cell
section
variable {M : HL} {n0 : Nat} {H : Heap} {v w : Value}
theorem ContainsN_fs (hH : hasH M n0 H) {l : List Nat} (hS : Sl M 1 v (nodes l)) (hx : l.length ≤ 100000) (a : Nat) :
    FS C 75 [v, .int .i64 (a : Int)] H (fun e H' => H' = H ∧ e = .bool (decide (a ∈ l))) := by
  refine (Contains_fs hH (xs := IL l) (by rw [← nodes_IL]; exact hS) (by rw [IL_len]; exact hx) a).mono ?_
  rintro e H' ⟨h1, h2⟩
  refine ⟨h1, ?_⟩
  rw [h2]
  congr 1
  rw [decide_eq_decide]
  exact mem_cast
theorem timesIn_fs (hH : hasH M n0 H) {ws : List Value} {zs : List (List Nat)} (hS : Sl M 1 v ws) (hR : RowsB M ws zs) (hz : ∀ z ∈ zs, z.length ≤ 1000) (hl : zs.length ≤ 5000) (p : Nat) :
    FS C 71 [v, .int .i64 (p : Int)] H (fun e H' => e = .int .i64 (timL zs p : Nat) ∧ H' = H) := by
  have hv := hS.one_
  have hwl := hR.1
  refine FS.intro (pf := pf71) rfl rfl rfl ?_
  repeat' (first | refine zP ?_ | refine zA ?_ | (refine zM ?_; intro _ _) | refine zX ?_ | (refine zC ?_; intro _ _ _ _) | (refine zS ?_; intro _ _) | (apply Ws <;> intro hg))
  refine WC.loopX [(1, _), (8, v), (9, _)] (fun k : Nat => [(10, .int .i64 (k : Int)), (5, .int .i64 (timL (zs.take k) p : Nat))]) [] (fun k H' => k ≤ zs.length ∧ H' = H) (fun k => zs.length - k) 0 (by repeat' (first | exact .nil | refine .cons rfl ?_)) rfl ⟨Nat.zero_le _, rfl⟩ ?_
  rintro k H' ⟨hk, rfl⟩
  have htl := timL_le (zs.take k) p
  rw [List.length_take] at htl
  dsimp only [List.cons_append, List.nil_append]
  repeat' (first | refine zP ?_ | refine zA ?_ | (refine zM ?_; intro _ _) | refine zX ?_ | (refine zC ?_; intro _ _ _ _) | (refine zS ?_; intro _ _) | (apply Ws <;> intro hg))
  refine WC.condP rfl (fun hlt => ?_) (fun hlt => ?_)
  · have hk' : k < zs.length := by omega
    have hkw : k < ws.length := by omega
    have hSk := hR.2 k hk'
    have hlk := hz _ (getD_mem (a := []) hk')
    have hts := timL_succ (p := p) hk'
    repeat' (first | refine zP ?_ | refine zA ?_ | (refine zM ?_; intro _ _) | refine zX ?_ | (refine zC ?_; intro _ _ _ _) | (refine zS ?_; intro _ _) | (apply Ws <;> intro hg))
    refine WR.call (by first | exact gN | exact gS rfl) rfl rfl (ContainsN_fs hH hSk (by omega) p) ?_
    rintro _ _ ⟨rfl, rfl⟩
    by_cases hm : p ∈ zs.getD k []
    · rw [if_pos hm] at hts
      rw [decide_eq_true hm]
      repeat' (first | refine zP ?_ | refine zA ?_ | (refine zM ?_; intro _ _) | refine zX ?_ | (refine zC ?_; intro _ _ _ _) | (refine zS ?_; intro _ _) | (apply Ws <;> intro hg))
      exact Ends.loop (k + 1) (by omega) (by rw [hts]; exact (by repeat' (first | exact .nil | refine .cons rfl ?_))) rfl ⟨hk', rfl⟩
    · rw [if_neg hm, Nat.add_zero] at hts
      rw [decide_eq_false hm]
      repeat' (first | refine zP ?_ | refine zA ?_ | (refine zM ?_; intro _ _) | refine zX ?_ | (refine zC ?_; intro _ _ _ _) | (refine zS ?_; intro _ _) | (apply Ws <;> intro hg))
      exact Ends.loop (k + 1) (by omega) (by rw [hts]; exact (by repeat' (first | exact .nil | refine .cons rfl ?_))) rfl ⟨hk', rfl⟩
  · have hkl : k = zs.length := by omega
    subst hkl
    rw [List.take_length]
    repeat' (first | refine zP ?_ | refine zA ?_ | (refine zM ?_; intro _ _) | refine zX ?_ | (refine zC ?_; intro _ _ _ _) | (refine zS ?_; intro _ _) | (apply Ws <;> intro hg))
    exact Ends.ret1 rfl ⟨rfl, rfl⟩
theorem placesIn_fs (hH : hasH M n0 H) {ws : List Value} {zs : List (List Nat)} (hS : Sl M 1 v ws) (hR : RowsB M ws zs) (hz : ∀ z ∈ zs, z.length ≤ 1000) (hl : zs.length ≤ 5000) (t n : Nat) (hn : n ≤ 1000) :
    FS C 60 [v, .int .i64 (t : Int), .int .i64 (n : Int)] H (fun e H' => ∃ Mx n', Own 3 1 e (nodes (inL zs t n)) Mx ∧ n0 ≤ n' ∧ hasH (Mx ++ M) n' H') := by
  have hv := hS.one_
  refine FS.intro (pf := pf60) rfl rfl rfl ?_
  repeat' (first | refine zP ?_ | refine zA ?_ | (refine zM ?_; intro _ _) | refine zX ?_ | (refine zC ?_; intro _ _ _ _) | (refine zS ?_; intro _ _) | (apply Ws <;> intro hg))
  refine WC.loopX [(0, v), (1, _), (9, _)] (fun s : KO => [(10, .int .i64 (s.k : Int)), (7, s.v)]) [] (fun s H' => s.k ≤ n ∧ Own 3 1 s.v (nodes (inL zs t s.k)) s.Mx ∧ n0 ≤ s.n ∧ hasH (s.Mx ++ M) s.n H') (fun s => n - s.k) ⟨0, .slice none 0 0, [], n0⟩ (by repeat' (first | exact .nil | refine .cons rfl ?_)) rfl ⟨Nat.zero_le _, .nil, Nat.le_refl _, hH⟩ ?_
  clear hH
  rintro ⟨k, v7, Mx, n1⟩ H1 ⟨hk, hO, hn1, hH⟩
  simp only at hk hO hn1 hH
  have hil := inL_len zs t k
  have his := inL_succ zs t k
  dsimp only [List.cons_append, List.nil_append]
  repeat' (first | refine zP ?_ | refine zA ?_ | (refine zM ?_; intro _ _) | refine zX ?_ | (refine zC ?_; intro _ _ _ _) | (refine zS ?_; intro _ _) | (apply Ws <;> intro hg))
  refine WC.condP rfl (fun hlt => ?_) (fun hlt => ?_)
  · have hk' : k < n := by omega
    repeat' (first | refine zP ?_ | refine zA ?_ | (refine zM ?_; intro _ _) | refine zX ?_ | (refine zC ?_; intro _ _ _ _) | (refine zS ?_; intro _ _) | (apply Ws <;> intro hg))
    refine WR.call (by first | exact gN | exact gS rfl) rfl rfl (timesIn_fs hH (hS.mono fun q hq => List.mem_append_right Mx hq) (hR.mono fun q hq => List.mem_append_right Mx hq) hz hl k) ?_
    rintro _ _ ⟨rfl, rfl⟩
    by_cases hm : timL zs k = t
    · rw [if_pos hm] at his
      repeat' (first | refine zP ?_ | refine zA ?_ | (refine zM ?_; intro _ _) | refine zX ?_ | (refine zC ?_; intro _ _ _ _) | (refine zS ?_; intro _ _) | refine zO ?_ | (apply Ws <;> intro hg))
      refine WR.append1F [] Mx M rfl rfl rfl rfl hO hH (new := [.int .i64 (k : Int)]) rfl rfl rfl (Nat.le_refl _) (by decide) (by simp; omega) fun v' Mx' n' H' q1 q2 q3 => ?_
      repeat' (first | refine zP ?_ | refine zA ?_ | (refine zM ?_; intro _ _) | refine zX ?_ | (refine zC ?_; intro _ _ _ _) | (refine zS ?_; intro _ _) | (apply Ws <;> intro hg))
      refine Ends.loop ⟨k + 1, v', Mx', n'⟩ (by simp only; omega) (by repeat' (first | exact .nil | refine .cons rfl ?_)) rfl ⟨hk', ?_, by simp only; omega, q2⟩
      simp only
      rw [his, nodes_snoc]; exact q1
    · rw [if_neg hm] at his
      repeat' (first | refine zP ?_ | refine zA ?_ | (refine zM ?_; intro _ _) | refine zX ?_ | (refine zC ?_; intro _ _ _ _) | (refine zS ?_; intro _ _) | refine zO ?_ | (apply Ws <;> intro hg))
      refine Ends.loop ⟨k + 1, v7, Mx, n1⟩ (by simp only; omega) (by repeat' (first | exact .nil | refine .cons rfl ?_)) rfl ⟨hk', ?_, by simp only; omega, hH⟩
      simp only
      rw [his]; exact hO
  · have hkn : k = n := by omega
    subst hkn
    repeat' (first | refine zP ?_ | refine zA ?_ | (refine zM ?_; intro _ _) | refine zX ?_ | (refine zC ?_; intro _ _ _ _) | (refine zS ?_; intro _ _) | (apply Ws <;> intro hg))
    exact Ends.ret1 rfl ⟨Mx, n1, hO, hn1, hH⟩
theorem fewB_len10 {xs : List Int} {c : List Nat → Int} {zs : List (List Nat)} (hz : ∀ z ∈ zs, AscN xs.length z) (h : xs.length ≤ 10) : ∀ z ∈ (bestF c zs).1, AscN xs.length z ∧ z.length ≤ 1000 := by
  have key : ∀ (ys : List (List Nat)) (s : List (List Nat) × Int), (∀ z ∈ ys, AscN xs.length z) → (∀ z ∈ s.1, AscN xs.length z) → ∀ z ∈ (ys.foldl (bestS c) s).1, AscN xs.length z := by
    intro ys
    induction ys with
    | nil => intro s _ h2; exact h2
    | cons y ys ih =>
      intro s h1 h2
      rw [List.foldl_cons]
      refine ih _ (fun z hz => h1 z (by simp [hz])) ?_
      intro z hz
      have hy := h1 y (by simp)
      unfold bestS at hz
      split at hz
      · rw [List.mem_singleton] at hz; rw [hz]; exact hy
      · split at hz
        · rcases List.mem_append.1 hz with hz | hz
          · exact h2 z hz
          · rw [List.mem_singleton] at hz; rw [hz]; exact hy
        · exact h2 z hz
  intro z hz2
  have h1 := key zs ([], 0) hz (by simp) z hz2
  exact ⟨h1, by have := h1.len; omega⟩
theorem grdL_asc {xs : List Int} : ∀ z ∈ grdL xs, AscN xs.length z := fun z hz => mem_allA.1 (List.mem_filter.1 hz).1
theorem Ways_fs (hH : hasH M n0 H) {xs : List Int} (hS : Sl M 1 v (ints xs)) (hl : xs.length ≤ 100000) :
    FS C 26 [v] H (fun e H' => ∃ M2 n', e = .tuple #[.int .i64 ((if errS xs = 0 then (fewB xs).length else 0 : Nat) : Int), .int .i64 (errS xs)] ∧ n0 ≤ n' ∧ hasH (M2 ++ M) n' H') := by
  refine FS.intro (pf := pf26) rfl rfl rfl ?_
  repeat' (first | refine zP ?_ | refine zA ?_ | (refine zM ?_; intro _ _) | refine zX ?_ | (refine zC ?_; intro _ _ _ _) | (refine zS ?_; intro _ _) | (apply Ws <;> intro hg))
  refine WR.call (by first | exact gN | exact gS rfl) rfl rfl (Check_fs hH hS hl) ?_
  rintro _ H1 ⟨rfl, rfl⟩
  repeat' (first | refine zP ?_ | refine zA ?_ | (refine zM ?_; intro _ _) | refine zX ?_ | (refine zC ?_; intro _ _ _ _) | (refine zS ?_; intro _ _) | (apply Ws <;> intro hg))
  refine WC.condP rfl (fun h0 => ?_) (fun h0 => ?_)
  · repeat' (first | refine zP ?_ | refine zA ?_ | (refine zM ?_; intro _ _) | refine zX ?_ | (refine zC ?_; intro _ _ _ _) | (refine zS ?_; intro _ _) | (apply Ws <;> intro hg))
    exact Ends.ret2 rfl rfl ⟨[], n0, by rw [if_neg h0]; rfl, Nat.le_refl _, hH⟩
  · have h00 : errS xs = 0 := by omega
    have hx := errS_zero.1 h00
    repeat' (first | refine zP ?_ | refine zA ?_ | (refine zM ?_; intro _ _) | refine zX ?_ | (refine zC ?_; intro _ _ _ _) | (refine zS ?_; intro _ _) | (apply Ws <;> intro hg))
    refine WR.call (by first | exact gN | exact gS rfl) rfl rfl (byNumber_fs hH hS hx) ?_
    rintro _ H2 ⟨hv, M2, n2, rfl, hV, hn2, hH2⟩
    refine WR.call (by first | exact gN | exact gS rfl) rfl rfl (best_fs (B := M2) hx.one hx.most hH2 (fun p hp => List.mem_append_left _ hp) (good_grd hx hV) (cost_one _ _) (fun x _ => by omega) (allA_few hx.most)) ?_
    rintro e3 H3 ⟨ws, M3, n3, hSe, hR, hn3, hH3⟩
    have hwl := hR.1
    repeat' (first | refine zP ?_ | refine zA ?_ | (refine zM ?_; intro _ _) | refine zX ?_ | (refine zC ?_; intro _ _ _ _) | (refine zS ?_; intro _ _) | (apply Ws <;> intro hg))
    refine Ends.ret2 rfl rfl ⟨M3 ++ M2, n3, by rw [h00, if_pos rfl, hwl]; rfl, by omega, by rw [List.append_assoc]; exact hH3⟩
theorem Always_fs (hH : hasH M n0 H) {xs : List Int} (hS : Sl M 1 v (ints xs)) (hl : xs.length ≤ 100000) :
    FS C 28 [v] H (fun e H' => ∃ u M2 n', e = .tuple #[u, .int .i64 (errS xs)] ∧ Sl (M2 ++ M) 1 u (nodes (if errS xs = 0 then inL (fewB xs) (fewB xs).length xs.length else [])) ∧ n0 ≤ n' ∧ hasH (M2 ++ M) n' H') := by
  refine FS.intro (pf := pf28) rfl rfl rfl ?_
  repeat' (first | refine zP ?_ | refine zA ?_ | (refine zM ?_; intro _ _) | refine zX ?_ | (refine zC ?_; intro _ _ _ _) | (refine zS ?_; intro _ _) | (apply Ws <;> intro hg))
  refine WR.call (by first | exact gN | exact gS rfl) rfl rfl (Check_fs hH hS hl) ?_
  rintro _ H1 ⟨rfl, rfl⟩
  repeat' (first | refine zP ?_ | refine zA ?_ | (refine zM ?_; intro _ _) | refine zX ?_ | (refine zC ?_; intro _ _ _ _) | (refine zS ?_; intro _ _) | (apply Ws <;> intro hg))
  refine WC.condP rfl (fun h0 => ?_) (fun h0 => ?_)
  · repeat' (first | refine zP ?_ | refine zA ?_ | (refine zM ?_; intro _ _) | refine zX ?_ | (refine zC ?_; intro _ _ _ _) | (refine zS ?_; intro _ _) | (apply Ws <;> intro hg))
    exact Ends.ret2 rfl rfl ⟨_, [], n0, rfl, by rw [if_neg h0]; exact .nil 0, Nat.le_refl _, hH⟩
  · have h00 : errS xs = 0 := by omega
    have hx := errS_zero.1 h00
    have h10 := hx.most
    repeat' (first | refine zP ?_ | refine zA ?_ | (refine zM ?_; intro _ _) | refine zX ?_ | (refine zC ?_; intro _ _ _ _) | (refine zS ?_; intro _ _) | (apply Ws <;> intro hg))
    refine WR.call (by first | exact gN | exact gS rfl) rfl rfl (byNumber_fs hH hS hx) ?_
    rintro _ H2 ⟨hv, M2, n2, rfl, hV, hn2, hH2⟩
    refine WR.call (by first | exact gN | exact gS rfl) rfl rfl (best_fs (B := M2) hx.one hx.most hH2 (fun p hp => List.mem_append_left _ hp) (good_grd hx hV) (cost_one _ _) (fun x _ => by omega) (allA_few hx.most)) ?_
    rintro e3 H3 ⟨ws, M3, n3, hSe, hR, hn3, hH3⟩
    have hwl := hR.1
    have hS3 : Sl (M3 ++ (M2 ++ M)) 1 v (ints xs) := hS.mono fun q hq => by simp [hq]
    repeat' (first | refine zP ?_ | refine zA ?_ | (refine zM ?_; intro _ _) | refine zX ?_ | (refine zC ?_; intro _ _ _ _) | (refine zS ?_; intro _ _) | (apply Ws <;> intro hg))
    rw [hwl]
    refine WR.call (by first | exact gN | exact gS rfl) rfl rfl (placesIn_fs hH3 hSe hR (fun z hz => (fewB_len10 grdL_asc h10 z hz).2) (fewB_few h10) _ xs.length (by omega)) ?_
    rintro e4 H4 ⟨Mx, n4, hO, hn4, hH4⟩
    repeat' (first | refine zP ?_ | refine zA ?_ | (refine zM ?_; intro _ _) | refine zX ?_ | (refine zC ?_; intro _ _ _ _) | (refine zS ?_; intro _ _) | (apply Ws <;> intro hg))
    refine Ends.ret2 rfl rfl ⟨_, Mx ++ (M3 ++ M2), n4, by rw [h00], ?_, by omega, hH4.perm (by classical exact List.perm_iff_count.2 (fun a => by simp only [defds, List.map_cons, List.map_nil, List.count_append, List.count_cons, List.count_nil, List.cons_append, List.nil_append, List.append_nil]; omega))⟩
    rw [if_pos h00]; exact (hO.sl []).mono fun q hq => by rw [List.append_nil] at hq; simp [hq]
theorem Never_fs (hH : hasH M n0 H) {xs : List Int} (hS : Sl M 1 v (ints xs)) (hl : xs.length ≤ 100000) :
    FS C 30 [v] H (fun e H' => ∃ u M2 n', e = .tuple #[u, .int .i64 (errS xs)] ∧ Sl (M2 ++ M) 1 u (nodes (if errS xs = 0 then inL (fewB xs) 0 xs.length else [])) ∧ n0 ≤ n' ∧ hasH (M2 ++ M) n' H') := by
  refine FS.intro (pf := pf30) rfl rfl rfl ?_
  repeat' (first | refine zP ?_ | refine zA ?_ | (refine zM ?_; intro _ _) | refine zX ?_ | (refine zC ?_; intro _ _ _ _) | (refine zS ?_; intro _ _) | (apply Ws <;> intro hg))
  refine WR.call (by first | exact gN | exact gS rfl) rfl rfl (Check_fs hH hS hl) ?_
  rintro _ H1 ⟨rfl, rfl⟩
  repeat' (first | refine zP ?_ | refine zA ?_ | (refine zM ?_; intro _ _) | refine zX ?_ | (refine zC ?_; intro _ _ _ _) | (refine zS ?_; intro _ _) | (apply Ws <;> intro hg))
  refine WC.condP rfl (fun h0 => ?_) (fun h0 => ?_)
  · repeat' (first | refine zP ?_ | refine zA ?_ | (refine zM ?_; intro _ _) | refine zX ?_ | (refine zC ?_; intro _ _ _ _) | (refine zS ?_; intro _ _) | (apply Ws <;> intro hg))
    exact Ends.ret2 rfl rfl ⟨_, [], n0, rfl, by rw [if_neg h0]; exact .nil 0, Nat.le_refl _, hH⟩
  · have h00 : errS xs = 0 := by omega
    have hx := errS_zero.1 h00
    have h10 := hx.most
    repeat' (first | refine zP ?_ | refine zA ?_ | (refine zM ?_; intro _ _) | refine zX ?_ | (refine zC ?_; intro _ _ _ _) | (refine zS ?_; intro _ _) | (apply Ws <;> intro hg))
    refine WR.call (by first | exact gN | exact gS rfl) rfl rfl (byNumber_fs hH hS hx) ?_
    rintro _ H2 ⟨hv, M2, n2, rfl, hV, hn2, hH2⟩
    refine WR.call (by first | exact gN | exact gS rfl) rfl rfl (best_fs (B := M2) hx.one hx.most hH2 (fun p hp => List.mem_append_left _ hp) (good_grd hx hV) (cost_one _ _) (fun x _ => by omega) (allA_few hx.most)) ?_
    rintro e3 H3 ⟨ws, M3, n3, hSe, hR, hn3, hH3⟩
    have hS3 : Sl (M3 ++ (M2 ++ M)) 1 v (ints xs) := hS.mono fun q hq => by simp [hq]
    repeat' (first | refine zP ?_ | refine zA ?_ | (refine zM ?_; intro _ _) | refine zX ?_ | (refine zC ?_; intro _ _ _ _) | (refine zS ?_; intro _ _) | (apply Ws <;> intro hg))
    refine WR.call (by first | exact gN | exact gS rfl) rfl rfl (placesIn_fs hH3 hSe hR (fun z hz => (fewB_len10 grdL_asc h10 z hz).2) (fewB_few h10) 0 xs.length (by omega)) ?_
    rintro e4 H4 ⟨Mx, n4, hO, hn4, hH4⟩
    repeat' (first | refine zP ?_ | refine zA ?_ | (refine zM ?_; intro _ _) | refine zX ?_ | (refine zC ?_; intro _ _ _ _) | (refine zS ?_; intro _ _) | (apply Ws <;> intro hg))
    refine Ends.ret2 rfl rfl ⟨_, Mx ++ (M3 ++ M2), n4, by rw [h00], ?_, by omega, hH4.perm (by classical exact List.perm_iff_count.2 (fun a => by simp only [defds, List.map_cons, List.map_nil, List.count_append, List.count_cons, List.count_nil, List.cons_append, List.nil_append, List.append_nil]; omega))⟩
    rw [if_pos h00]; exact (hO.sl []).mono fun q hq => by rw [List.append_nil] at hq; simp [hq]
end
end Go.Proofs.Ytcfffhkabhmkmaa.Ps

/- Count, Cheapest, Guards, Proves, Hand. -/
namespace Go.Proofs.Ytcfffhkabhmkmaa.Ps
open Go Go.Abs Go.Mth
set_option linter.unusedVariables false
set_option linter.unusedSimpArgs false
theorem toNat_IL (l : List Nat) : (IL l).map Int.toNat = l := by
  refine List.ext_getElem (by simp [IL]) fun i h1 h2 => by simp [IL]
attribute [local irreducible] gOK WS WC WR WD Ends FS YS OpV seqK blockK loopK midK retK rdK asgK rangeEnd sat Cell
section
variable {M : HL} {n0 : Nat} {H : Heap} {v w : Value}
set_option maxHeartbeats 1000000 in
theorem Count_fs (hH : hasH M n0 H) {xs : List Int} (hS : Sl M 1 v (ints xs)) (hl : xs.length ≤ 100000) :
    FS C 24 [v] H (fun e H' => ∃ M2 n', e = .tuple #[.int .i64 ((if errS xs = 0 then (grdL xs).length else 0 : Nat) : Int), .int .i64 (errS xs)] ∧ n0 ≤ n' ∧ hasH (M2 ++ M) n' H') := by
  refine FS.intro (pf := pf24) rfl rfl rfl ?_
  repeat' (first | refine zP ?_ | refine zA ?_ | (refine zM ?_; intro _ _) | refine zX ?_ | (refine zC ?_; intro _ _ _ _) | (refine zS ?_; intro _ _) | (apply Ws <;> intro hg))
  refine WR.call (by first | exact gN | exact gS rfl) rfl rfl (Check_fs hH hS hl) ?_
  rintro _ H1 ⟨rfl, rfl⟩
  repeat' (first | refine zP ?_ | refine zA ?_ | (refine zM ?_; intro _ _) | refine zX ?_ | (refine zC ?_; intro _ _ _ _) | (refine zS ?_; intro _ _) | (apply Ws <;> intro hg))
  refine WC.condP rfl (fun h0 => ?_) (fun h0 => ?_)
  · repeat' (first | refine zP ?_ | refine zA ?_ | (refine zM ?_; intro _ _) | refine zX ?_ | (refine zC ?_; intro _ _ _ _) | (refine zS ?_; intro _ _) | (apply Ws <;> intro hg))
    exact Ends.ret2 rfl rfl ⟨[], n0, by rw [if_neg h0]; rfl, Nat.le_refl _, hH⟩
  · have h00 : errS xs = 0 := by omega
    have hx := errS_zero.1 h00
    repeat' (first | refine zP ?_ | refine zA ?_ | (refine zM ?_; intro _ _) | refine zX ?_ | (refine zC ?_; intro _ _ _ _) | (refine zS ?_; intro _ _) | (apply Ws <;> intro hg))
    rename_i H2 hH2
    have hS2 : Sl ((n0, Ch.row 3 0 0 [.int .i64 0]) :: M) 1 v (ints xs) := hS.cons
    clear hH
    repeat' (first | refine zP ?_ | refine zA ?_ | (refine zM ?_; intro _ _) | refine zX ?_ | (refine zC ?_; intro _ _ _ _) | (refine zS ?_; intro _ _) | (apply Ws <;> intro hg))
    refine WR.call (by first | exact gN | exact gS rfl) rfl rfl (byNumber_fs hH2 hS2 hx) ?_
    rintro _ H3 ⟨hv, M2, n3, rfl, hV, hn3, hH3⟩
    clear hH2
    refine WR.call (by first | exact gN | exact gS rfl) rfl rfl (rated_fs hH3) ?_
    rintro _ H5 ⟨rfl, hH5⟩
    clear hH3
    repeat' (first | refine zP ?_ | refine zA ?_ | (refine zM ?_; intro _ _) | refine zX ?_ | (refine zC ?_; intro _ _ _ _) | (refine zS ?_; intro _ _) | (apply Ws <;> intro hg))
    replace hH5 : hasH ((n0, Ch.row 3 0 0 [.int .i64 0]) :: (n3, RtC xs.length 46 [hv] 65 []) :: (M2 ++ M)) (n3 + 1) H5 := hH5.perm (by classical exact List.perm_iff_count.2 (fun a => by simp only [defds, List.map_cons, List.map_nil, List.count_append, List.count_cons, List.count_nil, List.cons_append, List.nil_append, List.append_nil]; omega))
    refine WC.range0 (va := []) (vb := [ptrO n3 0]) rfl hH5 fun t ht H6 hH6 => ?_
    generalize hRR : ({ state := .ready, pending := none, fn := 24, tmps := t, params := [14], assign := _, body := _, nt := _ } : LoopE) = R at hH6
    obtain ⟨nn, hnn, hnn0⟩ : ∃ nn, n3 + 1 + 2 = nn ∧ n0 ≤ nn := ⟨_, rfl, by omega⟩
    rw [hnn] at hH6
    generalize n3 + 1 + 1 = lp at hH6 ⊢
    generalize n3 + 1 = df at hH6 ⊢
    clear hH5 hnn
    obtain ⟨rt, hrt⟩ : ∃ rt, RtC xs.length 46 [hv] 65 [] = rt := ⟨_, rfl⟩
    rw [hrt] at hH6
    refine FS.mono (ratedIt_fs (l := lp) (b1 := n3) (n := xs.length) (gf := 46) (gv := [hv]) (cf := 65) (cv := []) (good := grd xs) (B := (n3, rt) :: M2)
      (J := fun zs Mc => ∃ ds, ds ++ zs = grdL xs ∧ Mc = (lp, .loop R) :: (df, .defd false) :: (n0, .row 3 0 0 [.int .i64 (ds.length : Int)]) :: (n3, rt) :: (M2 ++ M))
      hx.one hx.most hH6 (by rw [hrt]; exact .head _) ?_ ⟨[], rfl, rfl⟩ (good_grd hx (hV.mono fun q hq => .tail _ hq)) ?_) ?_
    · rintro zs Mc ⟨ds, _, rfl⟩ p hp
      rcases List.mem_cons.1 hp with rfl | hp
      · exact .tail _ (.tail _ (.tail _ (.head _)))
      · exact .tail _ (.tail _ (.tail _ (.tail _ (List.mem_append_left _ hp))))
    · rintro z zs Mc T0 u n' H7 hn' ⟨ds, hds, rfl⟩ hasc hK hH7
      simp only [List.cons_append, List.append_assoc] at hH7
      have hdl : ds.length ≤ 5000 := by
        have h1 := congrArg List.length hds
        rw [List.length_append] at h1
        have h2 : (grdL xs).length ≤ 5000 := Nat.le_trans (List.length_filter_le _ _) (allA_few hx.most)
        omega
      have hds2 : (ds ++ [z]) ++ zs = grdL xs := by rw [← hds]; simp
      refine YS.intro hH7 (.head _) (by rw [← hRR]) (by rw [← hRR]) (by rw [← hRR]; rfl) (by rw [← hRR]; exact ht) ?_
      subst hRR
      dsimp only
      repeat' (first | refine zA ?_ | (refine zM ?_; intro _ _) | (apply Ws <;> intro hg))
      refine Ends.asg hH7 .here fun H8 hH8 => ?_
      dsimp only
      clear hH7
      generalize hRb : ({ state := .busy, pending := none, fn := 24, tmps := t, params := [14], assign := _, body := _, nt := _ } : LoopE) = Rb at hH8
      repeat' (first | refine zP ?_ | refine zA ?_ | (refine zM ?_; intro _ _) | refine zX ?_ | (refine zC ?_; intro _ _ _ _) | (refine zS ?_; intro _ _) | (apply Ws <;> intro hg))
      rw [show (ds.length : Int) + 1 = ((ds ++ [z]).length : Int) by simp]
      refine WR.storeBox (by first | exact gN | exact gS rfl) hH8 rfl rfl rfl (.there (.there .here)) fun H10 hH10 => ?_
      subst hRb
      repeat' (first | refine zP ?_ | refine zA ?_ | (refine zM ?_; intro _ _) | refine zX ?_ | (refine zC ?_; intro _ _ _ _) | (refine zS ?_; intro _ _) | (apply Ws <;> intro hg))
      exact Ends.rd rfl rfl rfl hH10 .here fun H' h' => ⟨_ :: _ :: _ :: _ :: (M2 ++ M), n', Nat.le_refl _, by rw [List.cons_append, List.cons_append, List.cons_append, List.cons_append, List.append_assoc]; exact h', rfl, ds ++ [z], hds2, rfl⟩
    · rintro _ H7 ⟨_, T0, n7, hn7, hH7, ds, hds, rfl⟩
      rw [List.append_nil] at hds
      subst hds
      simp only [List.cons_append, List.append_assoc] at hH7
      refine rangeEnd_of hH7 .here (by rw [← hRR]; simp) (by rw [← hRR]; rfl) fun H8 hH8 => ?_
      repeat' (first | refine zP ?_ | refine zA ?_ | (refine zM ?_; intro _ _) | refine zX ?_ | (refine zC ?_; intro _ _ _ _) | (refine zS ?_; intro _ _) | (apply Ws <;> intro hg))
      exact Ends.ret2D rfl rfl hH8 (.cons _ (List.Sublist.refl _)) (List.Perm.refl _) fun H' h' => ⟨(n0, .row 3 0 0 [.int .i64 ((grdL xs).length : Int)]) :: (n3, rt) :: (M2 ++ T0), n7, by rw [h00, if_pos rfl], by omega, h'.perm (by classical exact List.perm_iff_count.2 (fun a => by simp only [defds, List.map_cons, List.map_nil, List.count_append, List.count_cons, List.count_nil, List.cons_append, List.nil_append, List.append_nil]; omega))⟩
end
end Go.Proofs.Ytcfffhkabhmkmaa.Ps

/- The reference: checks, what is at hand, what guards, what is apart. -/
namespace Go.Proofs.Ytcfffhkabhmkmaa.Ps
open Go Go.Abs Go.Mth
set_option linter.unusedVariables false
set_option linter.unusedSimpArgs false
def hndT (xs : List Int) (p k : Nat) : List Nat := (List.range k).filter (adj xs p)
theorem hndT_succ (xs : List Int) (p k : Nat) : hndT xs p (k + 1) = if adj xs p k = true then hndT xs p k ++ [k] else hndT xs p k := by
  unfold hndT
  rw [List.range_succ, List.filter_append]
  by_cases h : adj xs p k = true
  · rw [if_pos h, List.filter_cons_of_pos h]; simp
  · rw [if_neg h, List.filter_cons_of_neg h]; simp
theorem hndT_len (xs : List Int) (p k : Nat) : (hndT xs p k).length ≤ k := by
  have := List.length_filter_le (adj xs p) (List.range k)
  simpa [hndT] using this
theorem hndL_len (xs : List Int) (p : Nat) : (hndL xs p).length ≤ xs.length := hndT_len xs p xs.length
attribute [local irreducible] gOK WS WC WR WD Ends FS YS OpV seqK blockK loopK midK retK rdK asgK rangeEnd sat Cell
section
variable {M : HL} {n0 : Nat} {H : Heap} {v w : Value}
theorem in_fs (a lo hi : Int) (H : Heap) : FS C 42 [.int .i64 a, .int .i64 lo, .int .i64 hi] H (fun e H' => H' = H ∧ e = .bool (decide (lo ≤ a ∧ a ≤ hi))) := by
  refine FS.intro (pf := pf42) rfl rfl rfl ?_
  repeat' (first | refine zP ?_ | refine zA ?_ | (refine zM ?_; intro _ _) | refine zX ?_ | (refine zC ?_; intro _ _ _ _) | (refine zS ?_; intro _ _) | (apply Ws <;> intro hg))
  · exact Ends.ret1 rfl ⟨rfl, by congr 1; rw [decide_eq_decide]; omega⟩
  · exact Ends.ret1 rfl ⟨rfl, by rw [decide_eq_false (by omega)]⟩
theorem rCheck_fs (hH : hasH M n0 H) {xs : List Int} (hS : Sl M 1 v (ints xs)) (hx : xs.length ≤ 100000) :
    FS C 13 [v] H (fun e H' => H' = H ∧ e = .int .i64 (errS xs)) := by
  have hv := hS.one_
  refine FS.intro (pf := pf13) rfl rfl rfl ?_
  repeat' (first | refine zP ?_ | refine zA ?_ | (refine zM ?_; intro _ _) | refine zX ?_ | (refine zC ?_; intro _ _ _ _) | (refine zS ?_; intro _ _) | (apply Ws <;> intro hg))
  refine WC.condP rfl (fun h0 => ?_) (fun h0 => ?_)
  · repeat' (first | refine zP ?_ | refine zA ?_ | (refine zM ?_; intro _ _) | refine zX ?_ | (refine zC ?_; intro _ _ _ _) | (refine zS ?_; intro _ _) | (apply Ws <;> intro hg))
    refine Ends.ret1 rfl ⟨rfl, ?_⟩
    unfold errS; rw [if_pos (by omega)]
  · repeat' (first | refine zP ?_ | refine zA ?_ | (refine zM ?_; intro _ _) | refine zX ?_ | (refine zC ?_; intro _ _ _ _) | (refine zS ?_; intro _ _) | (apply Ws <;> intro hg))
    refine WC.condP rfl (fun h7 => ?_) (fun h7 => ?_)
    · repeat' (first | refine zP ?_ | refine zA ?_ | (refine zM ?_; intro _ _) | refine zX ?_ | (refine zC ?_; intro _ _ _ _) | (refine zS ?_; intro _ _) | (apply Ws <;> intro hg))
      refine Ends.ret1 rfl ⟨rfl, ?_⟩
      unfold errS; rw [if_neg (by omega), if_pos (by omega)]
    · repeat' (first | refine zP ?_ | refine zA ?_ | (refine zM ?_; intro _ _) | refine zX ?_ | (refine zC ?_; intro _ _ _ _) | (refine zS ?_; intro _ _) | (apply Ws <;> intro hg))
      refine WC.loopX [(0, v)] (fun k : Nat => [(3, .int .i64 (k : Int))]) [] (fun k H' => H' = H ∧ k ≤ xs.length ∧ firstE (errB xs) k = 0) (fun k => xs.length - k) 0 (by repeat' (first | exact .nil | refine .cons rfl ?_)) rfl ⟨rfl, Nat.zero_le _, rfl⟩ ?_
      rintro k H' ⟨rfl, hk, hz⟩
      dsimp only [List.cons_append, List.nil_append]
      repeat' (first | refine zP ?_ | refine zA ?_ | (refine zM ?_; intro _ _) | refine zX ?_ | (refine zC ?_; intro _ _ _ _) | (refine zS ?_; intro _ _) | (apply Ws <;> intro hg))
      refine WC.condP rfl (fun hlt => ?_) (fun hlt => ?_)
      · have hk' : k < xs.length := by omega
        have hbad : ∀ {c : Int}, errB xs k = 2 → (if xs.length = 0 then 4 else if 10 < xs.length then 3 else firstE (errB xs) xs.length) = 2 := fun {_} h1 => by
          rw [if_neg (by omega), if_neg (by omega), firstE_at hz (by rw [h1]; decide) hk', h1]
        rcases Nat.eq_zero_or_pos k with rfl | hk0
        · have e0 : errB xs 0 = if xs.getD 0 0 = -1 then 0 else 2 := by unfold errB; rw [if_pos rfl]
          by_cases hr : xs.getD 0 0 = -1
          · rw [if_pos hr] at e0
            repeat' (first | refine zP ?_ | refine zA ?_ | (refine zM ?_; intro _ _) | refine zX ?_ | (refine zC ?_; intro _ _ _ _) | (refine zS ?_; intro _ _) | refine zO ?_ | (apply Ws <;> intro hg))
            exact Ends.loop 1 (by omega) (by repeat' (first | exact .nil | refine .cons rfl ?_)) rfl ⟨rfl, by omega, firstE_succ hz e0⟩
          · rw [if_neg hr] at e0
            repeat' (first | refine zP ?_ | refine zA ?_ | (refine zM ?_; intro _ _) | refine zX ?_ | (refine zC ?_; intro _ _ _ _) | (refine zS ?_; intro _ _) | refine zO ?_ | (apply Ws <;> intro hg))
            refine Ends.ret1 rfl ⟨rfl, ?_⟩
            unfold errS; rw [hbad (c := 0) e0]
        · have e0 : errB xs k = if 0 ≤ xs.getD k 0 ∧ xs.getD k 0 < k then 0 else 2 := by unfold errB; rw [if_neg (by omega)]
          repeat' (first | refine zP ?_ | refine zA ?_ | (refine zM ?_; intro _ _) | refine zX ?_ | (refine zC ?_; intro _ _ _ _) | (refine zS ?_; intro _ _) | refine zO ?_ | (apply Ws <;> intro hg))
          refine WR.call (by first | exact gN | exact gS rfl) rfl rfl (in_fs _ _ _ _) ?_
          rintro _ _ ⟨rfl, rfl⟩
          by_cases hr : 0 ≤ xs.getD k 0 ∧ xs.getD k 0 ≤ (k : Int) - 1
          · rw [if_pos (by omega)] at e0
            repeat' (first | refine zP ?_ | refine zA ?_ | (refine zM ?_; intro _ _) | refine zX ?_ | (refine zC ?_; intro _ _ _ _) | (refine zS ?_; intro _ _) | refine zO ?_ | (apply Ws <;> intro hg))
            exact Ends.loop (k + 1) (by omega) (by repeat' (first | exact .nil | refine .cons rfl ?_)) rfl ⟨rfl, hk', firstE_succ hz e0⟩
          · rw [if_neg (by omega)] at e0
            repeat' (first | refine zP ?_ | refine zA ?_ | (refine zM ?_; intro _ _) | refine zX ?_ | (refine zC ?_; intro _ _ _ _) | (refine zS ?_; intro _ _) | refine zO ?_ | (apply Ws <;> intro hg))
            refine Ends.ret1 rfl ⟨rfl, ?_⟩
            unfold errS; rw [hbad (c := 0) e0]
      · have hkn : k = xs.length := by omega
        subst hkn
        repeat' (first | refine zP ?_ | refine zA ?_ | (refine zM ?_; intro _ _) | refine zX ?_ | (refine zC ?_; intro _ _ _ _) | (refine zS ?_; intro _ _) | (apply Ws <;> intro hg))
        refine Ends.ret1 rfl ⟨rfl, ?_⟩
        unfold errS; rw [if_neg (by omega), if_neg (by omega), hz]
theorem hand_fs (hH : hasH M n0 H) {xs : List Int} (hS : Sl M 1 v (ints xs)) (hx : xs.length ≤ 1000) {p : Nat} (hp : p < xs.length) :
    FS C 43 [v, .int .i64 (p : Int)] H (fun e H' => ∃ Mx n', Own 3 1 e (nodes (hndL xs p)) Mx ∧ n0 ≤ n' ∧ hasH (Mx ++ M) n' H') := by
  have hv := hS.one_
  refine FS.intro (pf := pf43) rfl rfl rfl ?_
  repeat' (first | refine zP ?_ | refine zA ?_ | (refine zM ?_; intro _ _) | refine zX ?_ | (refine zC ?_; intro _ _ _ _) | (refine zS ?_; intro _ _) | (apply Ws <;> intro hg))
  refine WC.loopX [(0, v), (1, _)] (fun s : KO => [(6, .int .i64 (s.k : Int)), (5, s.v)]) [] (fun s H' => s.k ≤ xs.length ∧ Own 3 1 s.v (nodes (hndT xs p s.k)) s.Mx ∧ n0 ≤ s.n ∧ hasH (s.Mx ++ M) s.n H') (fun s => xs.length - s.k) ⟨0, .slice none 0 0, [], n0⟩ (by repeat' (first | exact .nil | refine .cons rfl ?_)) rfl ⟨Nat.zero_le _, .nil, Nat.le_refl _, hH⟩ ?_
  clear hH
  rintro ⟨k, v7, Mx, n1⟩ H1 ⟨hk, hO, hn1, hH⟩
  simp only at hk hO hn1 hH
  have hil := hndT_len xs p k
  have his := hndT_succ xs p k
  have hS1 := hS.mono fun q hq => List.mem_append_right Mx hq
  dsimp only [List.cons_append, List.nil_append]
  repeat' (first | refine zP ?_ | refine zA ?_ | (refine zM ?_; intro _ _) | refine zX ?_ | (refine zC ?_; intro _ _ _ _) | (refine zS ?_; intro _ _) | (apply Ws <;> intro hg))
  refine WC.condP rfl (fun hlt => ?_) (fun hlt => ?_)
  · have hk' : k < xs.length := by omega
    have hadj := adj_iff (xs := xs) (i := p) (j := k)
    by_cases h1 : k = p
    · rw [if_pos (hadj.2 (.inl h1.symm))] at his
      repeat' (first | refine zP ?_ | refine zA ?_ | (refine zM ?_; intro _ _) | refine zX ?_ | (refine zC ?_; intro _ _ _ _) | (refine zS ?_; intro _ _) | refine zO ?_ | (apply Ws <;> intro hg))
      refine WR.append1F [] Mx M rfl rfl rfl rfl hO hH (new := [.int .i64 (k : Int)]) rfl rfl rfl (Nat.le_refl _) (by decide) (by simp; omega) fun v' Mx' n' H' q1 q2 q3 => ?_
      repeat' (first | refine zP ?_ | refine zA ?_ | (refine zM ?_; intro _ _) | refine zX ?_ | (refine zC ?_; intro _ _ _ _) | (refine zS ?_; intro _ _) | (apply Ws <;> intro hg))
      refine Ends.loop ⟨k + 1, v', Mx', n'⟩ (by simp only; omega) (by repeat' (first | exact .nil | refine .cons rfl ?_)) rfl ⟨hk', ?_, by simp only; omega, q2⟩
      simp only
      rw [his, nodes_snoc]; exact q1
    · by_cases h2 : xs.getD k 0 = (p : Int)
      · rw [if_pos (hadj.2 (.inr (.inr h2)))] at his
        repeat' (first | refine zP ?_ | refine zA ?_ | (refine zM ?_; intro _ _) | refine zX ?_ | (refine zC ?_; intro _ _ _ _) | (refine zS ?_; intro _ _) | refine zO ?_ | (apply Ws <;> intro hg))
        refine WR.append1F [] Mx M rfl rfl rfl rfl hO hH (new := [.int .i64 (k : Int)]) rfl rfl rfl (Nat.le_refl _) (by decide) (by simp; omega) fun v' Mx' n' H' q1 q2 q3 => ?_
        repeat' (first | refine zP ?_ | refine zA ?_ | (refine zM ?_; intro _ _) | refine zX ?_ | (refine zC ?_; intro _ _ _ _) | (refine zS ?_; intro _ _) | (apply Ws <;> intro hg))
        refine Ends.loop ⟨k + 1, v', Mx', n'⟩ (by simp only; omega) (by repeat' (first | exact .nil | refine .cons rfl ?_)) rfl ⟨hk', ?_, by simp only; omega, q2⟩
        simp only
        rw [his, nodes_snoc]; exact q1
      · by_cases h3 : xs.getD p 0 = (k : Int)
        · rw [if_pos (hadj.2 (.inr (.inl h3)))] at his
          repeat' (first | refine zP ?_ | refine zA ?_ | (refine zM ?_; intro _ _) | refine zX ?_ | (refine zC ?_; intro _ _ _ _) | (refine zS ?_; intro _ _) | refine zO ?_ | (apply Ws <;> intro hg))
          refine WR.append1F [] Mx M rfl rfl rfl rfl hO hH (new := [.int .i64 (k : Int)]) rfl rfl rfl (Nat.le_refl _) (by decide) (by simp; omega) fun v' Mx' n' H' q1 q2 q3 => ?_
          repeat' (first | refine zP ?_ | refine zA ?_ | (refine zM ?_; intro _ _) | refine zX ?_ | (refine zC ?_; intro _ _ _ _) | (refine zS ?_; intro _ _) | (apply Ws <;> intro hg))
          refine Ends.loop ⟨k + 1, v', Mx', n'⟩ (by simp only; omega) (by repeat' (first | exact .nil | refine .cons rfl ?_)) rfl ⟨hk', ?_, by simp only; omega, q2⟩
          simp only
          rw [his, nodes_snoc]; exact q1
        · rw [if_neg (fun h => by rcases hadj.1 h with h | h | h; exact h1 h.symm; exact h3 h; exact h2 h)] at his
          repeat' (first | refine zP ?_ | refine zA ?_ | (refine zM ?_; intro _ _) | refine zX ?_ | (refine zC ?_; intro _ _ _ _) | (refine zS ?_; intro _ _) | refine zO ?_ | (apply Ws <;> intro hg))
          refine Ends.loop ⟨k + 1, v7, Mx, n1⟩ (by simp only; omega) (by repeat' (first | exact .nil | refine .cons rfl ?_)) rfl ⟨hk', ?_, by simp only; omega, hH⟩
          simp only
          rw [his]; exact hO
  · have hkn : k = xs.length := by omega
    subst hkn
    repeat' (first | refine zP ?_ | refine zA ?_ | (refine zM ?_; intro _ _) | refine zX ?_ | (refine zC ?_; intro _ _ _ _) | (refine zS ?_; intro _ _) | (apply Ws <;> intro hg))
    exact Ends.ret1 rfl ⟨Mx, n1, hO, hn1, hH⟩
theorem has_fs (hH : hasH M n0 H) {l : List Nat} (hS : Sl M 1 v (nodes l)) (hl : l.length ≤ 100000) (a : Nat) :
    FS C 72 [v, .int .i64 (a : Int)] H (fun e H' => e = .bool (decide (a ∈ l)) ∧ H' = H) := by
  have hv := hS.one_
  refine FS.intro (pf := pf72) rfl rfl rfl ?_
  repeat' (first | refine zP ?_ | refine zA ?_ | (refine zM ?_; intro _ _) | refine zX ?_ | (refine zC ?_; intro _ _ _ _) | (refine zS ?_; intro _ _) | (apply Ws <;> intro hg))
  refine WC.loopX [(0, v), (1, _)] (fun k : Nat => [(5, .int .i64 (k : Int))]) [] (fun k H' => H' = H ∧ k ≤ l.length ∧ a ∉ l.take k) (fun k => l.length - k) 0 (by repeat' (first | exact .nil | refine .cons rfl ?_)) rfl ⟨rfl, Nat.zero_le _, by simp⟩ ?_
  rintro k H' ⟨rfl, hk, hno⟩
  dsimp only [List.cons_append, List.nil_append]
  repeat' (first | refine zP ?_ | refine zA ?_ | (refine zM ?_; intro _ _) | refine zX ?_ | (refine zC ?_; intro _ _ _ _) | (refine zS ?_; intro _ _) | (apply Ws <;> intro hg))
  refine WC.condP rfl (fun hlt => ?_) (fun hlt => ?_)
  · have hk' : k < l.length := by omega
    by_cases he : l.getD k 0 = a
    · repeat' (first | refine zP ?_ | refine zA ?_ | (refine zM ?_; intro _ _) | refine zX ?_ | (refine zC ?_; intro _ _ _ _) | (refine zS ?_; intro _ _) | refine zO ?_ | (apply Ws <;> intro hg))
      refine Ends.ret1 rfl ⟨?_, rfl⟩
      rw [decide_eq_true (by rw [← he]; exact getD_mem hk')]
    · repeat' (first | refine zP ?_ | refine zA ?_ | (refine zM ?_; intro _ _) | refine zX ?_ | (refine zC ?_; intro _ _ _ _) | (refine zS ?_; intro _ _) | refine zO ?_ | (apply Ws <;> intro hg))
      refine Ends.loop (k + 1) (by omega) (by repeat' (first | exact .nil | refine .cons rfl ?_)) rfl ⟨rfl, hk', ?_⟩
      rw [List.take_succ_eq_append_getElem hk', List.mem_append, ← getD_eq (a := 0)]
      rintro (h | h)
      · exact hno h
      · exact he (List.mem_singleton.1 h).symm
  · have hkl : k = l.length := by omega
    subst hkl
    rw [List.take_length] at hno
    repeat' (first | refine zP ?_ | refine zA ?_ | (refine zM ?_; intro _ _) | refine zX ?_ | (refine zC ?_; intro _ _ _ _) | (refine zS ?_; intro _ _) | (apply Ws <;> intro hg))
    exact Ends.ret1 rfl ⟨by rw [decide_eq_false hno], rfl⟩
theorem common_fs (hH : hasH M n0 H) {l m : List Nat} (hS : Sl M 1 v (nodes l)) (hU : Sl M 1 w (nodes m)) (hl : l.length ≤ 100000) (hm : m.length ≤ 100000) :
    FS C 64 [v, w] H (fun e H' => e = .bool (decide (∃ x ∈ l, x ∈ m)) ∧ H' = H) := by
  have hv := hS.one_
  have hw := hU.one_
  refine FS.intro (pf := pf64) rfl rfl rfl ?_
  repeat' (first | refine zP ?_ | refine zA ?_ | (refine zM ?_; intro _ _) | refine zX ?_ | (refine zC ?_; intro _ _ _ _) | (refine zS ?_; intro _ _) | (apply Ws <;> intro hg))
  refine WC.loopX [(0, v), (1, w)] (fun k : Nat => [(5, .int .i64 (k : Int))]) [] (fun k H' => H' = H ∧ k ≤ l.length ∧ ¬ ∃ x ∈ l.take k, x ∈ m) (fun k => l.length - k) 0 (by repeat' (first | exact .nil | refine .cons rfl ?_)) rfl ⟨rfl, Nat.zero_le _, by simp⟩ ?_
  rintro k H' ⟨rfl, hk, hno⟩
  dsimp only [List.cons_append, List.nil_append]
  repeat' (first | refine zP ?_ | refine zA ?_ | (refine zM ?_; intro _ _) | refine zX ?_ | (refine zC ?_; intro _ _ _ _) | (refine zS ?_; intro _ _) | (apply Ws <;> intro hg))
  refine WC.condP rfl (fun hlt => ?_) (fun hlt => ?_)
  · have hk' : k < l.length := by omega
    repeat' (first | refine zP ?_ | refine zA ?_ | (refine zM ?_; intro _ _) | refine zX ?_ | (refine zC ?_; intro _ _ _ _) | (refine zS ?_; intro _ _) | (apply Ws <;> intro hg))
    refine WR.call (by first | exact gN | exact gS rfl) rfl rfl (has_fs hH hU hm _) ?_
    rintro _ _ ⟨rfl, rfl⟩
    by_cases he : l.getD k 0 ∈ m
    · rw [decide_eq_true he]
      repeat' (first | refine zP ?_ | refine zA ?_ | (refine zM ?_; intro _ _) | refine zX ?_ | (refine zC ?_; intro _ _ _ _) | (refine zS ?_; intro _ _) | refine zO ?_ | (apply Ws <;> intro hg))
      refine Ends.ret1 rfl ⟨?_, rfl⟩
      rw [decide_eq_true ⟨_, getD_mem hk', he⟩]
    · rw [decide_eq_false he]
      repeat' (first | refine zP ?_ | refine zA ?_ | (refine zM ?_; intro _ _) | refine zX ?_ | (refine zC ?_; intro _ _ _ _) | (refine zS ?_; intro _ _) | refine zO ?_ | (apply Ws <;> intro hg))
      refine Ends.loop (k + 1) (by omega) (by repeat' (first | exact .nil | refine .cons rfl ?_)) rfl ⟨rfl, hk', ?_⟩
      rw [List.take_succ_eq_append_getElem hk', ← getD_eq (a := 0)]
      rintro ⟨x, hx, hxm⟩
      rcases List.mem_append.1 hx with h | h
      · exact hno ⟨x, h, hxm⟩
      · rw [List.mem_singleton.1 h] at hxm; exact he hxm
  · have hkl : k = l.length := by omega
    subst hkl
    rw [List.take_length] at hno
    repeat' (first | refine zP ?_ | refine zA ?_ | (refine zM ?_; intro _ _) | refine zX ?_ | (refine zC ?_; intro _ _ _ _) | (refine zS ?_; intro _ _) | (apply Ws <;> intro hg))
    exact Ends.ret1 rfl ⟨by rw [decide_eq_false hno], rfl⟩
theorem com_grd {xs : List Int} {i : Nat} {l : List Nat} (hl : ∀ x ∈ l, x < xs.length) : (∃ x ∈ hndL xs i, x ∈ l) ↔ ∃ p ∈ l, adj xs p i = true := by
  constructor
  · rintro ⟨x, h1, h2⟩
    exact ⟨x, h2, by rw [adj_comm]; exact (List.mem_filter.1 h1).2⟩
  · rintro ⟨p, h1, h2⟩
    exact ⟨p, List.mem_filter.2 ⟨List.mem_range.2 (hl p h1), by rw [adj_comm]; exact h2⟩, h1⟩
theorem rguards_fs (hH : hasH M n0 H) {xs : List Int} (hS : Sl M 1 v (ints xs)) (hx : xs.length ≤ 1000) {l : List Nat} (hU : Sl M 1 w (nodes l)) (hl : ∀ x ∈ l, x < xs.length) (hll : l.length ≤ 1000) :
    FS C 48 [v, w] H (fun e H' => e = .bool (grd xs l) ∧ ∃ n', n0 ≤ n' ∧ hasH M n' H') := by
  have hv := hS.one_
  have hw := hU.one_
  refine FS.intro (pf := pf48) rfl rfl rfl ?_
  repeat' (first | refine zP ?_ | refine zA ?_ | (refine zM ?_; intro _ _) | refine zX ?_ | (refine zC ?_; intro _ _ _ _) | (refine zS ?_; intro _ _) | (apply Ws <;> intro hg))
  refine WC.loopX [(0, v), (1, w)] (fun s : KC => [(5, .int .i64 (s.k : Int))]) [] (fun s H' => s.k ≤ xs.length ∧ (∀ i, i < s.k → ∃ p ∈ l, adj xs p i = true) ∧ n0 ≤ s.n ∧ hasH M s.n H') (fun s => xs.length - s.k) ⟨0, n0⟩ (by repeat' (first | exact .nil | refine .cons rfl ?_)) rfl ⟨Nat.zero_le _, fun i h => absurd h (Nat.not_lt_zero _), Nat.le_refl _, hH⟩ ?_
  clear hH
  rintro ⟨k, n1⟩ H1 ⟨hk, hall, hn1, hH⟩
  simp only at hk hall hn1 hH
  dsimp only [List.cons_append, List.nil_append]
  repeat' (first | refine zP ?_ | refine zA ?_ | (refine zM ?_; intro _ _) | refine zX ?_ | (refine zC ?_; intro _ _ _ _) | (refine zS ?_; intro _ _) | (apply Ws <;> intro hg))
  refine WC.condP rfl (fun hlt => ?_) (fun hlt => ?_)
  · have hk' : k < xs.length := by omega
    repeat' (first | refine zP ?_ | refine zA ?_ | (refine zM ?_; intro _ _) | refine zX ?_ | (refine zC ?_; intro _ _ _ _) | (refine zS ?_; intro _ _) | (apply Ws <;> intro hg))
    refine WR.call (by first | exact gN | exact gS rfl) rfl rfl (hand_fs hH hS hx hk') ?_
    rintro e2 H2 ⟨Mx, n2, hO, hn2, hH2⟩
    have hlen := hndL_len xs k
    repeat' (first | refine zP ?_ | refine zA ?_ | (refine zM ?_; intro _ _) | refine zX ?_ | (refine zC ?_; intro _ _ _ _) | (refine zS ?_; intro _ _) | (apply Ws <;> intro hg))
    refine WR.call (by first | exact gN | exact gS rfl) rfl rfl (common_fs hH2 (hO.sl M) (hU.mono fun q hq => List.mem_append_right Mx hq) (by omega) (by omega)) ?_
    rintro _ _ ⟨rfl, rfl⟩
    have hcg := com_grd (i := k) hl
    by_cases hc : ∃ x ∈ hndL xs k, x ∈ l
    · rw [decide_eq_true hc]
      repeat' (first | refine zP ?_ | refine zA ?_ | (refine zM ?_; intro _ _) | refine zX ?_ | (refine zC ?_; intro _ _ _ _) | (refine zS ?_; intro _ _) | refine zO ?_ | (apply Ws <;> intro hg))
      refine Ends.loop ⟨k + 1, n2⟩ (by simp only; omega) (by repeat' (first | exact .nil | refine .cons rfl ?_)) rfl ⟨hk', fun i hi => ?_, by simp only; omega, hH2.sub (List.sublist_append_right _ _)⟩
      by_cases e : i = k
      · rw [e]; exact hcg.1 hc
      · exact hall i (by simp only at hi; omega)
    · rw [decide_eq_false hc]
      repeat' (first | refine zP ?_ | refine zA ?_ | (refine zM ?_; intro _ _) | refine zX ?_ | (refine zC ?_; intro _ _ _ _) | (refine zS ?_; intro _ _) | refine zO ?_ | (apply Ws <;> intro hg))
      refine Ends.ret1 rfl ⟨?_, n2, by omega, hH2.sub (List.sublist_append_right _ _)⟩
      cases hg : grd xs l with
      | false => rfl
      | true => exact absurd (hcg.2 (grd_iff.1 hg k hk')) hc
  · have hkl : k = xs.length := by omega
    subst hkl
    repeat' (first | refine zP ?_ | refine zA ?_ | (refine zM ?_; intro _ _) | refine zX ?_ | (refine zC ?_; intro _ _ _ _) | (refine zS ?_; intro _ _) | (apply Ws <;> intro hg))
    exact Ends.ret1 rfl ⟨by rw [grd_iff.2 hall], n1, hn1, hH⟩
end
end Go.Proofs.Ytcfffhkabhmkmaa.Ps

/- The reference: lists of places; the law PostHands. -/
namespace Go.Proofs.Ytcfffhkabhmkmaa.Ps
open Go Go.Abs Go.Mth
set_option linter.unusedVariables false
set_option linter.unusedSimpArgs false
attribute [local irreducible] gOK WS WC WR WD Ends FS YS OpV seqK blockK loopK midK retK rdK asgK rangeEnd sat Cell
section
variable {M : HL} {n0 : Nat} {H : Heap} {v w : Value}
theorem sameI_fs (hH : hasH M n0 H) {a b : List Int} (hS : Sl M 1 v (ints a)) (hU : Sl M 1 w (ints b)) (ha : a.length ≤ 100000) (hb : b.length ≤ 100000) :
    FS C 11 [v, w] H (fun e H' => e = .bool (decide (a = b)) ∧ H' = H) := by
  have hv := hS.one_
  have hw := hU.one_
  refine FS.intro (pf := pf11) rfl rfl rfl ?_
  repeat' (first | refine zP ?_ | refine zA ?_ | (refine zM ?_; intro _ _) | refine zX ?_ | (refine zC ?_; intro _ _ _ _) | (refine zS ?_; intro _ _) | (apply Ws <;> intro hg))
  refine WC.condP rfl (fun hne => ?_) (fun hne => ?_)
  · repeat' (first | refine zP ?_ | refine zA ?_ | (refine zM ?_; intro _ _) | refine zX ?_ | (refine zC ?_; intro _ _ _ _) | (refine zS ?_; intro _ _) | (apply Ws <;> intro hg))
    exact Ends.ret1 rfl ⟨by rw [decide_eq_false (fun h => by rw [h] at hne; exact hne rfl)], rfl⟩
  · have hle : a.length = b.length := by omega
    repeat' (first | refine zP ?_ | refine zA ?_ | (refine zM ?_; intro _ _) | refine zX ?_ | (refine zC ?_; intro _ _ _ _) | (refine zS ?_; intro _ _) | (apply Ws <;> intro hg))
    refine WC.loopX [(0, v), (1, w)] (fun k : Nat => [(5, .int .i64 (k : Int))]) [] (fun k H' => H' = H ∧ k ≤ a.length ∧ ∀ j, j < k → a.getD j 0 = b.getD j 0) (fun k => a.length - k) 0 (by repeat' (first | exact .nil | refine .cons rfl ?_)) rfl ⟨rfl, Nat.zero_le _, fun j h => absurd h (Nat.not_lt_zero _)⟩ ?_
    rintro k H' ⟨rfl, hk, hall⟩
    dsimp only [List.cons_append, List.nil_append]
    repeat' (first | refine zP ?_ | refine zA ?_ | (refine zM ?_; intro _ _) | refine zX ?_ | (refine zC ?_; intro _ _ _ _) | (refine zS ?_; intro _ _) | (apply Ws <;> intro hg))
    refine WC.condP rfl (fun hlt => ?_) (fun hlt => ?_)
    · have hk' : k < a.length := by omega
      have hkb : k < b.length := by omega
      repeat' (first | refine zP ?_ | refine zA ?_ | (refine zM ?_; intro _ _) | refine zX ?_ | (refine zC ?_; intro _ _ _ _) | (refine zS ?_; intro _ _))
      by_cases he : a.getD k 0 = b.getD k 0
      · repeat' (first | refine zP ?_ | refine zA ?_ | (refine zM ?_; intro _ _) | refine zX ?_ | (refine zC ?_; intro _ _ _ _) | (refine zS ?_; intro _ _) | refine zO ?_ | (apply Ws <;> intro hg))
        refine Ends.loop (k + 1) (by omega) (by repeat' (first | exact .nil | refine .cons rfl ?_)) rfl ⟨rfl, hk', fun j hj => ?_⟩
        by_cases e : j = k
        · rw [e]; exact he
        · exact hall j (by omega)
      · repeat' (first | refine zP ?_ | refine zA ?_ | (refine zM ?_; intro _ _) | refine zX ?_ | (refine zC ?_; intro _ _ _ _) | (refine zS ?_; intro _ _) | refine zO ?_ | (apply Ws <;> intro hg))
        exact Ends.ret1 rfl ⟨by rw [decide_eq_false (fun h => he (by rw [h]))], rfl⟩
    · have hkl : k = a.length := by omega
      subst hkl
      repeat' (first | refine zP ?_ | refine zA ?_ | (refine zM ?_; intro _ _) | refine zX ?_ | (refine zC ?_; intro _ _ _ _) | (refine zS ?_; intro _ _) | (apply Ws <;> intro hg))
      exact Ends.ret1 rfl ⟨by rw [decide_eq_true (ext_getD (a := 0) hle hall)], rfl⟩
theorem same_fs (hH : hasH M n0 H) {a b : List Nat} (hS : Sl M 1 v (nodes a)) (hU : Sl M 1 w (nodes b)) (ha : a.length ≤ 100000) (hb : b.length ≤ 100000) :
    FS C 11 [v, w] H (fun e H' => e = .bool (decide (a = b)) ∧ H' = H) := by
  refine (sameI_fs hH (a := IL a) (b := IL b) (by rw [← nodes_IL]; exact hS) (by rw [← nodes_IL]; exact hU) (by rw [IL_len]; exact ha) (by rw [IL_len]; exact hb)).mono ?_
  rintro e H' ⟨h1, h2⟩
  refine ⟨?_, h2⟩
  rw [h1]
  congr 1
  rw [decide_eq_decide]
  constructor
  · intro h
    have := congrArg (List.map Int.toNat) h
    rwa [toNat_IL, toNat_IL] at this
  · intro h; rw [h]
end
end Go.Proofs.Ytcfffhkabhmkmaa.Ps

/- The reference: all lists of places. -/
namespace Go.Proofs.Ytcfffhkabhmkmaa.Ps
open Go Go.Abs Go.Mth
set_option linter.unusedVariables false
set_option linter.unusedSimpArgs false
def fromL (b : List Nat) : Nat := if b = [] then 0 else b.getD (b.length - 1) 0 + 1
theorem fromL_snoc (b : List Nat) (x : Nat) : fromL (b ++ [x]) = x + 1 := by
  unfold fromL
  rw [if_neg (by simp), List.length_append, List.length_singleton, Nat.add_sub_cancel, snoc_at]
theorem RowsB.all_one {M : HL} {ws : List Value} {zs : List (List Nat)} (h : RowsB M ws zs) : ws.all one = true := by
  rw [List.all_eq_true]
  intro w hw
  obtain ⟨i, hi, rfl⟩ := List.mem_iff_getElem.1 hw
  have := h.2 i (by rw [← h.1]; exact hi)
  rw [getD_eq hi] at this
  exact this.one_
theorem RowsB.app {M : HL} {ws us : List Value} {zs ys : List (List Nat)} (h : RowsB M ws zs) (k : RowsB M us ys) : RowsB M (ws ++ us) (zs ++ ys) := by
  refine ⟨by simp [h.1, k.1], fun i hi => ?_⟩
  by_cases e : i < zs.length
  · rw [getD_app_l (by rw [h.1]; exact e), getD_app_l e]; exact h.2 i e
  · rw [List.length_append] at hi
    have h1 : (ws ++ us).getD i undef = us.getD (i - zs.length) undef := by
      rw [List.getD_eq_getElem?_getD, List.getElem?_append_right (by rw [h.1]; omega), h.1, ← List.getD_eq_getElem?_getD]
    have h2 : (zs ++ ys).getD i [] = ys.getD (i - zs.length) [] := by
      rw [List.getD_eq_getElem?_getD, List.getElem?_append_right (by omega), ← List.getD_eq_getElem?_getD]
    rw [h1, h2]
    exact k.2 _ (by omega)
structure KR where
  i : Nat
  v : Value
  ws : List Value
  O : List (List Nat)
  MO : HL
  Mi : HL
  n : Nat
attribute [local irreducible] gOK WS WC WR WD Ends FS YS OpV seqK blockK loopK midK retK rdK asgK rangeEnd sat Cell
section
set_option maxHeartbeats 2000000 in
theorem lists_fs {n : Nat} (hn : n ≤ 10) : ∀ (m : Nat), m ≤ n → ∀ {M Mb : HL} {n0 : Nat} {H : Heap} {v : Value} {b : List Nat} (hH : hasH M n0 H) (hMb : ∀ p ∈ Mb, p ∈ M) (hS : Sl Mb 1 v (nodes b)) (h0 : b = [] → v = .slice none 0 0) (hf : fromL b = n - m) (hbl : b.length ≤ 10 - m),
    FS C 56 [.int .i64 (n : Int), v] H (fun e H' => ∃ ws MB Mi n', Own 22 1 e ws MB ∧ RowsB (Mi ++ Mb) ws (b :: T n m b) ∧ n0 ≤ n' ∧ hasH (MB ++ (Mi ++ M)) n' H') := by
  intro m
  induction m using Nat.strongRecOn with
  | ind m ih =>
    intro hm M Mb n0 H v b hH hMb hSb h0 hf hbl
    have hS := hSb.mono hMb
    have hv := hS.one_
    have hTl := T_len n m b
    have hpow : 2 ^ m ≤ 2 ^ 10 := Nat.pow_le_pow_right (by omega) (by omega)
    refine FS.intro (pf := pf56) rfl rfl rfl ?_
    repeat' (first | refine zP ?_ | refine zA ?_ | (refine zM ?_; intro _ _) | refine zX ?_ | (refine zC ?_; intro _ _ _ _) | (refine zS ?_; intro _ _) | (apply Ws <;> intro hg))
    refine WR.bldS (by first | exact gN | exact gS rfl) rfl hH (vs := [(0, v)]) rfl (cs := [v]) (fill1 hv) (by simp [hv]) fun H1 hH1 => ?_
    have hS1 := hS.cons (p := (n0, Ch.row 22 0 0 [v]))
    have hH1' : hasH ([(n0, Ch.inp 22 0 0 [v])] ++ ([] ++ M)) (n0 + 1) H1 := hH1.asInp .here
    have hO1 : Own 22 1 (.slice (some ⟨n0, 0, some 0⟩) 1 (2 * 1 + 1)) [v] [(n0, .inp 22 0 0 [v])] := .full (len := 1) rfl (by simp [hv])
    have hR1 : RowsB ([] ++ Mb) [v] [b] := RowsB.snoc (ws := []) (zs := []) (RowsB.nil _) hSb
    have hS1' : Sl ((n0, Ch.inp 22 0 0 [v]) :: M) 1 v (nodes b) := hS.cons
    clear hH hH1
    replace hH1 : hasH ((n0, Ch.inp 22 0 0 [v]) :: M) (n0 + 1) H1 := hH1'
    clear hS1
    by_cases hb0 : b.length = 0
    case' pos =>
      have hbn : b = [] := List.eq_nil_of_length_eq_zero hb0
      have hf0 : n - m = 0 := by rw [← hf, hbn]; rfl
      repeat' (first | refine zP ?_ | refine zA ?_ | (refine zM ?_; intro _ _) | refine zX ?_ | (refine zC ?_; intro _ _ _ _) | (refine zS ?_; intro _ _) | refine zO ?_ | (apply Ws <;> intro hg))
      rw [show (0 : Int) = ((n - m : Nat) : Int) by omega]
    case' neg =>
      have hbne : b ≠ [] := fun h => hb0 (by rw [h]; rfl)
      have hf1 : b.getD (b.length - 1) 0 + 1 = n - m := by rw [← hf, fromL, if_neg hbne]
      repeat' (first | refine zP ?_ | refine zA ?_ | (refine zM ?_; intro _ _) | refine zX ?_ | (refine zC ?_; intro _ _ _ _) | (refine zS ?_; intro _ _) | refine zO ?_ | (apply Ws <;> intro hg))
      rw [show ((b.getD (b.length - 1) 0 : Nat) : Int) + 1 = ((n - m : Nat) : Int) by omega]
    all_goals
      refine WC.loopX [(0, _), (1, v)] (fun z : KR => [(7, .int .i64 (z.i : Int)), (5, z.v)]) []
        (fun z H' => n - m ≤ z.i ∧ z.i ≤ n ∧ z.O ++ T n (n - z.i) b = b :: T n m b ∧ Own 22 1 z.v z.ws z.MO ∧ RowsB (z.Mi ++ Mb) z.ws z.O ∧ n0 ≤ z.n ∧ hasH (z.MO ++ (z.Mi ++ M)) z.n H') (fun z => n - z.i)
        ⟨n - m, .slice (some ⟨n0, 0, some 0⟩) 1 (2 * 1 + 1), [v], [b], [(n0, .inp 22 0 0 [v])], [], n0 + 1⟩ (by repeat' (first | exact .nil | refine .cons rfl ?_)) rfl ⟨Nat.le_refl _, Nat.sub_le _ _, by simp only; rw [show n - (n - m) = m by omega]; rfl, hO1, hR1, by simp only; omega, hH1'⟩ ?_
      clear hH1 hO1 hR1 hS1' hH1' hS
      rintro ⟨i, v5, ws, O, MO, Mi, n1⟩ H2 ⟨hi1, hi2, hOT, hO, hR, hn1, hH⟩
      simp only at hi1 hi2 hOT hO hR hn1 hH
      dsimp only [List.cons_append, List.nil_append]
      repeat' (first | refine zP ?_ | refine zA ?_ | (refine zM ?_; intro _ _) | refine zX ?_ | (refine zC ?_; intro _ _ _ _) | (refine zS ?_; intro _ _) | (apply Ws <;> intro hg))
      refine WC.condP rfl (fun hlt => ?_) (fun hlt => ?_)
      · have hi' : i < n := by omega
        obtain ⟨q, hq⟩ : ∃ q, n - i = q + 1 := ⟨n - i - 1, by omega⟩
        have hqi : n - (q + 1) = i := by omega
        rw [hq, T, hqi] at hOT
        have hS0 : Sl (MO ++ (Mi ++ M)) 1 v (nodes b) := hSb.mono fun q hq => List.mem_append_right _ (List.mem_append_right _ (hMb q hq))
        obtain ⟨X, hX⟩ : ∃ X, MO ++ (Mi ++ M) = X := ⟨_, rfl⟩
        rw [hX] at hH hS0
        repeat' (first | refine zP ?_ | refine zA ?_ | (refine zM ?_; intro _ _) | refine zX ?_ | (refine zC ?_; intro _ _ _ _) | (refine zS ?_; intro _ _) | (apply Ws <;> intro hg))
        refine WR.bldS (by first | exact gN | exact gS rfl) rfl hH (vs := []) rfl (cs := []) (by rfl) rfl fun H3 hH3 => ?_
        repeat' (first | refine zP ?_ | refine zA ?_ | (refine zM ?_; intro _ _) | refine zX ?_ | (refine zC ?_; intro _ _ _ _) | (refine zS ?_; intro _ _) | (apply Ws <;> intro hg))
        refine WR.appZS (Mx := [(n1, Ch.row 3 0 0 [])]) (T := X) (xs := []) (ys := b) (by first | exact gN | exact gS rfl) rfl rfl rfl .empty (hS0.mono fun q hq => List.mem_append_right _ hq) h0 hH3 (by simp) (by omega) fun v4 M4 n4 H4 hO4 hH4 hn4 => ?_
        rw [List.nil_append] at hO4
        repeat' (first | refine zP ?_ | refine zA ?_ | (refine zM ?_; intro _ _) | refine zX ?_ | (refine zC ?_; intro _ _ _ _) | (refine zS ?_; intro _ _) | (apply Ws <;> intro hg))
        refine WR.app1Z (y := i) (xs := b) (T := X) rfl rfl rfl rfl hO4 hH4 (by rfl) (by omega) fun v5' M5 n5 H5 hO5 hH5 hn5 => ?_
        clear hH hH3 hH4
        refine WR.call (by first | exact gN | exact gS rfl) rfl rfl (ih q (by omega) (by omega) (Mb := M5) hH5 (fun p hp => List.mem_append_left _ hp) ((hO5.own.sl []).mono fun p hp => by simpa using hp) (fun h => absurd h (by simp)) (by rw [fromL_snoc]; omega) (by simp; omega)) ?_
        rintro e6 H6 ⟨us, MB, Mj, n6, hO6, hR6, hn6, hH6⟩
        have hTq := T_len n q (b ++ [i])
        have hlen := congrArg List.length hOT
        simp only [List.length_append, List.length_cons] at hlen
        have hul := hR6.1
        have hwl := hR.1
        rw [List.length_cons] at hul
        have hR6' : RowsB ((MB ++ (Mj ++ (M5 ++ Mi))) ++ Mb) us ((b ++ [i]) :: T n q (b ++ [i])) := hR6.mono fun q hq => by
          rcases List.mem_append.1 hq with h | h <;> simp [h]
        have hune : us ≠ [] := fun h => by rw [h] at hul; simp at hul
        obtain ⟨hk6, hs6⟩ := (hO6.sl (Mj ++ (M5 ++ X))).src hH6 hune
        have hs7 := hs6 _ (Nat.le_refl _)
        rw [List.take_length] at hs7
        subst hX
        refine WR.append (M' := MB ++ (Mj ++ (M5 ++ (MO ++ (Mi ++ M))))) (M0 := MB ++ (Mj ++ (M5 ++ (Mi ++ M)))) (by first | exact gN | exact gS rfl) rfl rfl rfl hO hH6 (List.Sublist.refl _) (by classical exact List.perm_iff_count.2 (fun a => by simp only [defds, List.map_cons, List.map_nil, List.count_append, List.count_cons, List.count_nil, List.cons_append, List.nil_append, List.append_nil]; omega)) hk6 hs7 (by simp) (by omega) hR6.all_one (Nat.le_refl _) (by decide) (by omega) fun v7 M7 n7 H7 hO7 hH7 hn7 => ?_
        repeat' (first | refine zP ?_ | refine zA ?_ | (refine zM ?_; intro _ _) | refine zX ?_ | (refine zC ?_; intro _ _ _ _) | (refine zS ?_; intro _ _) | (apply Ws <;> intro hg))
        refine Ends.loop ⟨i + 1, v7, ws ++ us, O ++ ((b ++ [i]) :: T n q (b ++ [i])), M7, MB ++ (Mj ++ (M5 ++ Mi)), n7⟩ (by simp only; omega) (by repeat' (first | exact .nil | refine .cons rfl ?_)) rfl ⟨by simp only; omega, hi', ?_, hO7, RowsB.app (hR.mono fun q hq => ?_) hR6', by simp only; omega, hH7.perm (by classical exact List.perm_iff_count.2 (fun a => by simp only [defds, List.map_cons, List.map_nil, List.count_append, List.count_cons, List.count_nil, List.cons_append, List.nil_append, List.append_nil]; omega))⟩
        · simp only
          rw [show n - (i + 1) = q by omega, ← hOT]; simp
        · rcases List.mem_append.1 hq with h | h <;> simp [h]
      · have hin : i = n := by omega
        subst hin
        rw [Nat.sub_self, T, List.append_nil] at hOT
        rw [hOT] at hR
        repeat' (first | refine zP ?_ | refine zA ?_ | (refine zM ?_; intro _ _) | refine zX ?_ | (refine zC ?_; intro _ _ _ _) | (refine zS ?_; intro _ _) | (apply Ws <;> intro hg))
        exact Ends.ret1 rfl ⟨ws, MO, Mi, n1, hO, hR, hn1, hH⟩
end
end Go.Proofs.Ytcfffhkabhmkmaa.Ps

/- The lists that cost the least, one after the other. -/
namespace Go.Proofs.Ytcfffhkabhmkmaa.Ps
open Go Go.Abs Go.Mth
set_option linter.unusedVariables false
set_option linter.unusedSimpArgs false
theorem snocInd {α : Type} {P : List α → Prop} (h0 : P []) (h1 : ∀ l x, P l → P (l ++ [x])) (l : List α) : P l := by
  have : ∀ r : List α, P r.reverse := by
    intro r
    induction r with
    | nil => exact h0
    | cons x r ih => rw [List.reverse_cons]; exact h1 _ _ ih
  have h := this l.reverse
  rwa [List.reverse_reverse] at h
theorem bestF_inv (c : List Nat → Int) (zs : List (List Nat)) : (zs = [] ∧ bestF c zs = ([], 0)) ∨ ((∀ z ∈ zs, (bestF c zs).2 ≤ c z) ∧ (bestF c zs).1 = zs.filter (fun z => decide (c z = (bestF c zs).2)) ∧ (bestF c zs).1 ≠ []) := by
  refine snocInd (P := fun zs => (zs = [] ∧ bestF c zs = ([], 0)) ∨ ((∀ z ∈ zs, (bestF c zs).2 ≤ c z) ∧ (bestF c zs).1 = zs.filter (fun z => decide (c z = (bestF c zs).2)) ∧ (bestF c zs).1 ≠ [])) (.inl ⟨rfl, rfl⟩) (fun l x ih => ?_) zs
  right
  rw [bestF_snoc]
  rcases ih with ⟨rfl, h⟩ | ⟨h1, h2, h3⟩
  · rw [h]
    simp [bestS]
  · obtain ⟨B, m, hb⟩ : ∃ B m, bestF c l = (B, m) := ⟨_, _, rfl⟩
    rw [hb] at h1 h2 h3 ⊢
    simp only at h1 h2 h3
    unfold bestS
    simp only
    by_cases hc : c x < m
    · rw [if_pos (.inr hc)]
      refine ⟨fun z hz => ?_, ?_, by simp⟩
      · rcases List.mem_append.1 hz with hz | hz
        · have := h1 z hz; simp only; omega
        · rw [List.mem_singleton.1 hz]; exact Int.le_refl _
      · simp only
        rw [List.filter_append, List.filter_eq_nil_iff.2 fun z hz => by have := h1 z hz; simp; omega]
        simp
    · rw [if_neg (by rintro (h | h); exact h3 h; exact hc h)]
      by_cases he : c x = m
      · rw [if_pos he]
        refine ⟨fun z hz => ?_, ?_, by simp⟩
        · rcases List.mem_append.1 hz with hz | hz
          · exact h1 z hz
          · rw [List.mem_singleton.1 hz]; simp only; omega
        · simp only
          rw [List.filter_append, List.filter_cons_of_pos (by simpa using he), ← h2]; rfl
      · rw [if_neg he]
        refine ⟨fun z hz => ?_, ?_, h3⟩
        · rcases List.mem_append.1 hz with hz | hz
          · exact h1 z hz
          · rw [List.mem_singleton.1 hz]; simp only; omega
        · simp only
          rw [List.filter_append, List.filter_cons_of_neg (by simpa using he), ← h2]; simp
theorem sumZ_len (z : List Nat) : sumZ (fun _ => 1) z = (z.length : Int) := by
  induction z with
  | nil => rfl
  | cons x z ih => have : sumZ (fun _ => 1) (x :: z) = 1 + sumZ (fun _ => 1) z := by simp [sumZ]
                   rw [this, ih, List.length_cons]; omega
def fstB (c : List Nat → Int) (zs : List (List Nat)) : List Nat := (bestF c zs).1.getD 0 []
theorem bestF_all {c : List Nat → Int} {zs : List (List Nat)} {z : List Nat} (h : z ∈ (bestF c zs).1) : z ∈ zs ∧ c z = (bestF c zs).2 := by
  rcases bestF_inv c zs with ⟨rfl, h1⟩ | ⟨_, h2, _⟩
  · rw [h1] at h; cases h
  · rw [h2] at h
    have := List.mem_filter.1 h
    exact ⟨this.1, by simpa using this.2⟩
theorem fstB_mem {c : List Nat → Int} {zs : List (List Nat)} (h : zs ≠ []) : fstB c zs ∈ (bestF c zs).1 := by
  unfold fstB
  exact getD_mem (List.length_pos_iff.2 (bestF_ne h))
theorem fstB_cost {c : List Nat → Int} {zs : List (List Nat)} (h : zs ≠ []) : c (fstB c zs) = (bestF c zs).2 := (bestF_all (fstB_mem h)).2
end Go.Proofs.Ytcfffhkabhmkmaa.Ps

/- The reference: the lists that guard, the smallest ones, costs. -/
namespace Go.Proofs.Ytcfffhkabhmkmaa.Ps
open Go Go.Abs Go.Mth
set_option linter.unusedVariables false
set_option linter.unusedSimpArgs false
def smaS (out : List (List Nat)) (z : List Nat) : List (List Nat) :=
  if out ≠ [] ∧ z.length < (out.getD 0 []).length then [z] else if out = [] ∨ z.length = (out.getD 0 []).length then out ++ [z] else out
def smaL (zs : List (List Nat)) : List (List Nat) := zs.foldl smaS []
theorem smaL_snoc (zs : List (List Nat)) (z : List Nat) : smaL (zs ++ [z]) = smaS (smaL zs) z := by simp [smaL]
theorem smaL_best (zs : List (List Nat)) : smaL zs = (bestF (sumZ fun _ => 1) zs).1 := by
  refine snocInd (P := fun zs => smaL zs = (bestF (sumZ fun _ => 1) zs).1) rfl (fun l x ih => ?_) zs
  rw [smaL_snoc, bestF_snoc, ih]
  rcases bestF_inv (sumZ fun _ => 1) l with ⟨rfl, h1⟩ | ⟨h1, h2, h3⟩
  · rw [h1]; simp [smaS, bestS]
  · have hl : l ≠ [] := by rintro rfl; exact h3 rfl
    have hc := fstB_cost (c := sumZ fun _ => 1) hl
    unfold fstB at hc
    obtain ⟨B, m, hb⟩ : ∃ B m, bestF (sumZ fun _ => 1) l = (B, m) := ⟨_, _, rfl⟩
    rw [hb] at h3 hc ⊢
    simp only at h3 hc ⊢
    rw [sumZ_len] at hc
    unfold smaS bestS
    simp only
    rw [sumZ_len]
    by_cases c1 : x.length < (B.getD 0 []).length
    · rw [if_pos ⟨h3, c1⟩, if_pos (.inr (by omega))]
    · have e1 : ¬ (B ≠ [] ∧ x.length < (B.getD 0 []).length) := fun h => c1 h.2
      have e2 : ¬ (B = [] ∨ (x.length : Int) < m) := by rintro (h | h); exact h3 h; omega
      rw [if_neg e1, if_neg e2]
      by_cases c2 : x.length = (B.getD 0 []).length
      · rw [if_pos (.inr c2), if_pos (by omega)]
      · have e3 : ¬ (B = [] ∨ x.length = (B.getD 0 []).length) := by rintro (h | h); exact h3 h; exact c2 h
        rw [if_neg e3, if_neg (by omega)]
theorem smaL_len (zs : List (List Nat)) : (smaL zs).length ≤ zs.length := by rw [smaL_best]; exact bestF_len _ _
theorem take_snoc {α : Type} {zs : List α} {k : Nat} {a : α} (h : k < zs.length) : zs.take (k + 1) = zs.take k ++ [zs.getD k a] := by
  rw [List.take_succ_eq_append_getElem h, ← getD_eq (a := a)]
theorem one1 {v : Value} (h : one v = true) : [v].all one = true := by simp [h]
structure KG where
  k : Nat
  v : Value
  ws : List Value
  MO : HL
  n : Nat
attribute [local irreducible] gOK WS WC WR WD Ends FS YS OpV seqK blockK loopK midK retK rdK asgK rangeEnd sat Cell
section
variable {M : HL} {n0 : Nat} {H : Heap} {v w : Value}
set_option maxHeartbeats 1000000 in
theorem guarding_fs (hH : hasH M n0 H) {xs : List Int} (hS : Sl M 1 v (ints xs)) (hx : OKS xs) :
    FS C 54 [v] H (fun e H' => ∃ ws MO Mi n', Own 22 1 e ws MO ∧ RowsB Mi ws (grdL xs) ∧ n0 ≤ n' ∧ hasH (MO ++ (Mi ++ M)) n' H') := by
  have h10 := hx.most
  have hv := hS.one_
  have hal := allA_few h10
  refine FS.intro (pf := pf54) rfl rfl rfl ?_
  repeat' (first | refine zP ?_ | refine zA ?_ | (refine zM ?_; intro _ _) | refine zX ?_ | (refine zC ?_; intro _ _ _ _) | (refine zS ?_; intro _ _) | (apply Ws <;> intro hg))
  refine WR.call (by first | exact gN | exact gS rfl) rfl rfl (lists_fs h10 xs.length (Nat.le_refl _) (Mb := []) (b := []) hH (fun p hp => by cases hp) (.nil 0) (fun _ => rfl) (by rw [Nat.sub_self]; rfl) (by simp)) ?_
  rintro e1 H1 ⟨us, MB, Mi, n1, hO1, hR1, hn1, hH1⟩
  rw [List.append_nil] at hR1
  have hU1 : Sl (MB ++ (Mi ++ M)) 1 e1 us := hO1.sl _
  have hul := hR1.1
  obtain ⟨ZS, hZS⟩ : ∃ ZS, allA xs.length = ZS := ⟨_, rfl⟩
  have hZ0 : [] :: T xs.length xs.length [] = ZS := by rw [← hZS]; rfl
  have hgd : grdL xs = ZS.filter (grd xs) := by rw [← hZS]; rfl
  have hasc : ∀ z ∈ ZS, AscN xs.length z := fun z hz => mem_allA.1 (by rw [hZS]; exact hz)
  rw [hZ0] at hR1 hul
  rw [hZS] at hal
  rw [hgd]
  clear hO1 hZS hZ0 hgd
  repeat' (first | refine zP ?_ | refine zA ?_ | (refine zM ?_; intro _ _) | refine zX ?_ | (refine zC ?_; intro _ _ _ _) | (refine zS ?_; intro _ _) | (apply Ws <;> intro hg))
  refine WC.loopX [(0, v), (4, e1)] (fun s : KG => [(5, .int .i64 (s.k : Int)), (3, s.v)]) [] (fun s H' => s.k ≤ ZS.length ∧ Own 22 1 s.v s.ws s.MO ∧ RowsB Mi s.ws ((ZS.take s.k).filter (grd xs)) ∧ n1 ≤ s.n ∧ hasH (s.MO ++ (MB ++ (Mi ++ M))) s.n H') (fun s => ZS.length - s.k) ⟨0, .slice none 0 0, [], [], n1⟩ (by repeat' (first | exact .nil | refine .cons rfl ?_)) rfl ⟨Nat.zero_le _, .nil, RowsB.nil _, Nat.le_refl _, hH1⟩ ?_
  clear hH1
  rintro ⟨k, v3, ws, MO, n2⟩ H2 ⟨hk, hO, hR, hn2, hH2⟩
  simp only at hk hO hR hn2 hH2
  have hU2 := hU1.mono fun q hq => List.mem_append_right MO hq
  have hwl := hR.1
  have hfl := List.length_filter_le (grd xs) (ZS.take k)
  rw [List.length_take] at hfl
  dsimp only [List.cons_append, List.nil_append]
  repeat' (first | refine zP ?_ | refine zA ?_ | (refine zM ?_; intro _ _) | refine zX ?_ | (refine zC ?_; intro _ _ _ _) | (refine zS ?_; intro _ _) | (apply Ws <;> intro hg))
  refine WC.condP rfl (fun hlt => ?_) (fun hlt => ?_)
  · have hk' : k < ZS.length := by omega
    have hku : k < us.length := by omega
    have hts := take_snoc (a := []) hk'
    have hz := hasc _ (getD_mem (a := []) hk')
    have hzl := hz.len
    have hSz : Sl (MO ++ (MB ++ (Mi ++ M))) 1 (us.getD k undef) (nodes (ZS.getD k [])) := (hR1.2 k hk').mono fun q hq => by simp [hq]
    have hu1 := hSz.one_
    have hS2 : Sl (MO ++ (MB ++ (Mi ++ M))) 1 v (ints xs) := hS.mono fun q hq => by simp [hq]
    generalize hzz : ZS.getD k [] = z at hts hz hSz hzl
    have hRz : Sl Mi 1 (us.getD k undef) (nodes z) := by rw [← hzz]; exact hR1.2 k hk'
    repeat' (first | refine zP ?_ | refine zA ?_ | (refine zM ?_; intro _ _) | refine zX ?_ | (refine zC ?_; intro _ _ _ _) | (refine zS ?_; intro _ _) | (apply Ws <;> intro hg))
    refine WR.call (by first | exact gN | exact gS rfl) rfl rfl (rguards_fs hH2 hS2 (by omega) hSz hz.lt (by omega)) ?_
    rintro _ H3 ⟨rfl, n3, hn3, hH3⟩
    clear hH2
    cases hg : grd xs z with
    | true =>
      repeat' (first | refine zP ?_ | refine zA ?_ | (refine zM ?_; intro _ _) | refine zX ?_ | (refine zC ?_; intro _ _ _ _) | (refine zS ?_; intro _ _) | refine zO ?_ | (apply Ws <;> intro hg))
      refine WR.append1F [] MO (MB ++ (Mi ++ M)) rfl rfl rfl rfl hO hH3 (new := [us.getD k undef]) (fill1 hu1) (one1 hu1) rfl (Nat.le_refl _) (by decide) (by simp; omega) fun v' Mx' n' H' q1 q2 q3 => ?_
      repeat' (first | refine zP ?_ | refine zA ?_ | (refine zM ?_; intro _ _) | refine zX ?_ | (refine zC ?_; intro _ _ _ _) | (refine zS ?_; intro _ _) | (apply Ws <;> intro hg))
      refine Ends.loop ⟨k + 1, v', ws ++ [us.getD k undef], Mx', n'⟩ (by simp only; omega) (by repeat' (first | exact .nil | refine .cons rfl ?_)) rfl ⟨hk', q1, ?_, by simp only; omega, q2⟩
      simp only
      rw [hts, List.filter_append, List.filter_cons_of_pos hg]
      exact hR.snoc hRz
    | false =>
      repeat' (first | refine zP ?_ | refine zA ?_ | (refine zM ?_; intro _ _) | refine zX ?_ | (refine zC ?_; intro _ _ _ _) | (refine zS ?_; intro _ _) | refine zO ?_ | (apply Ws <;> intro hg))
      refine Ends.loop ⟨k + 1, v3, ws, MO, n3⟩ (by simp only; omega) (by repeat' (first | exact .nil | refine .cons rfl ?_)) rfl ⟨hk', hO, ?_, by simp only; omega, hH3⟩
      simp only
      rw [hts, List.filter_append, List.filter_cons_of_neg (by rw [hg]; decide), List.filter_nil, List.append_nil]
      exact hR
  · have hkl : k = ZS.length := by omega
    subst hkl
    rw [List.take_length] at hR
    repeat' (first | refine zP ?_ | refine zA ?_ | (refine zM ?_; intro _ _) | refine zX ?_ | (refine zC ?_; intro _ _ _ _) | (refine zS ?_; intro _ _) | (apply Ws <;> intro hg))
    exact Ends.ret1 rfl ⟨ws, MO, Mi, n2, hO, hR, by omega, hH2.perm (M' := MO ++ (Mi ++ (MB ++ M))) (by classical exact List.perm_iff_count.2 (fun a => by simp only [defds, List.map_cons, List.map_nil, List.count_append, List.count_cons, List.count_nil, List.cons_append, List.nil_append, List.append_nil]; omega)) |>.sub (List.Sublist.append_left (List.Sublist.append_left (List.sublist_append_right _ _) _) _)⟩
set_option maxHeartbeats 1000000 in
theorem smallest_fs {Mi : HL} (hH : hasH M n0 H) {us : List Value} {ZS : List (List Nat)} (hS : Sl M 1 v us) (hR1 : RowsB Mi us ZS) (hMi : ∀ p ∈ Mi, p ∈ M) (hal : ZS.length ≤ 5000) (hzl : ∀ z ∈ ZS, z.length ≤ 1000) :
    FS C 53 [v] H (fun e H' => ∃ ws MO n', Own 22 1 e ws MO ∧ RowsB Mi ws (smaL ZS) ∧ n0 ≤ n' ∧ hasH (MO ++ M) n' H') := by
  have hv := hS.one_
  have hul := hR1.1
  refine FS.intro (pf := pf53) rfl rfl rfl ?_
  repeat' (first | refine zP ?_ | refine zA ?_ | (refine zM ?_; intro _ _) | refine zX ?_ | (refine zC ?_; intro _ _ _ _) | (refine zS ?_; intro _ _) | (apply Ws <;> intro hg))
  refine WC.loopX [(0, v)] (fun s : KG => [(4, .int .i64 (s.k : Int)), (3, s.v)]) [] (fun s H' => s.k ≤ ZS.length ∧ Own 22 1 s.v s.ws s.MO ∧ RowsB Mi s.ws (smaL (ZS.take s.k)) ∧ n0 ≤ s.n ∧ hasH (s.MO ++ M) s.n H') (fun s => ZS.length - s.k) ⟨0, .slice none 0 0, [], [], n0⟩ (by repeat' (first | exact .nil | refine .cons rfl ?_)) rfl ⟨Nat.zero_le _, .nil, RowsB.nil _, Nat.le_refl _, hH⟩ ?_
  clear hH
  rintro ⟨k, v3, ws, MO, n2⟩ H2 ⟨hk, hO, hR, hn2, hH2⟩
  simp only at hk hO hR hn2 hH2
  have hU2 := hS.mono fun q hq => List.mem_append_right MO hq
  have hW2 := hO.sl M
  have hwl := hR.1
  have hfl := smaL_len (ZS.take k)
  rw [List.length_take] at hfl
  dsimp only [List.cons_append, List.nil_append]
  repeat' (first | refine zP ?_ | refine zA ?_ | (refine zM ?_; intro _ _) | refine zX ?_ | (refine zC ?_; intro _ _ _ _) | (refine zS ?_; intro _ _) | (apply Ws <;> intro hg))
  refine WC.condP rfl (fun hlt => ?_) (fun hlt => ?_)
  · have hk' : k < ZS.length := by omega
    have hku : k < us.length := by omega
    have hts := take_snoc (a := []) hk'
    have hzll := hzl _ (getD_mem (a := []) hk')
    have hSz : Sl (MO ++ M) 1 (us.getD k undef) (nodes (ZS.getD k [])) := (hR1.2 k hk').mono fun q hq => List.mem_append_right _ (hMi q hq)
    have hu1 := hSz.one_
    have hRz := hR1.2 k hk'
    generalize ZS.getD k [] = z at hts hSz hzll hRz
    have hsn := smaL_snoc (ZS.take k) z
    rw [← hts] at hsn
    have hB10 : ∀ y ∈ smaL (ZS.take k), y.length ≤ 1000 := fun y hy => by
      rw [smaL_best] at hy
      exact hzl y (List.mem_of_mem_take (bestF_all hy).1)
    generalize smaL (ZS.take k) = B at hR hwl hfl hsn hB10
    by_cases hB0 : B = []
    · have hw0 : ws.length = 0 := by rw [hwl, hB0]; rfl
      have e1 : ¬ (B ≠ [] ∧ z.length < (B.getD 0 []).length) := fun h => h.1 hB0
      unfold smaS at hsn
      rw [if_neg e1, if_pos (.inl hB0)] at hsn
      repeat' (first | refine zP ?_ | refine zA ?_ | (refine zM ?_; intro _ _) | refine zX ?_ | (refine zC ?_; intro _ _ _ _) | (refine zS ?_; intro _ _) | refine zO ?_ | (apply Ws <;> intro hg))
      refine WR.append1F [] MO M rfl rfl rfl rfl hO hH2 (new := [us.getD k undef]) (fill1 hu1) (one1 hu1) rfl (Nat.le_refl _) (by decide) (by simp; omega) fun v' Mx' n' H' q1 q2 q3 => ?_
      repeat' (first | refine zP ?_ | refine zA ?_ | (refine zM ?_; intro _ _) | refine zX ?_ | (refine zC ?_; intro _ _ _ _) | (refine zS ?_; intro _ _) | (apply Ws <;> intro hg))
      refine Ends.loop ⟨k + 1, v', ws ++ [us.getD k undef], Mx', n'⟩ (by simp only; omega) (by repeat' (first | exact .nil | refine .cons rfl ?_)) rfl ⟨hk', q1, ?_, by simp only; omega, q2⟩
      simp only
      rw [hsn]
      exact hR.snoc hRz
    · have hw0 : 0 < ws.length := by rw [hwl]; exact List.length_pos_iff.2 hB0
      have hB1 : 0 < B.length := by omega
      have hR0 := hR.2 0 hB1
      have hS0 : Sl (MO ++ M) 1 (ws.getD 0 undef) (nodes (B.getD 0 [])) := hR0.mono fun q hq => List.mem_append_right _ (hMi q hq)
      have hb0 : (B.getD 0 []).length ≤ 1000 := hB10 _ (getD_mem (a := []) hB1)
      unfold smaS at hsn
      generalize B.getD 0 [] = b0 at hS0 hb0 hsn hR0
      by_cases c1 : z.length < b0.length
      · rw [if_pos ⟨hB0, c1⟩] at hsn
        repeat' (first | refine zP ?_ | refine zA ?_ | (refine zM ?_; intro _ _) | refine zX ?_ | (refine zC ?_; intro _ _ _ _) | (refine zS ?_; intro _ _) | refine zO ?_ | (apply Ws <;> intro hg))
        refine WR.append1F [] [] (MO ++ M) rfl rfl rfl rfl (.nil (e := 22) (sz := 1)) hH2 (new := [us.getD k undef]) (fill1 hu1) (one1 hu1) rfl (Nat.le_refl _) (by decide) (by simp) fun v' Mx' n' H' q1 q2 q3 => ?_
        repeat' (first | refine zP ?_ | refine zA ?_ | (refine zM ?_; intro _ _) | refine zX ?_ | (refine zC ?_; intro _ _ _ _) | (refine zS ?_; intro _ _) | (apply Ws <;> intro hg))
        refine Ends.loop ⟨k + 1, v', [us.getD k undef], Mx', n'⟩ (by simp only; omega) (by repeat' (first | exact .nil | refine .cons rfl ?_)) rfl ⟨hk', q1, ?_, by simp only; omega, q2.sub (List.Sublist.append_left (List.sublist_append_right _ _) _)⟩
        simp only
        rw [hsn]
        exact RowsB.snoc (RowsB.nil _) hRz
      · have e1 : ¬ (B ≠ [] ∧ z.length < b0.length) := fun h => c1 h.2
        rw [if_neg e1] at hsn
        by_cases c2 : z.length = b0.length
        · rw [if_pos (.inr c2)] at hsn
          repeat' (first | refine zP ?_ | refine zA ?_ | (refine zM ?_; intro _ _) | refine zX ?_ | (refine zC ?_; intro _ _ _ _) | (refine zS ?_; intro _ _) | refine zO ?_ | (apply Ws <;> intro hg))
          refine WR.append1F [] MO M rfl rfl rfl rfl hO hH2 (new := [us.getD k undef]) (fill1 hu1) (one1 hu1) rfl (Nat.le_refl _) (by decide) (by simp; omega) fun v' Mx' n' H' q1 q2 q3 => ?_
          repeat' (first | refine zP ?_ | refine zA ?_ | (refine zM ?_; intro _ _) | refine zX ?_ | (refine zC ?_; intro _ _ _ _) | (refine zS ?_; intro _ _) | (apply Ws <;> intro hg))
          refine Ends.loop ⟨k + 1, v', ws ++ [us.getD k undef], Mx', n'⟩ (by simp only; omega) (by repeat' (first | exact .nil | refine .cons rfl ?_)) rfl ⟨hk', q1, ?_, by simp only; omega, q2⟩
          simp only
          rw [hsn]
          exact hR.snoc hRz
        · have e2 : ¬ (B = [] ∨ z.length = b0.length) := by rintro (h | h); exact hB0 h; exact c2 h
          rw [if_neg e2] at hsn
          repeat' (first | refine zP ?_ | refine zA ?_ | (refine zM ?_; intro _ _) | refine zX ?_ | (refine zC ?_; intro _ _ _ _) | (refine zS ?_; intro _ _) | refine zO ?_ | (apply Ws <;> intro hg))
          refine Ends.loop ⟨k + 1, v3, ws, MO, n2⟩ (by simp only; omega) (by repeat' (first | exact .nil | refine .cons rfl ?_)) rfl ⟨hk', hO, ?_, by simp only; omega, hH2⟩
          simp only
          rw [hsn]; exact hR
  · have hkl : k = ZS.length := by omega
    subst hkl
    rw [List.take_length] at hR
    repeat' (first | refine zP ?_ | refine zA ?_ | (refine zM ?_; intro _ _) | refine zX ?_ | (refine zC ?_; intro _ _ _ _) | (refine zS ?_; intro _ _) | (apply Ws <;> intro hg))
    exact Ends.ret1 rfl ⟨ws, MO, n2, hO, hR, hn2, hH2⟩
end
end Go.Proofs.Ytcfffhkabhmkmaa.Ps

/- The reference: fewest, ways, count, always, never, apart, cheapest. -/
namespace Go.Proofs.Ytcfffhkabhmkmaa.Ps
open Go Go.Abs Go.Mth
set_option linter.unusedVariables false
set_option linter.unusedSimpArgs false
attribute [local irreducible] gOK WS WC WR WD Ends FS YS OpV seqK blockK loopK midK retK rdK asgK rangeEnd sat Cell
section
variable {M : HL} {n0 : Nat} {H : Heap} {v w : Value}
theorem rCount_fs (hH : hasH M n0 H) {xs : List Int} (hS : Sl M 1 v (ints xs)) (hl : xs.length ≤ 100000) :
    FS C 25 [v] H (fun e H' => ∃ M2 n', e = .tuple #[.int .i64 ((if errS xs = 0 then (grdL xs).length else 0 : Nat) : Int), .int .i64 (errS xs)] ∧ n0 ≤ n' ∧ hasH (M2 ++ M) n' H') := by
  have hv := hS.one_
  refine FS.intro (pf := pf25) rfl rfl rfl ?_
  repeat' (first | refine zP ?_ | refine zA ?_ | (refine zM ?_; intro _ _) | refine zX ?_ | (refine zC ?_; intro _ _ _ _) | (refine zS ?_; intro _ _) | (apply Ws <;> intro hg))
  refine WR.call (by first | exact gN | exact gS rfl) rfl rfl (rCheck_fs hH hS hl) ?_
  rintro _ H1 ⟨rfl, rfl⟩
  repeat' (first | refine zP ?_ | refine zA ?_ | (refine zM ?_; intro _ _) | refine zX ?_ | (refine zC ?_; intro _ _ _ _) | (refine zS ?_; intro _ _) | (apply Ws <;> intro hg))
  refine WC.condP rfl (fun h0 => ?_) (fun h0 => ?_)
  · repeat' (first | refine zP ?_ | refine zA ?_ | (refine zM ?_; intro _ _) | refine zX ?_ | (refine zC ?_; intro _ _ _ _) | (refine zS ?_; intro _ _) | (apply Ws <;> intro hg))
    exact Ends.ret2 rfl rfl ⟨[], n0, by rw [if_neg h0]; rfl, Nat.le_refl _, hH⟩
  · have h00 : errS xs = 0 := by omega
    have hx := errS_zero.1 h00
    repeat' (first | refine zP ?_ | refine zA ?_ | (refine zM ?_; intro _ _) | refine zX ?_ | (refine zC ?_; intro _ _ _ _) | (refine zS ?_; intro _ _) | (apply Ws <;> intro hg))
    refine WR.call (by first | exact gN | exact gS rfl) rfl rfl (guarding_fs hH hS hx) ?_
    rintro e2 H2 ⟨us, MO, Mi, n2, hO, hR, hn2, hH2⟩
    have hW := hO.sl (Mi ++ M)
    have hwl := hR.1
    repeat' (first | refine zP ?_ | refine zA ?_ | (refine zM ?_; intro _ _) | refine zX ?_ | (refine zC ?_; intro _ _ _ _) | (refine zS ?_; intro _ _) | (apply Ws <;> intro hg))
    exact Ends.ret2 rfl rfl ⟨MO ++ Mi, n2, by rw [h00, if_pos rfl, hwl], by omega, hH2.perm (by classical exact List.perm_iff_count.2 (fun a => by simp only [defds, List.map_cons, List.map_nil, List.count_append, List.count_cons, List.count_nil, List.cons_append, List.nil_append, List.append_nil]; omega))⟩
theorem rWays_fs (hH : hasH M n0 H) {xs : List Int} (hS : Sl M 1 v (ints xs)) (hl : xs.length ≤ 100000) :
    FS C 27 [v] H (fun e H' => ∃ M2 n', e = .tuple #[.int .i64 ((if errS xs = 0 then (fewB xs).length else 0 : Nat) : Int), .int .i64 (errS xs)] ∧ n0 ≤ n' ∧ hasH (M2 ++ M) n' H') := by
  have hv := hS.one_
  refine FS.intro (pf := pf27) rfl rfl rfl ?_
  repeat' (first | refine zP ?_ | refine zA ?_ | (refine zM ?_; intro _ _) | refine zX ?_ | (refine zC ?_; intro _ _ _ _) | (refine zS ?_; intro _ _) | (apply Ws <;> intro hg))
  refine WR.call (by first | exact gN | exact gS rfl) rfl rfl (rCheck_fs hH hS hl) ?_
  rintro _ H1 ⟨rfl, rfl⟩
  repeat' (first | refine zP ?_ | refine zA ?_ | (refine zM ?_; intro _ _) | refine zX ?_ | (refine zC ?_; intro _ _ _ _) | (refine zS ?_; intro _ _) | (apply Ws <;> intro hg))
  refine WC.condP rfl (fun h0 => ?_) (fun h0 => ?_)
  · repeat' (first | refine zP ?_ | refine zA ?_ | (refine zM ?_; intro _ _) | refine zX ?_ | (refine zC ?_; intro _ _ _ _) | (refine zS ?_; intro _ _) | (apply Ws <;> intro hg))
    exact Ends.ret2 rfl rfl ⟨[], n0, by rw [if_neg h0]; rfl, Nat.le_refl _, hH⟩
  · have h00 : errS xs = 0 := by omega
    have hx := errS_zero.1 h00
    have h10 := hx.most
    have hgl : (grdL xs).length ≤ 5000 := Nat.le_trans (List.length_filter_le _ _) (allA_few h10)
    repeat' (first | refine zP ?_ | refine zA ?_ | (refine zM ?_; intro _ _) | refine zX ?_ | (refine zC ?_; intro _ _ _ _) | (refine zS ?_; intro _ _) | (apply Ws <;> intro hg))
    refine WR.call (by first | exact gN | exact gS rfl) rfl rfl (guarding_fs hH hS hx) ?_
    rintro e2 H2 ⟨us, MO, Mi, n2, hO, hR, hn2, hH2⟩
    refine WR.call (by first | exact gN | exact gS rfl) rfl rfl (smallest_fs (Mi := Mi) hH2 (hO.sl _) hR (fun p hp => by simp [hp]) hgl (fun z hz => by have := (grdL_asc z hz).len; omega)) ?_
    rintro e3 H3 ⟨ws, MP, n3, hP, hR3, hn3, hH3⟩
    rw [smaL_best] at hR3
    have hwl : ws.length = (fewB xs).length := hR3.1
    have hW := hP.sl (MO ++ (Mi ++ M))
    repeat' (first | refine zP ?_ | refine zA ?_ | (refine zM ?_; intro _ _) | refine zX ?_ | (refine zC ?_; intro _ _ _ _) | (refine zS ?_; intro _ _) | (apply Ws <;> intro hg))
    refine Ends.ret2 rfl rfl ⟨MP ++ (MO ++ Mi), n3, by rw [h00, if_pos rfl, hwl], by omega, hH3.perm (by classical exact List.perm_iff_count.2 (fun a => by simp only [defds, List.map_cons, List.map_nil, List.count_append, List.count_cons, List.count_nil, List.cons_append, List.nil_append, List.append_nil]; omega))⟩
set_option maxHeartbeats 1000000 in
theorem often_fs (hH : hasH M n0 H) {xs : List Int} (hS : Sl M 1 v (ints xs)) (hx : OKS xs) {many : Int} {t : Nat} (ht : (if many < 0 then ((fewB xs).length : Int) else many) = (t : Int)) (hm : -1 ≤ many ∧ many ≤ 5000) :
    FS C 61 [v, .int .i64 many] H (fun e H' => ∃ M2 n', Sl (M2 ++ M) 1 e (nodes (inL (fewB xs) t xs.length)) ∧ n0 ≤ n' ∧ hasH (M2 ++ M) n' H') := by
  have hv := hS.one_
  have h10 := hx.most
  have hgl : (grdL xs).length ≤ 5000 := Nat.le_trans (List.length_filter_le _ _) (allA_few h10)
  refine FS.intro (pf := pf61) rfl rfl rfl ?_
  repeat' (first | refine zP ?_ | refine zA ?_ | (refine zM ?_; intro _ _) | refine zX ?_ | (refine zC ?_; intro _ _ _ _) | (refine zS ?_; intro _ _) | (apply Ws <;> intro hg))
  refine WR.call (by first | exact gN | exact gS rfl) rfl rfl (guarding_fs hH hS hx) ?_
  rintro e2 H2 ⟨us, MO, Mi, n2, hO, hR, hn2, hH2⟩
  refine WR.call (by first | exact gN | exact gS rfl) rfl rfl (smallest_fs (Mi := Mi) hH2 (hO.sl _) hR (fun p hp => by simp [hp]) hgl (fun z hz => by have := (grdL_asc z hz).len; omega)) ?_
  rintro e3 H3 ⟨ws, MP, n3, hP, hR3, hn3, hH3⟩
  rw [smaL_best] at hR3
  have hR4 : RowsB (MP ++ (MO ++ (Mi ++ M))) ws (fewB xs) := RowsB.mono hR3 fun q hq => by simp [hq]
  have hfl : (fewB xs).length ≤ 5000 := fewB_few h10
  have hasc : ∀ z ∈ fewB xs, z.length ≤ 1000 := fun z hz => (fewB_len10 grdL_asc h10 z hz).2
  have hwl := hR4.1
  have hW := hP.sl (MO ++ (Mi ++ M))
  have hSX : Sl (MP ++ (MO ++ (Mi ++ M))) 1 v (ints xs) := hS.mono fun q hq => by simp [hq]
  have hMX : MP ++ (MO ++ (Mi ++ M)) = (MP ++ (MO ++ Mi)) ++ M := by simp
  generalize MP ++ (MO ++ (Mi ++ M)) = X at hH3 hR4 hW hSX hMX
  generalize fewB xs = F at hR4 hfl hasc hwl ht ⊢
  clear hH hH2 hO hR hR3 hP hS
  have hv3 := hW.one_
  by_cases hneg : many < 0
  case' pos =>
    rw [if_pos hneg] at ht
    repeat' (first | refine zP ?_ | refine zA ?_ | (refine zM ?_; intro _ _) | refine zX ?_ | (refine zC ?_; intro _ _ _ _) | (refine zS ?_; intro _ _) | refine zO ?_ | (apply Ws <;> intro hg))
    rw [show (ws.length : Int) = (t : Int) by rw [hwl]; exact ht]
  case' neg =>
    rw [if_neg hneg] at ht
    repeat' (first | refine zP ?_ | refine zA ?_ | (refine zM ?_; intro _ _) | refine zX ?_ | (refine zC ?_; intro _ _ _ _) | (refine zS ?_; intro _ _) | refine zO ?_ | (apply Ws <;> intro hg))
    rw [ht]
  all_goals
    refine WC.loopX [(0, v), (1, _), (5, e3)] (fun s : KO => [(7, .int .i64 (s.k : Int)), (6, s.v)]) [] (fun s H' => s.k ≤ xs.length ∧ Own 3 1 s.v (nodes (inL F t s.k)) s.Mx ∧ n0 ≤ s.n ∧ hasH (s.Mx ++ X) s.n H') (fun s => xs.length - s.k) ⟨0, .slice none 0 0, [], n3⟩ (by repeat' (first | exact .nil | refine .cons rfl ?_)) rfl ⟨Nat.zero_le _, .nil, by simp only; omega, hH3⟩ ?_
    clear hH3
    rintro ⟨k, v6, Mx, n4⟩ H4 ⟨hk, hO, hn4, hH⟩
    simp only at hk hO hn4 hH
    have hil := inL_len F t k
    have his := inL_succ F t k
    have hS4 := hSX.mono fun q hq => List.mem_append_right Mx hq
    have hW4 := hW.mono fun q hq => List.mem_append_right Mx hq
    dsimp only [List.cons_append, List.nil_append]
    repeat' (first | refine zP ?_ | refine zA ?_ | (refine zM ?_; intro _ _) | refine zX ?_ | (refine zC ?_; intro _ _ _ _) | (refine zS ?_; intro _ _) | (apply Ws <;> intro hg))
    refine WC.condP rfl (fun hlt => ?_) (fun hlt => ?_)
    · have hk' : k < xs.length := by omega
      repeat' (first | refine zP ?_ | refine zA ?_ | (refine zM ?_; intro _ _) | refine zX ?_ | (refine zC ?_; intro _ _ _ _) | (refine zS ?_; intro _ _) | (apply Ws <;> intro hg))
      refine WC.loopX [(0, v), (1, _), (5, e3), (6, _), (7, _)] (fun j : Nat => [(9, .int .i64 (j : Int)), (8, .int .i64 (timL (F.take j) k : Nat))]) [] (fun j H' => j ≤ F.length ∧ H' = H4) (fun j => F.length - j) 0 (by repeat' (first | exact .nil | refine .cons rfl ?_)) rfl ⟨Nat.zero_le _, rfl⟩ ?_
      rintro j H5 ⟨hj, rfl⟩
      have htl := timL_le (F.take j) k
      rw [List.length_take] at htl
      dsimp only [List.cons_append, List.nil_append]
      repeat' (first | refine zP ?_ | refine zA ?_ | (refine zM ?_; intro _ _) | refine zX ?_ | (refine zC ?_; intro _ _ _ _) | (refine zS ?_; intro _ _) | (apply Ws <;> intro hg))
      refine WC.condP rfl (fun hlt2 => ?_) (fun hlt2 => ?_)
      · have hj' : j < F.length := by omega
        have hjw : j < ws.length := by omega
        have hts := timL_succ (p := k) hj'
        have hSj := (hR4.2 j hj').mono fun q hq => List.mem_append_right Mx hq
        have hlj := hasc _ (getD_mem (a := []) hj')
        repeat' (first | refine zP ?_ | refine zA ?_ | (refine zM ?_; intro _ _) | refine zX ?_ | (refine zC ?_; intro _ _ _ _) | (refine zS ?_; intro _ _) | (apply Ws <;> intro hg))
        refine WR.call (by first | exact gN | exact gS rfl) rfl rfl (has_fs hH hSj (by omega) k) ?_
        rintro _ _ ⟨rfl, rfl⟩
        by_cases hm : k ∈ F.getD j []
        · rw [if_pos hm] at hts
          rw [decide_eq_true hm]
          repeat' (first | refine zP ?_ | refine zA ?_ | (refine zM ?_; intro _ _) | refine zX ?_ | (refine zC ?_; intro _ _ _ _) | (refine zS ?_; intro _ _) | (apply Ws <;> intro hg))
          exact Ends.loop (j + 1) (by omega) (by rw [hts]; exact (by repeat' (first | exact .nil | refine .cons rfl ?_))) rfl ⟨hj', rfl⟩
        · rw [if_neg hm, Nat.add_zero] at hts
          rw [decide_eq_false hm]
          repeat' (first | refine zP ?_ | refine zA ?_ | (refine zM ?_; intro _ _) | refine zX ?_ | (refine zC ?_; intro _ _ _ _) | (refine zS ?_; intro _ _) | (apply Ws <;> intro hg))
          exact Ends.loop (j + 1) (by omega) (by rw [hts]; exact (by repeat' (first | exact .nil | refine .cons rfl ?_))) rfl ⟨hj', rfl⟩
      · have hjl : j = F.length := by omega
        subst hjl
        rw [List.take_length]
        by_cases hm : timL F k = t
        · rw [if_pos hm] at his
          repeat' (first | refine zP ?_ | refine zA ?_ | (refine zM ?_; intro _ _) | refine zX ?_ | (refine zC ?_; intro _ _ _ _) | (refine zS ?_; intro _ _) | refine zO ?_ | (apply Ws <;> intro hg))
          refine WR.append1F [] Mx X rfl rfl rfl rfl hO hH (new := [.int .i64 (k : Int)]) rfl rfl rfl (Nat.le_refl _) (by decide) (by simp; omega) fun v' Mx' n' H' q1 q2 q3 => ?_
          repeat' (first | refine zP ?_ | refine zA ?_ | (refine zM ?_; intro _ _) | refine zX ?_ | (refine zC ?_; intro _ _ _ _) | (refine zS ?_; intro _ _) | (apply Ws <;> intro hg))
          refine Ends.loop ⟨k + 1, v', Mx', n'⟩ (by simp only; omega) (by repeat' (first | exact .nil | refine .cons rfl ?_)) rfl ⟨hk', ?_, by simp only; omega, q2⟩
          simp only
          rw [his, nodes_snoc]; exact q1
        · rw [if_neg hm] at his
          repeat' (first | refine zP ?_ | refine zA ?_ | (refine zM ?_; intro _ _) | refine zX ?_ | (refine zC ?_; intro _ _ _ _) | (refine zS ?_; intro _ _) | refine zO ?_ | (apply Ws <;> intro hg))
          refine Ends.loop ⟨k + 1, v6, Mx, n4⟩ (by simp only; omega) (by repeat' (first | exact .nil | refine .cons rfl ?_)) rfl ⟨hk', ?_, by simp only; omega, hH⟩
          simp only
          rw [his]; exact hO
    · have hkl : k = xs.length := by omega
      subst hkl
      repeat' (first | refine zP ?_ | refine zA ?_ | (refine zM ?_; intro _ _) | refine zX ?_ | (refine zC ?_; intro _ _ _ _) | (refine zS ?_; intro _ _) | (apply Ws <;> intro hg))
      exact Ends.ret1 rfl ⟨Mx ++ (MP ++ (MO ++ Mi)), n4, (hO.sl []).mono fun q hq => by rw [List.append_nil] at hq; simp [hq], by omega, by rw [List.append_assoc, ← hMX]; exact hH⟩
end
end Go.Proofs.Ytcfffhkabhmkmaa.Ps

/- The reference: always, never, apart, cheapest; the laws PostCounts and PostFewest. -/
namespace Go.Proofs.Ytcfffhkabhmkmaa.Ps
open Go Go.Abs Go.Mth
set_option linter.unusedVariables false
set_option linter.unusedSimpArgs false
attribute [local irreducible] gOK WS WC WR WD Ends FS YS OpV seqK blockK loopK midK retK rdK asgK rangeEnd sat Cell
section
variable {M : HL} {n0 : Nat} {H : Heap} {v w : Value}
theorem rAlways_fs (hH : hasH M n0 H) {xs : List Int} (hS : Sl M 1 v (ints xs)) (hl : xs.length ≤ 100000) :
    FS C 29 [v] H (fun e H' => ∃ u M2 n', e = .tuple #[u, .int .i64 (errS xs)] ∧ Sl (M2 ++ M) 1 u (nodes (if errS xs = 0 then inL (fewB xs) (fewB xs).length xs.length else [])) ∧ n0 ≤ n' ∧ hasH (M2 ++ M) n' H') := by
  have hv := hS.one_
  refine FS.intro (pf := pf29) rfl rfl rfl ?_
  repeat' (first | refine zP ?_ | refine zA ?_ | (refine zM ?_; intro _ _) | refine zX ?_ | (refine zC ?_; intro _ _ _ _) | (refine zS ?_; intro _ _) | (apply Ws <;> intro hg))
  refine WR.call (by first | exact gN | exact gS rfl) rfl rfl (rCheck_fs hH hS hl) ?_
  rintro _ H1 ⟨rfl, rfl⟩
  repeat' (first | refine zP ?_ | refine zA ?_ | (refine zM ?_; intro _ _) | refine zX ?_ | (refine zC ?_; intro _ _ _ _) | (refine zS ?_; intro _ _) | (apply Ws <;> intro hg))
  refine WC.condP rfl (fun h0 => ?_) (fun h0 => ?_)
  · repeat' (first | refine zP ?_ | refine zA ?_ | (refine zM ?_; intro _ _) | refine zX ?_ | (refine zC ?_; intro _ _ _ _) | (refine zS ?_; intro _ _) | (apply Ws <;> intro hg))
    exact Ends.ret2 rfl rfl ⟨_, [], n0, rfl, by rw [if_neg h0]; exact .nil 0, Nat.le_refl _, hH⟩
  · have h00 : errS xs = 0 := by omega
    have hx := errS_zero.1 h00
    repeat' (first | refine zP ?_ | refine zA ?_ | (refine zM ?_; intro _ _) | refine zX ?_ | (refine zC ?_; intro _ _ _ _) | (refine zS ?_; intro _ _) | (apply Ws <;> intro hg))
    refine WR.call (by first | exact gN | exact gS rfl) rfl rfl (often_fs hH hS hx (many := -1) (t := (fewB xs).length) (by rw [if_pos (by decide)]) (by omega)) ?_
    rintro e2 H2 ⟨M2, n2, hS2, hn2, hH2⟩
    repeat' (first | refine zP ?_ | refine zA ?_ | (refine zM ?_; intro _ _) | refine zX ?_ | (refine zC ?_; intro _ _ _ _) | (refine zS ?_; intro _ _) | (apply Ws <;> intro hg))
    exact Ends.ret2 rfl rfl ⟨_, M2, n2, by rw [h00], by rw [if_pos h00]; exact hS2, by omega, hH2⟩
theorem rNever_fs (hH : hasH M n0 H) {xs : List Int} (hS : Sl M 1 v (ints xs)) (hl : xs.length ≤ 100000) :
    FS C 31 [v] H (fun e H' => ∃ u M2 n', e = .tuple #[u, .int .i64 (errS xs)] ∧ Sl (M2 ++ M) 1 u (nodes (if errS xs = 0 then inL (fewB xs) 0 xs.length else [])) ∧ n0 ≤ n' ∧ hasH (M2 ++ M) n' H') := by
  have hv := hS.one_
  refine FS.intro (pf := pf31) rfl rfl rfl ?_
  repeat' (first | refine zP ?_ | refine zA ?_ | (refine zM ?_; intro _ _) | refine zX ?_ | (refine zC ?_; intro _ _ _ _) | (refine zS ?_; intro _ _) | (apply Ws <;> intro hg))
  refine WR.call (by first | exact gN | exact gS rfl) rfl rfl (rCheck_fs hH hS hl) ?_
  rintro _ H1 ⟨rfl, rfl⟩
  repeat' (first | refine zP ?_ | refine zA ?_ | (refine zM ?_; intro _ _) | refine zX ?_ | (refine zC ?_; intro _ _ _ _) | (refine zS ?_; intro _ _) | (apply Ws <;> intro hg))
  refine WC.condP rfl (fun h0 => ?_) (fun h0 => ?_)
  · repeat' (first | refine zP ?_ | refine zA ?_ | (refine zM ?_; intro _ _) | refine zX ?_ | (refine zC ?_; intro _ _ _ _) | (refine zS ?_; intro _ _) | (apply Ws <;> intro hg))
    exact Ends.ret2 rfl rfl ⟨_, [], n0, rfl, by rw [if_neg h0]; exact .nil 0, Nat.le_refl _, hH⟩
  · have h00 : errS xs = 0 := by omega
    have hx := errS_zero.1 h00
    repeat' (first | refine zP ?_ | refine zA ?_ | (refine zM ?_; intro _ _) | refine zX ?_ | (refine zC ?_; intro _ _ _ _) | (refine zS ?_; intro _ _) | (apply Ws <;> intro hg))
    refine WR.call (by first | exact gN | exact gS rfl) rfl rfl (often_fs hH hS hx (many := 0) (t := 0) (by rw [if_neg (by decide)]; rfl) (by omega)) ?_
    rintro e2 H2 ⟨M2, n2, hS2, hn2, hH2⟩
    repeat' (first | refine zP ?_ | refine zA ?_ | (refine zM ?_; intro _ _) | refine zX ?_ | (refine zC ?_; intro _ _ _ _) | (refine zS ?_; intro _ _) | (apply Ws <;> intro hg))
    exact Ends.ret2 rfl rfl ⟨_, M2, n2, by rw [h00], by rw [if_pos h00]; exact hS2, by omega, hH2⟩
set_option maxHeartbeats 2000000 in
theorem PostCounts_fs (hH : hasH M n0 H) {xs : List Int} (hS : Sl M 1 v (ints xs)) :
    FS C 5 [v] H (fun e H' => e = .bool true) := by
  have hv := hS.one_
  have hfin : ∀ {H' : Heap}, FS C 8 [] H' (fun e H'' => e = .bool true ∧ H'' = H') := fun {H'} => FS.works ⟨rfl, rfl⟩
  refine FS.intro (pf := pf5) rfl rfl rfl ?_
  by_cases hbig : 40 < xs.length
  · repeat' (first | refine zP ?_ | refine zA ?_ | (refine zM ?_; intro _ _) | refine zX ?_ | (refine zC ?_; intro _ _ _ _) | (refine zS ?_; intro _ _) | refine zO ?_ | (apply Ws <;> intro hg))
    refine WR.call (by first | exact gN | exact gS rfl) rfl rfl hfin ?_
    rintro _ _ ⟨rfl, rfl⟩
    repeat' (first | refine zP ?_ | refine zA ?_ | (refine zM ?_; intro _ _) | refine zX ?_ | (refine zC ?_; intro _ _ _ _) | (refine zS ?_; intro _ _) | (apply Ws <;> intro hg))
    exact Ends.ret1 rfl rfl
  have hale : ∀ t, (if errS xs = 0 then inL (fewB xs) t xs.length else []).length ≤ 1000 := fun t => by
    split
    · have := inL_len (fewB xs) t xs.length; omega
    · simp
  repeat' (first | refine zP ?_ | refine zA ?_ | (refine zM ?_; intro _ _) | refine zX ?_ | (refine zC ?_; intro _ _ _ _) | (refine zS ?_; intro _ _) | refine zO ?_ | (apply Ws <;> intro hg))
  refine WR.call (by first | exact gN | exact gS rfl) rfl rfl (Count_fs hH hS (by omega)) ?_
  rintro _ H1 ⟨M1, n1, rfl, hn1, hH1⟩
  have hS1 := hS.mono fun q hq => List.mem_append_right M1 hq
  generalize M1 ++ M = X1 at hH1 hS1
  repeat' (first | refine zP ?_ | refine zA ?_ | (refine zM ?_; intro _ _) | refine zX ?_ | (refine zC ?_; intro _ _ _ _) | (refine zS ?_; intro _ _) | (apply Ws <;> intro hg))
  refine WR.call (by first | exact gN | exact gS rfl) rfl rfl (rCount_fs hH1 hS1 (by omega)) ?_
  rintro _ H2 ⟨M2, n2, rfl, hn2, hH2⟩
  have hS2 := hS1.mono fun q hq => List.mem_append_right M2 hq
  generalize M2 ++ X1 = X2 at hH2 hS2
  repeat' (first | refine zP ?_ | refine zA ?_ | (refine zM ?_; intro _ _) | refine zX ?_ | (refine zC ?_; intro _ _ _ _) | (refine zS ?_; intro _ _) | (apply Ws <;> intro hg))
  refine WR.call (by first | exact gN | exact gS rfl) rfl rfl (Ways_fs hH2 hS2 (by omega)) ?_
  rintro _ H3 ⟨M3, n3, rfl, hn3, hH3⟩
  have hS3 := hS2.mono fun q hq => List.mem_append_right M3 hq
  generalize M3 ++ X2 = X3 at hH3 hS3
  repeat' (first | refine zP ?_ | refine zA ?_ | (refine zM ?_; intro _ _) | refine zX ?_ | (refine zC ?_; intro _ _ _ _) | (refine zS ?_; intro _ _) | (apply Ws <;> intro hg))
  refine WR.call (by first | exact gN | exact gS rfl) rfl rfl (rWays_fs hH3 hS3 (by omega)) ?_
  rintro _ H4 ⟨M4, n4, rfl, hn4, hH4⟩
  have hS4 := hS3.mono fun q hq => List.mem_append_right M4 hq
  generalize M4 ++ X3 = X4 at hH4 hS4
  repeat' (first | refine zP ?_ | refine zA ?_ | (refine zM ?_; intro _ _) | refine zX ?_ | (refine zC ?_; intro _ _ _ _) | (refine zS ?_; intro _ _) | (apply Ws <;> intro hg))
  refine WR.call (by first | exact gN | exact gS rfl) rfl rfl (Always_fs hH4 hS4 (by omega)) ?_
  rintro _ H5 ⟨a1, M5, n5, rfl, hA1, hn5, hH5⟩
  have hS5 := hS4.mono fun q hq => List.mem_append_right M5 hq
  generalize M5 ++ X4 = X5 at hH5 hS5 hA1
  repeat' (first | refine zP ?_ | refine zA ?_ | (refine zM ?_; intro _ _) | refine zX ?_ | (refine zC ?_; intro _ _ _ _) | (refine zS ?_; intro _ _) | (apply Ws <;> intro hg))
  refine WR.call (by first | exact gN | exact gS rfl) rfl rfl (rAlways_fs hH5 hS5 (by omega)) ?_
  rintro _ H6 ⟨a2, M6, n6, rfl, hA2, hn6, hH6⟩
  have hS6 := hS5.mono fun q hq => List.mem_append_right M6 hq
  replace hA1 := hA1.mono fun q hq => List.mem_append_right M6 hq
  generalize M6 ++ X5 = X6 at hH6 hS6 hA1 hA2
  repeat' (first | refine zP ?_ | refine zA ?_ | (refine zM ?_; intro _ _) | refine zX ?_ | (refine zC ?_; intro _ _ _ _) | (refine zS ?_; intro _ _) | (apply Ws <;> intro hg))
  refine WR.call (by first | exact gN | exact gS rfl) rfl rfl (Never_fs hH6 hS6 (by omega)) ?_
  rintro _ H7 ⟨b1, M7, n7, rfl, hB1, hn7, hH7⟩
  have hS7 := hS6.mono fun q hq => List.mem_append_right M7 hq
  replace hA1 := hA1.mono fun q hq => List.mem_append_right M7 hq
  replace hA2 := hA2.mono fun q hq => List.mem_append_right M7 hq
  generalize M7 ++ X6 = X7 at hH7 hS7 hA1 hA2 hB1
  repeat' (first | refine zP ?_ | refine zA ?_ | (refine zM ?_; intro _ _) | refine zX ?_ | (refine zC ?_; intro _ _ _ _) | (refine zS ?_; intro _ _) | (apply Ws <;> intro hg))
  refine WR.call (by first | exact gN | exact gS rfl) rfl rfl (rNever_fs hH7 hS7 (by omega)) ?_
  rintro _ H8 ⟨b2, M8, n8, rfl, hB2, hn8, hH8⟩
  replace hA1 := hA1.mono fun q hq => List.mem_append_right M8 hq
  replace hA2 := hA2.mono fun q hq => List.mem_append_right M8 hq
  replace hB1 := hB1.mono fun q hq => List.mem_append_right M8 hq
  generalize M8 ++ X7 = X8 at hH8 hA1 hA2 hB1 hB2
  clear hH hH1 hH2 hH3 hH4 hH5 hH6 hH7 hS hS1 hS2 hS3 hS4 hS5 hS6 hS7
  have h1 := hale (fewB xs).length
  have h2 := hale 0
  generalize (if errS xs = 0 then inL (fewB xs) (fewB xs).length xs.length else []) = A at hA1 hA2 h1
  generalize (if errS xs = 0 then inL (fewB xs) 0 xs.length else []) = B at hB1 hB2 h2
  repeat' (first | refine zP ?_ | refine zA ?_ | (refine zM ?_; intro _ _) | refine zX ?_ | (refine zC ?_; intro _ _ _ _) | (refine zS ?_; intro _ _) | refine zO ?_ | (apply Ws <;> intro hg))
  refine WR.call (by first | exact gN | exact gS rfl) rfl rfl (same_fs hH8 hA1 hA2 (by omega) (by omega)) ?_
  rintro _ H9 ⟨rfl, rfl⟩
  rw [decide_eq_true rfl]
  repeat' (first | refine zP ?_ | refine zA ?_ | (refine zM ?_; intro _ _) | refine zX ?_ | (refine zC ?_; intro _ _ _ _) | (refine zS ?_; intro _ _) | refine zO ?_ | (apply Ws <;> intro hg))
  refine WR.call (by first | exact gN | exact gS rfl) rfl rfl (same_fs hH8 hB1 hB2 (by omega) (by omega)) ?_
  rintro _ H9 ⟨rfl, rfl⟩
  rw [decide_eq_true rfl]
  repeat' (first | refine zP ?_ | refine zA ?_ | (refine zM ?_; intro _ _) | refine zX ?_ | (refine zC ?_; intro _ _ _ _) | (refine zS ?_; intro _ _) | refine zO ?_ | (apply Ws <;> intro hg))
  refine WR.call (by first | exact gN | exact gS rfl) rfl rfl hfin ?_
  rintro _ _ ⟨rfl, rfl⟩
  repeat' (first | refine zP ?_ | refine zA ?_ | (refine zM ?_; intro _ _) | refine zX ?_ | (refine zC ?_; intro _ _ _ _) | (refine zS ?_; intro _ _) | refine zO ?_ | (apply Ws <;> intro hg))
  exact Ends.ret1 rfl rfl
end
end Go.Proofs.Ytcfffhkabhmkmaa.Ps
