/- Texts of the law, joined. -/
import Derived.Test.YtaipmdhnhffckaaJ3
namespace Go.Proofs.Ytaipmdhnhffckaa.Sh
open Go Go.Abs Go.Mth
set_option linter.unusedVariables false
set_option linter.unusedSimpArgs false
/-- A slice that can be read, though it is empty. -/
def Rd (M : HL) (v : Value) : Prop := v = .slice none 0 0 ∨ ∃ (b u o lo len cap : Nat) (ch : Ch) (cs : List Value), v = .slice (some ⟨b, o, some u⟩) len cap ∧ (b, ch) ∈ M ∧ ch.cellsAre u lo cs ∧ lo ≤ o ∧ o - lo ≤ cs.length
theorem Rd.mono {M M' : HL} {v : Value} (h : Rd M v) (k : ∀ q ∈ M, q ∈ M') : Rd M' v := by
  rcases h with h | ⟨b, u, o, lo, len, cap, ch, cs, h1, h2, h3⟩
  · exact .inl h
  · exact .inr ⟨b, u, o, lo, len, cap, ch, cs, h1, k _ h2, h3⟩
theorem rd_own {e : Nat} {v : Value} {cs : List Value} {Mx : HL} (h : Own e 1 v cs Mx) (M : HL) : Rd (Mx ++ M) v := by
  cases h with
  | nil => exact .inl rfl
  | row hl => exact .inr ⟨_, _, _, _, _, _, _, _, rfl, .head _, .row _ _ _ _, Nat.le_refl _, by omega⟩
  | full hl hone => exact .inr ⟨_, _, _, _, _, _, _, _, rfl, .head _, .inp _ _ _ _, Nat.le_refl _, by omega⟩
theorem rd_snoc {M Mi Mr : HL} {ws : List Value} {w : Value} (h : ∀ i, i < ws.length → Rd (Mi ++ M) (ws.getD i undef)) (hw : Rd (Mr ++ M) w) : ∀ i, i < (ws ++ [w]).length → Rd ((Mr ++ Mi) ++ M) ((ws ++ [w]).getD i undef) := by
  intro i hi
  rw [List.length_append, List.length_singleton] at hi
  by_cases e : i < ws.length
  · rw [getD_app_l e]
    refine (h i e).mono fun q hq => ?_
    rw [List.append_assoc]; exact List.mem_append_right _ hq
  · have : i = ws.length := by omega
    subst this
    rw [getD_snoc]
    refine hw.mono fun q hq => ?_
    rcases List.mem_append.1 hq with h | h
    · exact List.mem_append_left _ (List.mem_append_left _ h)
    · exact List.mem_append_right _ h
attribute [local irreducible] gOK WS WC WR WD Ends FS YS OpV seqK blockK loopK midK retK rdK asgK rangeEnd sat Cell
section
variable {M : HL} {n0 : Nat} {H : Heap} {v : Value}
set_option maxHeartbeats 4000000 in
theorem made2_fs (hH : hasH M n0 H) {a b : Int} {hs : List Int} (ha : 0 ≤ a ∧ a ≤ 255) (hb : 0 ≤ b ∧ b ≤ 255) (hl : hs.length = 24) (hu : ∀ x ∈ hs, 0 ≤ x ∧ x ≤ 255) {fi th most : Nat} (hfi : 1 ≤ fi ∧ fi ≤ 4) (hth : th ≤ 6) (hmo : most ≤ 20) :
    FS C 46 [.agg (heapV a b hs).toArray, .int .i64 (fi : Int), .int .i64 (th : Int), .int .i64 (most : Int)] H (fun e H' => ∃ ws Mo Mi n', OwnR 23 1 e ws Mo ∧ RowsN (Mi ++ M) ws (madeVs a b hs fi th most) ∧ (∀ i, i < ws.length → Rd (Mi ++ M) (ws.getD i undef)) ∧ n0 ≤ n' ∧ hasH (Mo ++ (Mi ++ M)) n' H') := by
  have hone := heap_one a b hs
  refine FS.intro (pf := pf46) rfl rfl rfl ?_
  repeat' (first | refine zP ?_ | refine zA ?_ | (refine zM ?_; intro _ _) | refine zX ?_ | (refine zC ?_; intro _ _ _ _) | (refine zS ?_; intro _ _))
  rename_i H1 hH1
  refine WR.op (by first | exact gN | exact gS rfl) rfl (OpV.conv u8k i64k rfl (c := b) (IntWalk.i64_in _ (by omega))) ?_
  obtain ⟨an, rfl⟩ : ∃ an : Nat, a = an := ⟨a.toNat, by omega⟩
  obtain ⟨bn, rfl⟩ : ∃ bn : Nat, b = bn := ⟨b.toNat, by omega⟩
  have hmod := Nat.mod_lt an (show 0 < fi by omega)
  have hmodb := Nat.mod_lt bn (show 0 < th + 1 by omega)
  repeat' (first | refine zP ?_ | refine zA ?_ | (refine zM ?_; intro _ _) | refine zX ?_ | (refine zC ?_; intro _ _ _ _) | (refine zS ?_; intro _ _) | (apply Ws <;> intro hg))
  rw [show (bn : Int) % ((th : Int) + 1) = ((bn % (th + 1) : Nat) : Int) by simp]
  obtain ⟨m, hm⟩ : ∃ m, bn % (th + 1) = m := ⟨_, rfl⟩
  rw [hm] at hmodb ⊢
  repeat' (first | refine zP ?_ | refine zA ?_ | (refine zM ?_; intro _ _) | refine zX ?_ | (refine zC ?_; intro _ _ _ _) | (refine zS ?_; intro _ _) | (apply Ws <;> intro hg))
  refine WR.op (by first | exact gN | exact gS rfl) rfl (OpV.conv u8k i64k rfl (c := (an : Int)) (IntWalk.i64_in _ (by omega))) ?_
  repeat' (first | refine zP ?_ | refine zA ?_ | (refine zM ?_; intro _ _) | refine zX ?_ | (refine zC ?_; intro _ _ _ _) | (refine zS ?_; intro _ _) | (apply Ws <;> intro hg))
  rw [show (an : Int) % (fi : Int) = ((an % fi : Nat) : Int) by simp]
  obtain ⟨r, hr⟩ : ∃ r, an % fi = r := ⟨_, rfl⟩
  rw [hr] at hmod ⊢
  repeat' (first | refine zP ?_ | refine zA ?_ | (refine zM ?_; intro _ _) | refine zX ?_ | (refine zC ?_; intro _ _ _ _) | (refine zS ?_; intro _ _) | (apply Ws <;> intro hg))
  rw [show (1 : Int) + (r : Int) = ((1 + r : Nat) : Int) by omega]
  obtain ⟨N, hN⟩ : ∃ N, 1 + r = N := ⟨_, rfl⟩
  have hvs : madeVs an bn hs fi th most = (List.range N).map fun i => madeRow hs i m most := by
    unfold madeVs
    rw [Int.toNat_natCast, Int.toNat_natCast, hr, hm, hN]
  rw [hvs]
  have hN4 : 1 ≤ N ∧ N ≤ 4 := by omega
  rw [hN]
  refine WR.op (by first | exact gN | exact gS rfl) rfl (OpV.slAh rfl rfl (by omega) (by decide)) ?_
  repeat' (first | refine zP ?_ | refine zA ?_ | (refine zM ?_; intro _ _) | refine zX ?_ | (refine zC ?_; intro _ _ _ _) | (refine zS ?_; intro _ _) | (apply Ws <;> intro hg))
  refine WC.loopX [(1, _), (2, _), (3, _), (4, _), (10, _), (29, _), (30, _)] (fun s : KW => [(9, s.v), (31, .int .i64 (s.k : Int))]) []
    (fun s H' => s.k ≤ N ∧ n0 + 1 ≤ s.n ∧ ((s.k = 0 ∧ s.v = .slice none 0 0 ∧ s.ws = [] ∧ s.Mo = []) ∨ OwnR 23 1 s.v s.ws s.Mo) ∧ RowsN (s.Mi ++ M) s.ws ((List.range s.k).map fun i => madeRow hs i m most) ∧ (∀ i, i < s.ws.length → Rd (s.Mi ++ M) (s.ws.getD i undef)) ∧ hasH ((n0, .row 49 0 0 (heapV an bn hs)) :: (s.Mo ++ (s.Mi ++ M))) s.n H') (fun s => N - s.k) ⟨0, .slice none 0 0, [], [], [], n0 + 1⟩ (by repeat' (first | exact .nil | refine .cons rfl ?_)) rfl
    ⟨Nat.zero_le _, Nat.le_refl _, .inl ⟨rfl, rfl, rfl, rfl⟩, ⟨rfl, fun i h => absurd h (Nat.not_lt_zero _)⟩, fun i h => absurd h (Nat.not_lt_zero _), hH1⟩ ?_
  clear hH1
  rintro ⟨k, v, ws, Mo, Mi, n1⟩ H2 ⟨hk, hn1, hO, hR, hRd, hH2⟩
  simp only at hk hn1 hO hR hRd hH2
  have hOwn : Own 23 1 v ws Mo := by
    rcases hO with ⟨_, rfl, rfl, rfl⟩ | h
    · exact .nil
    · exact h.own
  have hwl : ws.length = k := by rw [hR.1]; simp
  dsimp only [List.cons_append, List.nil_append]
  repeat' (first | refine zP ?_ | refine zA ?_ | (refine zM ?_; intro _ _) | refine zX ?_ | (refine zC ?_; intro _ _ _ _) | (refine zS ?_; intro _ _) | (apply Ws <;> intro hg))
  refine WC.condP rfl (fun hlt => ?_) (fun hlt => ?_)
  · have hk' : k < N := by omega
    repeat' (first | refine zP ?_ | refine zA ?_ | (refine zM ?_; intro _ _) | refine zX ?_ | (refine zC ?_; intro _ _ _ _) | (refine zS ?_; intro _ _) | (apply Ws <;> intro hg))
    have hdl : (heapV an bn hs).length = 26 := by simp [heapV, hl]
    obtain ⟨row, hrow⟩ : ∃ row : List Nat, row = ((hs.drop (k * 6)).take 6).map Int.toNat := ⟨_, rfl⟩
    have hrl : row.length = 6 := by rw [hrow, List.length_map, List.length_take, List.length_drop, hl]; omega
    have hrv : bytesV ((hs.drop (k * 6)).take 6) = numsK .u8 row := by
      rw [hrow, bytesV, numsK, List.map_map]
      refine List.map_congr_left fun x hx => ?_
      have := (hu x (List.mem_of_mem_drop (List.mem_of_mem_take hx))).1
      show Value.int .u8 x = Value.int .u8 (x.toNat : Nat)
      rw [Int.toNat_of_nonneg this]
    have hrg : ∀ j, j < 6 → row.getD j 0 = (hs.getD (k * 6 + j) 0).toNat := fun j hj => by
      rw [hrow, map_getD (a := 0) (by rw [List.length_take, List.length_drop, hl]; omega), getD_take hj, getD_eq (by rw [List.length_drop, hl]; omega), List.getElem_drop, getD_eq (by omega)]
    have hrb : ∀ j, j < 6 → row.getD j 0 ≤ 255 := fun j hj => by
      rw [hrg j hj]
      have := hu _ (getD_mem (a := 0) (show k * 6 + j < hs.length by omega))
      omega
    have hrone : (numsK .u8 row).all one = true := by rw [← hrv]; exact bytes_one _
    refine WR.op (by first | exact gN | exact gS rfl) rfl (OpV.loadN (l := numsK .u8 row) rfl hH2 (.head _) (.row _ _ _ _) (Nat.zero_le _) (by rw [hdl]; omega) (by rw [Nat.sub_zero, heap_drop, ← hrv, bytesV, bytesV, List.map_take])) ?_
    repeat' (first | refine zP ?_ | refine zA ?_ | (refine zM ?_; intro _ _) | refine zX ?_ | (refine zC ?_; intro _ _ _ _) | (refine zS ?_; intro _ _) | (apply Ws <;> intro hg))
    rename_i H3 hH3
    refine WR.storeAll (by first | exact gN | exact gS rfl) hH3 rfl rfl (ls := numsK .u8 row) (by simp [Value.cells]) (by simp [hrl]) .here hrone (by simp [hrl]) fun H4 hH4 => ?_
    clear hH2 hH3
    repeat' (first | refine zP ?_ | refine zA ?_ | (refine zM ?_; intro _ _) | refine zX ?_ | (refine zC ?_; intro _ _ _ _) | (refine zS ?_; intro _ _) | (apply Ws <;> intro hg))
    refine WR.op (by first | exact gN | exact gS rfl) rfl (OpV.slAh rfl rfl (show m ≤ 6 by omega) (by decide)) ?_
    repeat' (first | refine zP ?_ | refine zA ?_ | (refine zM ?_; intro _ _) | refine zX ?_ | (refine zC ?_; intro _ _ _ _) | (refine zS ?_; intro _ _) | (apply Ws <;> intro hg))
    refine WC.loopX [(1, _), (2, _), (3, _), (4, _), (9, _), (10, _), (29, _), (30, _), (31, _), (36, _), (37, _)] (fun s : KV => [(13, s.v), (38, .int .i64 (s.k : Int))]) []
      (fun s H' => s.k ≤ m ∧ n0 + 1 ≤ s.n ∧ Own 3 1 s.v (nodes (madeRow hs k s.k most)) s.Mx ∧ hasH ((n1, .row 46 0 0 (numsK .u8 row)) :: (s.Mx ++ ((n0, .row 49 0 0 (heapV an bn hs)) :: (Mo ++ (Mi ++ M))))) s.n H') (fun s => m - s.k) ⟨0, .slice none 0 0, [], n1 + 1⟩ (by repeat' (first | exact .nil | refine .cons rfl ?_)) rfl
      ⟨Nat.zero_le _, by simp only; omega, .nil, hH4⟩ ?_
    clear hH4
    rintro ⟨j, u, Mr, n2⟩ H5 ⟨hj, hn2, hOr, hH5⟩
    simp only at hj hn2 hOr hH5
    dsimp only [List.cons_append, List.nil_append]
    repeat' (first | refine zP ?_ | refine zA ?_ | (refine zM ?_; intro _ _) | refine zX ?_ | (refine zC ?_; intro _ _ _ _) | (refine zS ?_; intro _ _) | (apply Ws <;> intro hg))
    refine WC.condP rfl (fun hlt2 => ?_) (fun hlt2 => ?_)
    · have hj' : j < m := by omega
      have hxb := hrb j (by omega)
      repeat' (first | refine zP ?_ | refine zA ?_ | (refine zM ?_; intro _ _) | refine zX ?_ | (refine zC ?_; intro _ _ _ _) | (refine zS ?_; intro _ _) | (apply Ws <;> intro hg))
      refine WR.op (by first | exact gN | exact gS rfl) rfl (OpV.conv u8k i64k rfl (c := (row.getD j 0 : Int)) (IntWalk.i64_in _ (by omega))) ?_
      repeat' (first | refine zP ?_ | refine zA ?_ | (refine zM ?_; intro _ _) | refine zX ?_ | (refine zC ?_; intro _ _ _ _) | (refine zS ?_; intro _ _) | (apply Ws <;> intro hg))
      rw [show ((row.getD j 0 : Nat) : Int) % ((most : Int) + 1) = ((row.getD j 0 % (most + 1) : Nat) : Int) by simp]
      refine WR.append1F [(n1, .row 46 0 0 (numsK .u8 row))] Mr ((n0, .row 49 0 0 (heapV an bn hs)) :: (Mo ++ (Mi ++ M))) rfl rfl rfl rfl hOr hH5 (new := [.int .i64 (row.getD j 0 % (most + 1) : Nat)]) (by rfl) rfl rfl (Nat.le_refl _) (by omega) (by simp [madeRow]; omega) fun v3 M3 n3 H6 hO3 hH6 hn3 => ?_
      repeat' (first | refine zP ?_ | refine zA ?_ | (refine zM ?_; intro _ _) | refine zX ?_ | (refine zC ?_; intro _ _ _ _) | (refine zS ?_; intro _ _) | (apply Ws <;> intro hg))
      rw [show (j : Int) + 1 = ((j + 1 : Nat) : Int) by omega]
      refine Ends.loop ⟨j + 1, v3, M3, n3⟩ (by simp only; omega) (by repeat' (first | exact .nil | refine .cons rfl ?_)) rfl ⟨hj', by simp only; omega, ?_, hH6⟩
      simp only
      rw [row_succ, ← hrg j (by omega)]
      simpa [nodes] using hO3
    · have hjm : j = m := by omega
      subst hjm
      have hu1 := (hOr.sl M).one_
      repeat' (first | refine zP ?_ | refine zA ?_ | (refine zM ?_; intro _ _) | refine zX ?_ | (refine zC ?_; intro _ _ _ _) | (refine zS ?_; intro _ _) | (apply Ws <;> intro hg))
      refine WR.append1RF (Mr ++ [(n0, .row 49 0 0 (heapV an bn hs))]) Mo (Mi ++ M) rfl rfl rfl rfl hOwn (by have := hH5.tail; rw [List.append_assoc]; exact this) (new := [u]) (fill1 hu1) (by simp [hu1]) rfl (Nat.le_refl _) (by omega) (by simp; omega) fun v3 M3 n3 H6 hO3 hH6 hn3 => ?_
      repeat' (first | refine zP ?_ | refine zA ?_ | (refine zM ?_; intro _ _) | refine zX ?_ | (refine zC ?_; intro _ _ _ _) | (refine zS ?_; intro _ _) | (apply Ws <;> intro hg))
      rw [show (k : Int) + 1 = ((k + 1 : Nat) : Int) by omega]
      refine Ends.loop ⟨k + 1, v3, ws ++ [u], M3, Mr ++ Mi, n3⟩ (by simp only; omega) (by repeat' (first | exact .nil | refine .cons rfl ?_)) rfl ⟨hk', by simp only; omega, .inr hO3, ?_, rd_snoc hRd (rd_own hOr M), hH6.perm ?_⟩
      · simp only
        rw [List.range_succ, List.map_append]
        exact rowsN_snoc hR (hOr.sl M)
      · simp only
        refine List.Perm.trans (l₂ := (n0, .row 49 0 0 (heapV an bn hs)) :: (Mr ++ (M3 ++ (Mi ++ M)))) ?_ (List.Perm.cons _ ?_)
        · rw [List.append_assoc]
          exact List.perm_middle
        · rw [← List.append_assoc, ← List.append_assoc, ← List.append_assoc, ← List.append_assoc]
          exact (List.perm_append_comm.append_right _).append_right _
  · have hkN : k = N := by omega
    subst hkN
    rcases hO with ⟨h, _⟩ | hO
    · omega
    repeat' (first | refine zP ?_ | refine zA ?_ | (refine zM ?_; intro _ _) | refine zX ?_ | (refine zC ?_; intro _ _ _ _) | (refine zS ?_; intro _ _) | (apply Ws <;> intro hg))
    exact Ends.ret1 rfl ⟨ws, Mo, Mi, n1, hO, hR, hRd, by omega, hH2.tail⟩
set_option maxHeartbeats 1000000 in
theorem cloneG_fs (hH : hasH M n0 H) {l : List Nat} (hS : Sl M 1 v (nodes l)) (hr : Rd M v) (hl : l.length ≤ 1000) :
    FS C 62 [v] H (fun e H' => ∃ Mx n', Own 3 1 e (nodes l) Mx ∧ n0 ≤ n' ∧ hasH (Mx ++ M) n' H') := by
  by_cases h0 : l = []
  · subst h0
    have hr' := hr
    rcases hr with rfl | ⟨b, u, o, lo, len, cap, ch, cs, rfl, hm, hc, hlo, hin⟩
    · refine FS.intro (pf := pf62) rfl rfl rfl ?_
      repeat' (first | refine zP ?_ | refine zA ?_ | (refine zM ?_; intro _ _) | refine zX ?_ | (refine zC ?_; intro _ _ _ _) | (refine zS ?_; intro _ _) | (apply Ws <;> intro hg))
      exact Ends.ret1 rfl ⟨[], n0, .nil, Nat.le_refl _, hH⟩
    · have hlen : len = 0 := by
        generalize hw : Value.slice (some ⟨b, o, some u⟩) len cap = w at hS
        generalize hz : nodes [] = z at hS
        cases hS with
        | nil c => cases hw
        | emp a => injection hw
        | row _ _ _ g1 =>
          injection hw with _ g2 _
          rw [← hz] at g1
          simp at g1
          omega
      subst hlen
      refine FS.intro (pf := pf62) rfl rfl rfl ?_
      repeat' (first | refine zP ?_ | refine zA ?_ | (refine zM ?_; intro _ _) | refine zX ?_ | (refine zC ?_; intro _ _ _ _) | (refine zS ?_; intro _ _) | (apply Ws <;> intro hg))
      refine WR.bldS (by first | exact gN | exact gS rfl) rfl hH (vs := []) rfl (cs := []) (by rfl) rfl fun H3 hH3 => ?_
      repeat' (first | refine zP ?_ | refine zA ?_ | (refine zM ?_; intro _ _) | refine zX ?_ | (refine zC ?_; intro _ _ _ _) | (refine zS ?_; intro _ _) | (apply Ws <;> intro hg))
      refine WR.appEmp (by first | exact gN | exact gS rfl) rfl rfl rfl hH3 (.head _) rfl (by
        have := hH3.readN (k := 0) (.tail _ hm) hc hlo (by omega)
        simpa [srcCells] using this) fun H4 hH4 => ?_
      repeat' (first | refine zP ?_ | refine zA ?_ | (refine zM ?_; intro _ _) | refine zX ?_ | (refine zC ?_; intro _ _ _ _) | (refine zS ?_; intro _ _) | (apply Ws <;> intro hg))
      exact Ends.ret1 rfl ⟨[(n0, .inp 3 0 0 [])], n0 + 1, .full (len := 0) rfl rfl, by omega, hH4.asInp .here⟩
  · have hne : nodes l ≠ [] := fun h => h0 (List.map_eq_nil_iff.1 h)
    have hl0 : 0 < l.length := List.length_pos_iff.2 h0
    have hsm : ∃ a len cap, v = .slice (some a) len cap := by
      generalize nodes l = cs at hS hne
      cases hS with
      | nil c => exact absurd rfl hne
      | emp a => exact ⟨_, _, _, rfl⟩
      | row => exact ⟨_, _, _, rfl⟩
    obtain ⟨a, len, cap, rfl⟩ := hsm
    refine FS.intro (pf := pf62) rfl rfl rfl ?_
    repeat' (first | refine zP ?_ | refine zA ?_ | (refine zM ?_; intro _ _) | refine zX ?_ | (refine zC ?_; intro _ _ _ _) | (refine zS ?_; intro _ _) | (apply Ws <;> intro hg))
    refine WR.bldS (by first | exact gN | exact gS rfl) rfl hH (vs := []) rfl (cs := []) (by rfl) rfl fun H3 hH3 => ?_
    repeat' (first | refine zP ?_ | refine zA ?_ | (refine zM ?_; intro _ _) | refine zX ?_ | (refine zC ?_; intro _ _ _ _) | (refine zS ?_; intro _ _) | (apply Ws <;> intro hg))
    obtain ⟨hk, hsr⟩ := (hS.cons (p := (n0, .row 3 0 0 []))).src hH3 hne
    refine WR.appendNew (by first | exact gN | exact gS rfl) rfl rfl rfl hH3 (.head _) (.row _ _ _ _) (Nat.zero_le _) (Nat.zero_le _) hk (by have := hsr _ (Nat.le_refl _); rw [List.take_length] at this; exact this) (by simp) (by simp; omega) (nodes_one' _) (by omega) (by omega) (by simp; omega) fun H' hH' => ?_
    repeat' (first | refine zP ?_ | refine zA ?_ | (refine zM ?_; intro _ _) | refine zX ?_ | (refine zC ?_; intro _ _ _ _) | (refine zS ?_; intro _ _) | (apply Ws <;> intro hg))
    exact Ends.ret1 rfl ⟨[(n0 + 1, .row 3 0 0 (nodes l))], n0 + 2, .row (by simp), by omega, hH'.sub (.cons_cons _ (List.sublist_cons_self _ _))⟩
theorem ReverseV_fs {b u q cp N : Nat} {us : List Value} (hH : hasH ((b, .row 23 u q us) :: M) n0 H) (hul : us.length = N) (hN : N ≤ 1000) (hone : us.all one = true) :
    FS C 66 [.slice (some ⟨b, q, some u⟩) N cp] H (fun e H' => hasH ((b, .row 23 u q us.reverse) :: M) n0 H') := by
  have h1 : ∀ i, i < N → one (us.getD i undef) = true := fun i hi => List.all_eq_true.1 hone _ (getD_mem (by omega))
  refine FS.intro (pf := pf66) rfl rfl rfl ?_
  repeat' (first | refine zP ?_ | refine zA ?_ | (refine zM ?_; intro _ _) | refine zX ?_ | (refine zC ?_; intro _ _ _ _) | (refine zS ?_; intro _ _) | (apply Ws <;> intro hg))
  refine WC.loopX [(0, .slice (some ⟨b, q, some u⟩) N cp)] (fun s : Nat × List Value => [(2, .int .i64 (s.1 : Int)), (3, .int .i64 ((N : Int) - 1 - s.1))]) []
    (fun s H' => hasH ((b, .row 23 u q s.2) :: M) n0 H' ∧ 2 * s.1 ≤ N ∧ s.2.length = N ∧ ∀ k, k < N → s.2.getD k undef = if k < s.1 ∨ N - s.1 ≤ k then us.getD (N - 1 - k) undef else us.getD k undef) (fun s => N - s.1) (0, us) ?_ rfl
    ⟨hH, Nat.zero_le _, hul, fun k hk => by simp only; rw [if_neg (by omega)]⟩ ?_
  · refine .cons rfl (.cons ?_ (.cons rfl .nil))
    show some (Value.int .i64 ((N : Int) - 1)) = some (.int .i64 ((N : Int) - 1 - ((0 : Nat) : Int)))
    simp
  clear hH
  rintro ⟨k, ys⟩ H1 ⟨hH1, hk, hyl, hys⟩
  simp only at hH1 hk hyl hys
  dsimp only [List.cons_append, List.nil_append]
  repeat' (first | refine zP ?_ | refine zA ?_ | (refine zM ?_; intro _ _) | refine zX ?_ | (refine zC ?_; intro _ _ _ _) | (refine zS ?_; intro _ _) | (apply Ws <;> intro hg))
  refine WC.condP rfl (fun hlt => ?_) (fun hlt => ?_)
  · have hk' : k < N := by omega
    obtain ⟨j, hj⟩ : ∃ j : Nat, (N : Int) - 1 - k = j := ⟨N - 1 - k, by omega⟩
    rw [hj]
    have hjk := hys j (by omega)
    have hkk := hys k (by omega)
    rw [if_neg (by omega)] at hjk hkk
    have g1 : one (ys.getD j undef) = true := by rw [hjk]; exact h1 j (by omega)
    have g2 : one (ys.getD k undef) = true := by rw [hkk]; exact h1 k (by omega)
    repeat' (first | refine zP ?_ | refine zA ?_ | (refine zM ?_; intro _ _) | refine zX ?_ | (refine zC ?_; intro _ _ _ _) | (refine zS ?_; intro _ _) | (apply Ws <;> intro hg))
    refine WR.op (by first | exact gN | exact gS rfl) rfl (OpV.load1 (v := ys.getD j undef) rfl hH1 (.head _) (.row _ _ _ _) (Nat.le_add_right _ _) (by rw [show q + j - q = j by omega]; exact vals_get (by omega))) ?_
    repeat' (first | refine zP ?_ | refine zA ?_ | (refine zM ?_; intro _ _) | refine zX ?_ | (refine zC ?_; intro _ _ _ _) | (refine zS ?_; intro _ _) | (apply Ws <;> intro hg))
    refine WR.op (by first | exact gN | exact gS rfl) rfl (OpV.load1 (v := ys.getD k undef) rfl hH1 (.head _) (.row _ _ _ _) (Nat.le_add_right _ _) (by rw [show q + k - q = k by omega]; exact vals_get (by omega))) ?_
    repeat' (first | refine zP ?_ | refine zA ?_ | (refine zM ?_; intro _ _) | refine zX ?_ | (refine zC ?_; intro _ _ _ _) | (refine zS ?_; intro _ _) | (apply Ws <;> intro hg))
    refine WR.store1 (cs' := ys.set k (ys.getD j undef)) (by first | exact gN | exact gS rfl) hH1 rfl rfl g1 .here (Nat.le_add_right _ _) (by omega) (by rw [show q + k - q = k by omega]) fun H2 hH2 => ?_
    have hl2 : (ys.set k (ys.getD j undef)).length = N := by simp [hyl]
    repeat' (first | refine zP ?_ | refine zA ?_ | (refine zM ?_; intro _ _) | refine zX ?_ | (refine zC ?_; intro _ _ _ _) | (refine zS ?_; intro _ _) | (apply Ws <;> intro hg))
    refine WR.store1 (cs' := (ys.set k (ys.getD j undef)).set j (ys.getD k undef)) (by first | exact gN | exact gS rfl) hH2 rfl rfl g2 .here (Nat.le_add_right _ _) (by omega) (by rw [show q + j - q = j by omega]) fun H3 hH3 => ?_
    repeat' (first | refine zP ?_ | refine zA ?_ | (refine zM ?_; intro _ _) | refine zX ?_ | (refine zC ?_; intro _ _ _ _) | (refine zS ?_; intro _ _) | (apply Ws <;> intro hg))
    rw [show (j : Int) - 1 = (N : Int) - 1 - ((k + 1 : Nat) : Int) by omega]
    refine Ends.loop (k + 1, (ys.set k (ys.getD j undef)).set j (ys.getD k undef)) (by simp only; omega) (by repeat' (first | exact .nil | refine .cons rfl ?_)) rfl ⟨hH3, by simp only; omega, by simp [hyl], fun i hi => ?_⟩
    simp only
    rw [getD_set' (by omega), getD_set' (by omega)]
    by_cases h1 : i = j
    · rw [if_pos h1, if_pos (by omega), hkk]; congr 1; omega
    · rw [if_neg h1]
      by_cases h2 : i = k
      · rw [if_pos h2, if_pos (by omega), hjk]; congr 1; omega
      · rw [if_neg h2, hys i hi]
        by_cases h3 : i < k ∨ N - k ≤ i
        · rw [if_pos h3, if_pos (by omega)]
        · rw [if_neg h3, if_neg (by omega)]
  · have hre : ys = us.reverse := by
      refine ext_getD (a := undef) (by simp [hyl, hul]) fun i hi => ?_
      rw [hys i (by omega), getD_eq (show i < us.reverse.length by simp; omega), List.getElem_reverse]
      by_cases h3 : i < k ∨ N - k ≤ i
      · rw [if_pos h3, getD_eq (by omega)]
        congr 1; omega
      · rw [if_neg h3, getD_eq (by omega)]
        congr 1; omega
    subst hre
    repeat' (first | refine zP ?_ | refine zA ?_ | (refine zM ?_; intro _ _) | refine zX ?_ | (refine zC ?_; intro _ _ _ _) | (refine zS ?_; intro _ _) | (apply Ws <;> intro hg))
    exact Ends.end0 hH1
end
end Go.Proofs.Ytaipmdhnhffckaa.Sh

namespace Go.Proofs.Ytaipmdhnhffckaa.Sh
open Go Go.Abs Go.Mth
set_option linter.unusedVariables false
set_option linter.unusedSimpArgs false
structure KNM where
  k : Nat
  v : Value
  us : List Value
  Ms : HL
  w : Value
  xs : List Value
  Mw : HL
  Mi : HL
  n : Nat
attribute [local irreducible] gOK WS WC WR WD Ends FS YS OpV seqK blockK loopK midK retK rdK asgK rangeEnd sat Cell
section
variable {M : HL} {n0 : Nat} {H : Heap}
set_option maxHeartbeats 16000000 in
theorem ShareNamed_fs (hH : hasH M n0 H) {a b c : Int} {hs : List Int} (ha : 0 ≤ a ∧ a ≤ 255) (hb : 0 ≤ b ∧ b ≤ 255) (hl : hs.length = 24) (hu : ∀ x ∈ hs, 0 ≤ x ∧ x ≤ 255) (hc : 0 ≤ c ∧ c ≤ 255) :
    FS C 14 [.agg (heapV a b hs).toArray, .int .u8 c] H (fun e H' => e = .bool true) := by
  have hone := heap_one a b hs
  obtain ⟨t, rfl⟩ : ∃ t : Nat, c = t := ⟨c.toNat, by omega⟩
  refine FS.intro (pf := pf14) rfl rfl rfl ?_
  repeat' (first | refine zP ?_ | refine zA ?_ | (refine zM ?_; intro _ _) | refine zX ?_ | (refine zC ?_; intro _ _ _ _) | (refine zS ?_; intro _ _))
  rename_i H1 hH1
  refine WR.op (by first | exact gN | exact gS rfl) rfl (OpV.loadAll (k := 26) rfl hH1 (.head _) (.row _ _ _ _) (by simp [heapV, hl])) ?_
  refine WR.call (by first | exact gN | exact gS rfl) rfl rfl (made2_fs hH1 ha hb hl hu (fi := 4) (th := 5) (most := 6) (by omega) (by omega) (by omega)) ?_
  rintro v H3 ⟨ws, Mo, Mi, n3, hO, hR, hRd, hn3, hH3⟩
  clear hH1
  have hV := made_ok (a := a) (b := b) (hs := hs) (fi := 4) (th := 5) (most := 6) (by omega) (by omega) (by omega)
  have hSv := hO.own.sl (Mi ++ (n0, Ch.row 49 0 0 (heapV a b hs)) :: M)
  have hRU := hR.mono (M' := Mo ++ (Mi ++ (n0, Ch.row 49 0 0 (heapV a b hs)) :: M)) fun q hq => List.mem_append_right _ hq
  have hRdU : ∀ i, i < ws.length → Rd (Mo ++ (Mi ++ (n0, Ch.row 49 0 0 (heapV a b hs)) :: M)) (ws.getD i undef) := fun i hi => (hRd i hi).mono fun q hq => List.mem_append_right _ hq
  have hwl : ws.length = 1 + a.toNat % 4 := by rw [hR.1, hV.len]
  have hm5 : b.toNat % (5 + 1) ≤ 5 := by have := Nat.mod_lt b.toNat (show 0 < 5 + 1 by omega); omega
  clear hO hone hR hRd
  generalize Mo ++ (Mi ++ (n0, Ch.row 49 0 0 (heapV a b hs)) :: M) = U at hH3 hRU hSv hRdU
  generalize madeVs a b hs 4 5 6 = vs at hRU hV
  generalize 1 + a.toNat % 4 = N at hV hwl
  generalize b.toNat % (5 + 1) = m at hV hm5
  have hN1 := hV.pos
  have hN4 := hV.n4
  have hvl := hV.len
  have hv1 := hSv.one_
  have hpw := pow_4096 hN4 hV.m6 hN1
  have hrow : ∀ i, i < N → Sl U 1 (ws.getD i undef) (nodes (vs.getD i [])) := fun i hi => hRU.2 i (by omega)
  repeat' (first | refine zP ?_ | refine zA ?_ | (refine zM ?_; intro _ _) | refine zX ?_ | (refine zC ?_; intro _ _ _ _) | (refine zS ?_; intro _ _) | (apply Ws <;> intro hg))
  rw [hwl]
  refine WC.loopX [(1, _), (2, _), (5, _), (22, _)] (fun s : KNM => [(6, s.v), (7, s.w), (23, .int .i64 (s.k : Int))]) []
    (fun s H' => s.k ≤ N ∧ ((s.k = 0 ∧ s.v = .slice none 0 0 ∧ s.us = [] ∧ s.Ms = []) ∨ OwnR 23 1 s.v s.us s.Ms) ∧ s.us.length = s.k ∧ (∀ i, i < s.k → s.us.getD i undef = ws.getD ((i + t) % N) undef) ∧
      ((s.k = 0 ∧ s.w = .slice none 0 0 ∧ s.xs = [] ∧ s.Mw = []) ∨ OwnR 23 1 s.w s.xs s.Mw) ∧ s.xs.length = s.k ∧ (∀ i, i < s.k → Sl (s.Mi ++ U) 1 (s.xs.getD i undef) (nodes (vs.getD i [] ++ [0]))) ∧ hasH (s.Ms ++ (s.Mw ++ (s.Mi ++ U))) s.n H') (fun s => N - s.k) ⟨0, .slice none 0 0, [], [], .slice none 0 0, [], [], [], n3⟩ (by repeat' (first | exact .nil | refine .cons rfl ?_)) rfl
    ⟨Nat.zero_le _, .inl ⟨rfl, rfl, rfl, rfl⟩, rfl, fun i h => absurd h (Nat.not_lt_zero _), .inl ⟨rfl, rfl, rfl, rfl⟩, rfl, fun i h => absurd h (Nat.not_lt_zero _), hH3⟩ ?_
  clear hH3
  rintro ⟨k, v6, us, Ms, v7, xs, Mw, Mi, n4⟩ H4 ⟨hk, hO6, hul, hus, hO7, hxl, hxs, hH4⟩
  simp only at hk hO6 hul hus hO7 hxl hxs hH4
  have hUp : ∀ q ∈ U, q ∈ Ms ++ (Mw ++ (Mi ++ U)) := fun q hq => List.mem_append_right _ (List.mem_append_right _ (List.mem_append_right _ hq))
  have hSv4 := hSv.mono hUp
  dsimp only [List.cons_append, List.nil_append]
  repeat' (first | refine zP ?_ | refine zA ?_ | (refine zM ?_; intro _ _) | refine zX ?_ | (refine zC ?_; intro _ _ _ _) | (refine zS ?_; intro _ _) | (apply Ws <;> intro hg))
  refine WC.condP rfl (fun hlt => ?_) (fun hlt => ?_)
  · have hk' : k < N := by omega
    have hOw6 : Own 23 1 v6 us Ms := by
      rcases hO6 with ⟨_, rfl, rfl, rfl⟩ | h
      · exact .nil
      · exact h.own
    have hOw7 : Own 23 1 v7 xs Mw := by
      rcases hO7 with ⟨_, rfl, rfl, rfl⟩ | h
      · exact .nil
      · exact h.own
    have hmod := Nat.mod_lt (k + t) (show 0 < N by omega)
    repeat' (first | refine zP ?_ | refine zA ?_ | (refine zM ?_; intro _ _) | refine zX ?_ | (refine zC ?_; intro _ _ _ _) | (refine zS ?_; intro _ _) | (apply Ws <;> intro hg))
    refine WR.op (by first | exact gN | exact gS rfl) rfl (OpV.conv u8k i64k rfl (c := (t : Int)) (IntWalk.i64_in _ (by omega))) ?_
    repeat' (first | refine zP ?_ | refine zA ?_ | (refine zM ?_; intro _ _) | refine zX ?_ | (refine zC ?_; intro _ _ _ _) | (refine zS ?_; intro _ _) | (apply Ws <;> intro hg))
    rw [hwl]
    repeat' (first | refine zP ?_ | refine zA ?_ | (refine zM ?_; intro _ _) | refine zX ?_ | (refine zC ?_; intro _ _ _ _) | (refine zS ?_; intro _ _) | (apply Ws <;> intro hg))
    rw [show ((k : Int) + (t : Int)) % (N : Int) = (((k + t) % N : Nat) : Int) by simp]
    repeat' (first | refine zP ?_ | refine zA ?_ | (refine zM ?_; intro _ _) | refine zX ?_ | (refine zC ?_; intro _ _ _ _) | (refine zS ?_; intro _ _) | (apply Ws <;> intro hg))
    have hru := hrow _ hmod
    refine WR.append1RF [] Ms (Mw ++ (Mi ++ U)) rfl rfl rfl rfl hOw6 hH4 (new := [ws.getD ((k + t) % N) undef]) (fill1 hru.one_) (by rw [List.all_cons, List.all_nil, hru.one_]; rfl) rfl (Nat.le_refl _) (by omega) (by simp; omega) fun v6' Ms' n5 H5 hO6' hH5 hn5 => ?_
    replace hH5 : hasH (Ms' ++ (Mw ++ (Mi ++ U))) n5 H5 := hH5
    clear hH4 hSv4 hUp
    have hUp : ∀ q ∈ U, q ∈ Ms' ++ (Mw ++ (Mi ++ U)) := fun q hq => List.mem_append_right _ (List.mem_append_right _ (List.mem_append_right _ hq))
    have hSv5 := hSv.mono hUp
    repeat' (first | refine zP ?_ | refine zA ?_ | (refine zM ?_; intro _ _) | refine zX ?_ | (refine zC ?_; intro _ _ _ _) | (refine zS ?_; intro _ _) | (apply Ws <;> intro hg))
    refine WR.call (by first | exact gN | exact gS rfl) rfl rfl (cloneG_fs hH5 ((hrow k hk').mono hUp) ((hRdU k (by omega)).mono hUp) (by rw [hV.rowLen hk']; omega)) ?_
    rintro w1 H6 ⟨Mc, n6, hOc, hn6, hH6⟩
    clear hH5
    refine WR.append1F [] Mc (Ms' ++ (Mw ++ (Mi ++ U))) rfl rfl rfl rfl hOc hH6 (new := [.int .i64 0]) (by rfl) rfl rfl (Nat.le_refl _) (by omega) (by rw [List.length_map, hV.rowLen hk', List.length_singleton]; omega) fun w2 M3 n7 H7 hO3 hH7 hn7 => ?_
    replace hH7 : hasH (M3 ++ (Ms' ++ (Mw ++ (Mi ++ U)))) n7 H7 := hH7
    clear hH6
    have hw1 := (hO3.sl M).one_
    refine WR.append1RF (M3 ++ Ms') Mw (Mi ++ U) rfl rfl rfl rfl hOw7 (by rw [List.append_assoc]; exact hH7) (new := [w2]) (fill1 hw1) (by simp [hw1]) rfl (Nat.le_refl _) (by omega) (by simp; omega) fun v7' Mw' n8 H8 hO7' hH8 hn8 => ?_
    clear hH7
    repeat' (first | refine zP ?_ | refine zA ?_ | (refine zM ?_; intro _ _) | refine zX ?_ | (refine zC ?_; intro _ _ _ _) | (refine zS ?_; intro _ _) | (apply Ws <;> intro hg))
    rw [show (k : Int) + 1 = ((k + 1 : Nat) : Int) by omega]
    refine Ends.loop ⟨k + 1, v6', us ++ [ws.getD ((k + t) % N) undef], Ms', v7', xs ++ [w2], Mw', M3 ++ Mi, n8⟩ (by simp only; omega) (by repeat' (first | exact .nil | refine .cons rfl ?_)) rfl ⟨hk', .inr hO6', by simp [hul], fun i hi => ?_, .inr hO7', by simp [hxl], fun i hi => ?_, hH8.perm ?_⟩
    · simp only at hi ⊢
      by_cases e : i < k
      · rw [getD_app_l (by omega)]; exact hus i e
      · have : i = us.length := by omega
        subst this
        rw [getD_snoc, hul]
    · simp only at hi ⊢
      by_cases e : i < k
      · rw [getD_app_l (by omega)]
        refine (hxs i e).mono fun q hq => ?_
        rw [List.append_assoc]; exact List.mem_append_right _ hq
      · have : i = xs.length := by omega
        subst this
        rw [getD_snoc, hxl]
        have := hO3.sl (Mi ++ U)
        rw [List.append_assoc]
        simpa [nodes] using this
    · simp only
      rw [List.append_assoc, List.append_assoc]
      exact (List.perm_append_comm_assoc M3 Ms' (Mw' ++ (Mi ++ U))).trans (List.Perm.append_left Ms' (List.perm_append_comm_assoc M3 Mw' (Mi ++ U)))
  · have hkN : k = N := by omega
    rw [hkN] at hul hus hxl hxs
    replace hO6 : OwnR 23 1 v6 us Ms := by
      rcases hO6 with ⟨h, _⟩ | h
      · omega
      · exact h
    replace hO7 : OwnR 23 1 v7 xs Mw := by
      rcases hO7 with ⟨h, _⟩ | h
      · omega
      · exact h
    obtain ⟨b6, u6, o6, rfl, rfl⟩ := own_row hO6 hul
    have hone6 : us.all one = true := List.all_eq_true.2 fun x hx => by
      obtain ⟨i, hi, rfl⟩ := List.getElem_of_mem hx
      have h1 := hus i (by omega)
      rw [getD_eq hi] at h1
      rw [h1]
      exact (hrow _ (Nat.mod_lt _ (by omega))).one_
    clear hSv4 hUp
    repeat' (first | refine zP ?_ | refine zA ?_ | (refine zM ?_; intro _ _) | refine zX ?_ | (refine zC ?_; intro _ _ _ _) | (refine zS ?_; intro _ _) | (apply Ws <;> intro hg))
    refine WR.call (by first | exact gN | exact gS rfl) rfl rfl (ReverseV_fs hH4 hul (by omega) hone6) ?_
    rintro _ H5 hH5
    replace hH5 : hasH ((b6, .row 23 u6 o6 us.reverse) :: (Mw ++ (Mi ++ U))) n4 H5 := hH5
    clear hH4
    obtain ⟨r, hr⟩ : ∃ r, r = t % N := ⟨_, rfl⟩
    have hrN : r < N := by rw [hr]; exact Nat.mod_lt _ (by omega)
    obtain ⟨rf1, rf2, rf3⟩ := rot_facts hN4 hrN
    obtain ⟨vs6, hvs6⟩ : ∃ vs6, vs6 = (List.range N).map fun i => vs.getD (rotR N r i) [] := ⟨_, rfl⟩
    have hg6 : ∀ i, i < N → vs6.getD i [] = vs.getD (rotR N r i) [] := fun i hi => by
      have h1 : (List.range N).getD i 0 = i := by rw [getD_eq (by simpa using hi), List.getElem_range]
      rw [hvs6, map_getD (l := List.range N) (a := 0) (by simpa using hi), h1]
    obtain ⟨vs7, hvs7⟩ : ∃ vs7, vs7 = vs.map fun l => l ++ [0] := ⟨_, rfl⟩
    have hg7 : ∀ i, i < N → vs7.getD i [] = vs.getD i [] ++ [0] := fun i hi => by rw [hvs7, map_getD (a := []) (by omega)]
    have hl6 : vs6.length = N := by rw [hvs6]; simp
    have hl7 : vs7.length = N := by rw [hvs7]; simp [hvl]
    have hV6 : OKV vs6 N m := ⟨hl6, hN1, hN4, hV.m6, fun l hl => by
      rw [hvs6] at hl
      obtain ⟨i, hi, rfl⟩ := List.mem_map.1 hl
      exact hV.rowLen (rf1 i (List.mem_range.1 hi)), fun l hl => by
      rw [hvs6] at hl
      obtain ⟨i, hi, rfl⟩ := List.mem_map.1 hl
      exact hV.rowBd (rf1 i (List.mem_range.1 hi))⟩
    have hV7 : OKV vs7 N (m + 1) := ⟨hl7, hN1, hN4, by omega, fun l hl => by
      rw [hvs7] at hl
      obtain ⟨q, hq, rfl⟩ := List.mem_map.1 hl
      rw [List.length_append, hV.row q hq]; rfl, fun l hl x hx => by
      rw [hvs7] at hl
      obtain ⟨q, hq, rfl⟩ := List.mem_map.1 hl
      rcases List.mem_append.1 hx with h | h
      · exact hV.bd q hq x h
      · rw [List.mem_singleton.1 h]; exact Nat.zero_le _⟩
    have hrev : ∀ i, i < N → us.reverse.getD i undef = ws.getD (rotR N r i) undef := fun i hi => by
      rw [getD_eq (by simp; omega), List.getElem_reverse, ← getD_eq (a := undef) (by omega), hus _ (by omega), hul]
      unfold rotR
      rw [hr, Nat.add_mod_mod]
    have hVal : ValsN ((b6, Ch.row 23 u6 o6 us.reverse) :: (Mw ++ (Mi ++ U))) v vs := ⟨ws, (hSv.mono fun q hq => List.mem_append_right _ (List.mem_append_right _ hq)).cons, (hRU.mono fun q hq => List.mem_append_right _ (List.mem_append_right _ hq)).cons⟩
    have hVal6 : ValsN ((b6, Ch.row 23 u6 o6 us.reverse) :: (Mw ++ (Mi ++ U))) (.slice (some ⟨b6, o6, some u6⟩) N 2) vs6 := ⟨us.reverse, sl_row (by simp [hul]), by simp [hul, hl6], fun i hi => by
      rw [hl6] at hi
      rw [hrev i hi, hg6 i hi]
      exact (hrow _ (rf1 i hi)).mono fun q hq => .tail _ (List.mem_append_right _ (List.mem_append_right _ hq))⟩
    have hVal7 : ValsN ((b6, Ch.row 23 u6 o6 us.reverse) :: (Mw ++ (Mi ++ U))) v7 vs7 := ⟨xs, (hO7.own.sl (Mi ++ U)).cons, by rw [hxl, hl7], fun i hi => by
      rw [hl7] at hi
      rw [hg7 i hi]
      exact (hxs i hi).mono fun q hq => .tail _ (List.mem_append_right _ hq)⟩
    generalize (b6, Ch.row 23 u6 o6 us.reverse) :: (Mw ++ (Mi ++ U)) = T at hH5 hVal hVal6 hVal7
    generalize Value.slice (some ⟨b6, o6, some u6⟩) N 2 = v6 at hVal6 ⊢
    have hc6 : cntK (fairK vs6 N m) (N ^ m) = cntK (fairK vs N m) (N ^ m) := cnt_ren hN1 (rot_sum hN1 hN4 hrN) rf1 rf2 rf3 hg6
    have hc7 : cntK (fairK vs7 N (m + 1)) (N ^ (m + 1)) = cntK (fairK vs N m) (N ^ m) * N := cnt_more hN1 (fun i hi => hV.rowLen hi) hg7
    have hlen : ∀ (q : List (List Nat)) (k : Nat), OKV q N k → (ILL q).length ≤ 1000 ∧ ∀ l ∈ ILL q, l.length ≤ 1000 := fun q k h => ⟨by simp [h.len]; omega, fun l hl => by
      obtain ⟨x, hx, rfl⟩ := List.mem_map.1 hl
      have := h.m6
      rw [List.length_map, h.row x hx]; omega⟩
    clear hrev hxs hus hO6 hO7 hSv hRdU hRU hrow hone6
    repeat' (first | refine zP ?_ | refine zA ?_ | (refine zM ?_; intro _ _) | refine zX ?_ | (refine zC ?_; intro _ _ _ _) | (refine zS ?_; intro _ _) | (apply Ws <;> intro hg))
    refine WR.call (by first | exact gN | exact gS rfl) rfl rfl (Count_fs hH5 hVal.rows (hlen _ _ hV).1 (hlen _ _ hV).2) ?_
    rintro _ H6 ⟨n6, hn6, hH6, ⟨h, _⟩ | ⟨w1, N1, m1', he1, hV1, rfl⟩⟩
    · exact absurd (vals_intro hV) h
    obtain ⟨e1, e2, e3⟩ := okv_one hV hV1 he1.symm
    obtain rfl := e1.symm
    obtain rfl := e2.symm
    obtain rfl := e3.symm
    clear hH5
    repeat' (first | refine zP ?_ | refine zA ?_ | (refine zM ?_; intro _ _) | refine zX ?_ | (refine zC ?_; intro _ _ _ _) | (refine zS ?_; intro _ _) | (apply Ws <;> intro hg))
    refine WR.call (by first | exact gN | exact gS rfl) rfl rfl (Count_fs hH6 hVal6.rows (hlen _ _ hV6).1 (hlen _ _ hV6).2) ?_
    rintro _ H7 ⟨n7, hn7, hH7, ⟨h, _⟩ | ⟨w2, N2, m2', he2, hV2, rfl⟩⟩
    · exact absurd (vals_intro hV6) h
    obtain ⟨e1, e2, e3⟩ := okv_one hV6 hV2 he2.symm
    obtain rfl := e1.symm
    obtain rfl := e2.symm
    obtain rfl := e3.symm
    clear hH6
    repeat' (first | refine zP ?_ | refine zA ?_ | (refine zM ?_; intro _ _) | refine zX ?_ | (refine zC ?_; intro _ _ _ _) | (refine zS ?_; intro _ _) | (apply Ws <;> intro hg))
    refine WR.call (by first | exact gN | exact gS rfl) rfl rfl (Count_fs hH7 hVal7.rows (hlen _ _ hV7).1 (hlen _ _ hV7).2) ?_
    rintro _ H8 ⟨n8, hn8, hH8, ⟨h, _⟩ | ⟨w3, N3, m3', he3, hV3, rfl⟩⟩
    · exact absurd (vals_intro hV7) h
    obtain ⟨e1, e2, e3⟩ := okv_one hV7 hV3 he3.symm
    obtain rfl := e1.symm
    obtain rfl := e2.symm
    obtain rfl := e3.symm
    clear hH7
    have hcl := cntK_le (fairK vs N m) (N ^ m)
    rw [hc6, hc7]
    obtain ⟨cn, hcn⟩ : ∃ cn, cn = cntK (fairK vs N m) (N ^ m) := ⟨_, rfl⟩
    rw [← hcn] at hcl ⊢
    have hmul : (cn : Int) * (N : Int) = ((cn * N : Nat) : Int) := by simp
    have hcb : cn * N ≤ 4096 * 4 := Nat.mul_le_mul (by omega) hN4
    have hmj : 0 ≤ (cn : Int) * (N : Int) ∧ (cn : Int) * (N : Int) ≤ 20000 := by rw [hmul]; omega
    rw [← hmul]
    have hSx : ∃ ws2, Sl T 1 v ws2 ∧ ws2.length = N := by
      obtain ⟨ws2, g1, g2, _⟩ := hVal.ex
      exact ⟨ws2, g1, by rw [g2, hvl]⟩
    obtain ⟨ws2, hSx, hwx⟩ := hSx
    repeat' (first | refine zP ?_ | refine zA ?_ | (refine zM ?_; intro _ _) | refine zX ?_ | (refine zC ?_; intro _ _ _ _) | (refine zS ?_; intro _ _) | refine zO ?_ | (apply Ws <;> intro hg))
    rw [hwx]
    repeat' (first | refine zP ?_ | refine zA ?_ | (refine zM ?_; intro _ _) | refine zX ?_ | (refine zC ?_; intro _ _ _ _) | (refine zS ?_; intro _ _) | refine zO ?_ | (apply Ws <;> intro hg))
    clear hSx
    refine WR.call (by first | exact gN | exact gS rfl) rfl rfl (Free_fs hH8 hVal.rows (hlen _ _ hV).1 (hlen _ _ hV).2) ?_
    rintro _ H9 ⟨n9, hn9, ⟨h, _⟩ | ⟨w4, N4', m4', he4, hV4, hcase⟩⟩
    · exact absurd (vals_intro hV) h
    obtain ⟨e1, e2, e3⟩ := okv_one hV hV4 he4.symm
    obtain rfl := e1.symm
    obtain rfl := e2.symm
    obtain rfl := e3.symm
    clear hH8
    rcases hcase with ⟨hno, rfl, hH9⟩ | ⟨k0, b0, cp0, hk0, hf0, _, rfl, hS0, hH9⟩
    · have hz : cn = 0 := by
        rw [hcn]
        clear hcn hcl hmul hcb hmj
        generalize N ^ m = L at hno
        induction L with
        | zero => rfl
        | succ L ih =>
          show cntK (fairK vs N m) L + (if fairK vs N m L = true then 1 else 0) = 0
          rw [ih fun i hi => hno i (by omega), hno L (by omega)]; rfl
      subst hz
      repeat' (first | refine zP ?_ | refine zA ?_ | (refine zM ?_; intro _ _) | refine zX ?_ | (refine zC ?_; intro _ _ _ _) | (refine zS ?_; intro _ _) | refine zO ?_ | (apply Ws <;> intro hg))
      refine WR.call (by first | exact gN | exact gS rfl) rfl rfl (FS.works (C := C) (R := fun v H' => v = .bool true) rfl) ?_
      rintro _ _ rfl
      repeat' (first | refine zP ?_ | refine zA ?_ | (refine zM ?_; intro _ _) | refine zX ?_ | (refine zC ?_; intro _ _ _ _) | (refine zS ?_; intro _ _) | (apply Ws <;> intro hg))
      exact Ends.ret1 rfl rfl
    · have hz : cn ≠ 0 := fun h => by
        rw [hcn] at h
        rw [cnt_zero h k0 hk0] at hf0; cases hf0
      have hdl := divK_len N m k0
      have hok := divK_ok (m := m) (k := k0) hN1
      have hrd0 : Rd ((b0, .row 3 0 0 (nodes (divK N m k0))) :: T) (.slice (some ⟨b0, 0, some 0⟩) m cp0) := .inr ⟨b0, 0, 0, 0, m, cp0, _, _, rfl, .head _, .row _ _ _ _, Nat.le_refl _, Nat.zero_le _⟩
      have hS9 : Sl ((b0, .row 3 0 0 (nodes (divK N m k0))) :: T) 1 (.slice (some ⟨b0, 0, some 0⟩) m cp0) (nodes (divK N m k0)) := hS0.mono fun q hq => by rw [List.mem_singleton.1 hq]; exact .head _
      replace hVal := hVal.cons (p := (b0, .row 3 0 0 (nodes (divK N m k0))))
      replace hVal7 := hVal7.cons (p := (b0, .row 3 0 0 (nodes (divK N m k0))))
      clear hVal6 hS0
      generalize (b0, Ch.row 3 0 0 (nodes (divK N m k0))) :: T = G at hH9 hrd0 hS9 hVal hVal7
      generalize Value.slice (some ⟨b0, 0, some 0⟩) m cp0 = r0 at hrd0 hS9 ⊢
      repeat' (first | refine zP ?_ | refine zA ?_ | (refine zM ?_; intro _ _) | refine zX ?_ | (refine zC ?_; intro _ _ _ _) | (refine zS ?_; intro _ _) | refine zO ?_ | (apply Ws <;> intro hg))
      refine WR.call (by first | exact gN | exact gS rfl) rfl rfl (proper_fs hH9 hV hVal (Sl.asInts hS9) hok) ?_
      rintro _ HA ⟨rfl, nA, hnA, hHA⟩
      clear hH9
      have hSx : ∃ ws2, Sl G 1 v ws2 ∧ ws2.length = N := by
        obtain ⟨ws2, g1, g2, _⟩ := hVal.ex
        exact ⟨ws2, g1, by rw [g2, hvl]⟩
      obtain ⟨ws3, hSx, hwx3⟩ := hSx
      repeat' (first | refine zP ?_ | refine zA ?_ | (refine zM ?_; intro _ _) | refine zX ?_ | (refine zC ?_; intro _ _ _ _) | (refine zS ?_; intro _ _) | refine zO ?_ | (apply Ws <;> intro hg))
      rw [hwx3]
      clear hSx
      refine WC.loopX [(5, _), (7, _), (15, _), (111, _)] (fun s : Nat × Nat => [(112, .int .i64 (s.1 : Int))]) []
        (fun s H' => s.1 ≤ N ∧ hasH G s.2 H') (fun s => N - s.1) (0, nA) (by repeat' (first | exact .nil | refine .cons rfl ?_)) rfl ⟨Nat.zero_le _, hHA⟩ ?_
      clear hHA
      rintro ⟨i, nB⟩ HB ⟨hi, hHB⟩
      simp only at hi hHB
      dsimp only [List.cons_append, List.nil_append]
      repeat' (first | refine zP ?_ | refine zA ?_ | (refine zM ?_; intro _ _) | refine zX ?_ | (refine zC ?_; intro _ _ _ _) | (refine zS ?_; intro _ _) | (apply Ws <;> intro hg))
      refine WC.condP rfl (fun hlt => ?_) (fun hlt => ?_)
      · have hi' : i < N := by omega
        repeat' (first | refine zP ?_ | refine zA ?_ | (refine zM ?_; intro _ _) | refine zX ?_ | (refine zC ?_; intro _ _ _ _) | (refine zS ?_; intro _ _) | (apply Ws <;> intro hg))
        refine WR.call (by first | exact gN | exact gS rfl) rfl rfl (cloneG_fs hHB hS9 hrd0 (by rw [hdl]; omega)) ?_
        rintro d1v HC ⟨Mc, nC, hOc, hnC, hHC⟩
        clear hHB
        repeat' (first | refine zP ?_ | refine zA ?_ | (refine zM ?_; intro _ _) | refine zX ?_ | (refine zC ?_; intro _ _ _ _) | (refine zS ?_; intro _ _) | (apply Ws <;> intro hg))
        refine WR.append1F [] Mc G rfl rfl rfl rfl hOc hHC (new := [.int .i64 (i : Int)]) (by rfl) rfl rfl (Nat.le_refl _) (by omega) (by rw [List.length_map, hdl, List.length_singleton]; omega) fun d2v M3 nD HD hO3 hHD hnD => ?_
        replace hHD : hasH (M3 ++ G) nD HD := hHD
        clear hHC
        have hSd : Sl (M3 ++ G) 1 d2v (nodes (divK N m k0 ++ [i])) := by
          have := hO3.sl G
          simpa [nodes] using this
        have hokd : OKD (IL (divK N m k0 ++ [i])) N (m + 1) := okd_of (by simp [hdl]) fun x hx => by
          rcases List.mem_append.1 hx with h | h
          · exact divK_lt hN1 m k0 x h
          · rw [List.mem_singleton.1 h]; exact hi'
        have hE := div_intro hV7 hokd
        have hfc : fairC (ILL vs7) (IL (divK N m k0 ++ [i])) = 2 := by
          unfold fairC
          rw [if_pos hE, natV_ILL, show (ILL vs7).length = N by simp [hl7], fair_two, hl7]
          have h1 := env_more (x := i) hdl (fun j hj => hV.rowLen hj) hg7
          rw [show (pairsL (envP vs (shs N (IL (divK N m k0)))) N).isEmpty = true from hf0, List.isEmpty_iff, pairs_nil] at h1
          exact h1
        refine WR.call (by first | exact gN | exact gS rfl) rfl rfl (Fair_fs hHD (hVal7.mono fun q hq => List.mem_append_right _ hq).rows (hlen _ _ hV7).1 (hlen _ _ hV7).2 (Sl.asInts hSd) (by simp [hdl]; omega)) ?_
        rintro _ HE ⟨rfl, nE, hnE, hHE⟩
        rw [hE, hfc]
        clear hHD
        repeat' (first | refine zP ?_ | refine zA ?_ | (refine zM ?_; intro _ _) | refine zX ?_ | (refine zC ?_; intro _ _ _ _) | (refine zS ?_; intro _ _) | refine zO ?_ | (apply Ws <;> intro hg))
        rw [show (i : Int) + 1 = ((i + 1 : Nat) : Int) by omega]
        exact Ends.loop (i + 1, nE) (by simp only; omega) (by repeat' (first | exact .nil | refine .cons rfl ?_)) rfl ⟨hi', hHE.sub (List.sublist_append_right _ _)⟩
      · repeat' (first | refine zP ?_ | refine zA ?_ | (refine zM ?_; intro _ _) | refine zX ?_ | (refine zC ?_; intro _ _ _ _) | (refine zS ?_; intro _ _) | (apply Ws <;> intro hg))
        refine WR.call (by first | exact gN | exact gS rfl) rfl rfl (FS.works (C := C) (R := fun v H' => v = .bool true) rfl) ?_
        rintro _ _ rfl
        repeat' (first | refine zP ?_ | refine zA ?_ | (refine zM ?_; intro _ _) | refine zX ?_ | (refine zC ?_; intro _ _ _ _) | (refine zS ?_; intro _ _) | (apply Ws <;> intro hg))
        exact Ends.ret1 rfl rfl
end
end Go.Proofs.Ytaipmdhnhffckaa.Sh
