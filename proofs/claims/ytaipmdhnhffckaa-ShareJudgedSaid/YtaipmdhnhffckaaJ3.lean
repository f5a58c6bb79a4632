/- Texts of the law, joined. -/
import Derived.Test.YtaipmdhnhffckaaJ2
import Derived.Test.YtaipmdhnhffckaaSymR
import Derived.Test.YtaipmdhnhffckaaJ1
namespace Go.Abs
open Go
end Go.Abs
namespace Go.Proofs.Ytaipmdhnhffckaa.Sh
open Go Go.Abs Go.Mth
set_option linter.unusedVariables false
set_option linter.unusedSimpArgs false
theorem u8k : C.c.P.underlying 5 = some (.int .u8) := by kernel_rfl
theorem i64k : C.c.P.underlying 3 = some (.int .i64) := by kernel_rfl
abbrev bytesV (hs : List Int) : List Value := hs.map (Value.int .u8)
theorem bytes_one (hs : List Int) : (bytesV hs).all one = true := by simp [bytesV, List.all_map]; exact fun x _ => rfl
/-- A heap's cells: two bytes, then four times six. -/
def heapV (a b : Int) (hs : List Int) : List Value := .int .u8 a :: .int .u8 b :: bytesV hs
theorem heap_one (a b : Int) (hs : List Int) : (heapV a b hs).all one = true := by
  have := bytes_one hs
  simp only [heapV, List.all_cons, this, Bool.and_true]; rfl
theorem heap_drop (a b : Int) (hs : List Int) (k : Nat) : (heapV a b hs).drop (2 + k) = bytesV (hs.drop k) := by
  rw [Nat.add_comm, heapV]
  simp only [List.drop_succ_cons, bytesV, List.map_drop]
/-- The values that a heap's bytes stand for. -/
def madeRow (hs : List Int) (i n most : Nat) : List Nat := (List.range n).map fun k => (hs.getD (i * 6 + k) 0).toNat % (most + 1)
def madeVs (a b : Int) (hs : List Int) (fi th most : Nat) : List (List Nat) := (List.range (1 + a.toNat % fi)).map fun i => madeRow hs i (b.toNat % (th + 1)) most
theorem made_ok {a b : Int} {hs : List Int} {fi th most : Nat} (h1 : 1 ≤ fi ∧ fi ≤ 4) (h2 : th ≤ 6) (h3 : most ≤ 20) : OKV (madeVs a b hs fi th most) (1 + a.toNat % fi) (b.toNat % (th + 1)) := by
  have := Nat.mod_lt a.toNat (show 0 < fi by omega)
  have := Nat.mod_lt b.toNat (show 0 < th + 1 by omega)
  refine ⟨by simp [madeVs], by omega, by omega, by omega, fun l hl => ?_, fun l hl x hx => ?_⟩
  · obtain ⟨i, _, rfl⟩ := List.mem_map.1 hl
    simp [madeRow]
  · obtain ⟨i, _, rfl⟩ := List.mem_map.1 hl
    obtain ⟨k, _, rfl⟩ := List.mem_map.1 hx
    have := Nat.mod_lt (hs.getD (i * 6 + k) 0).toNat (show 0 < most + 1 by omega)
    omega
theorem row_succ (hs : List Int) (i k most : Nat) : madeRow hs i (k + 1) most = madeRow hs i k most ++ [(hs.getD (i * 6 + k) 0).toNat % (most + 1)] := by simp [madeRow, List.range_succ]
/-- Slices that are built one by one: what they hold, and where. -/
structure KW where
  k : Nat
  v : Value
  ws : List Value
  Mo : HL
  Mi : HL
  n : Nat
theorem rowsN_snoc {M Mi Mr : HL} {ws : List Value} {vs : List (List Nat)} {w : Value} {l : List Nat} (h : RowsN (Mi ++ M) ws vs) (hw : Sl (Mr ++ M) 1 w (nodes l)) : RowsN ((Mr ++ Mi) ++ M) (ws ++ [w]) (vs ++ [l]) := by
  refine ⟨by simp [h.1], fun i hi => ?_⟩
  rw [List.length_append, List.length_singleton] at hi
  by_cases e : i < vs.length
  · rw [getD_app_l (by rw [h.1]; exact e), getD_app_l e]
    refine (h.2 i e).mono fun q hq => ?_
    rw [List.append_assoc]; exact List.mem_append_right _ hq
  · have : i = vs.length := by omega
    subst this
    rw [getD_snoc, show (ws ++ [w]).getD vs.length undef = w by rw [← h.1]; exact getD_snoc]
    refine hw.mono fun q hq => ?_
    rcases List.mem_append.1 hq with h | h
    · exact List.mem_append_left _ (List.mem_append_left _ h)
    · exact List.mem_append_right _ h
theorem fill1 {v : Value} (h : one v = true) : Instr.fill (fun j => some (j * 1, 1)) [Value.slice none 0 0].toArray [(0, v)] = some [v].toArray := by
  cases v <;> first | rfl | cases h
attribute [local irreducible] gOK WS WC WR WD Ends FS YS OpV seqK blockK loopK midK retK rdK asgK rangeEnd sat Cell
section
variable {M : HL} {n0 : Nat} {H : Heap}
set_option maxHeartbeats 4000000 in
theorem made_fs (hH : hasH M n0 H) {a b : Int} {hs : List Int} (ha : 0 ≤ a ∧ a ≤ 255) (hb : 0 ≤ b ∧ b ≤ 255) (hl : hs.length = 24) (hu : ∀ x ∈ hs, 0 ≤ x ∧ x ≤ 255) {fi th most : Nat} (hfi : 1 ≤ fi ∧ fi ≤ 4) (hth : th ≤ 6) (hmo : most ≤ 20) :
    FS C 46 [.agg (heapV a b hs).toArray, .int .i64 (fi : Int), .int .i64 (th : Int), .int .i64 (most : Int)] H (fun e H' => ∃ ws Mo Mi n', OwnR 23 1 e ws Mo ∧ RowsN (Mi ++ M) ws (madeVs a b hs fi th most) ∧ n0 ≤ n' ∧ hasH (Mo ++ (Mi ++ M)) n' H') := by
  have hone := heap_one a b hs
  refine FS.intro (pf := pf46) rfl rfl rfl ?_
  repeat' (first | refine zP ?_ | refine zA ?_ | (refine zM ?_; intro _ _) | refine zX ?_ | (refine zC ?_; intro _ _ _ _) | (refine zS ?_; intro _ _))
  rename_i H1 hH1
  refine WR.op (by first | exact gN | exact gS rfl) rfl (OpV.conv u8k i64k rfl (c := b) (IntWalk.i64_in _ (by omega))) ?_
  obtain ⟨an, rfl⟩ : ∃ an : Nat, a = an := ⟨a.toNat, by omega⟩
  obtain ⟨bn, rfl⟩ : ∃ bn : Nat, b = bn := ⟨b.toNat, by omega⟩
  have hmod := Nat.mod_lt an (show 0 < fi by omega)
  have hmodb := Nat.mod_lt bn (show 0 < th + 1 by omega)
  repeat' (first | refine zP ?_ | refine zA ?_ | (refine zM ?_; intro _ _) | refine zX ?_ | (refine zC ?_; intro _ _ _ _) | (refine zS ?_; intro _ _) | (apply Ws <;> intro hg))
  rw [show (bn : Int) % ((th : Int) + 1) = ((bn % (th + 1) : Nat) : Int) by simp]
  obtain ⟨m, hm⟩ : ∃ m, bn % (th + 1) = m := ⟨_, rfl⟩
  rw [hm] at hmodb ⊢
  repeat' (first | refine zP ?_ | refine zA ?_ | (refine zM ?_; intro _ _) | refine zX ?_ | (refine zC ?_; intro _ _ _ _) | (refine zS ?_; intro _ _) | (apply Ws <;> intro hg))
  refine WR.op (by first | exact gN | exact gS rfl) rfl (OpV.conv u8k i64k rfl (c := (an : Int)) (IntWalk.i64_in _ (by omega))) ?_
  repeat' (first | refine zP ?_ | refine zA ?_ | (refine zM ?_; intro _ _) | refine zX ?_ | (refine zC ?_; intro _ _ _ _) | (refine zS ?_; intro _ _) | (apply Ws <;> intro hg))
  rw [show (an : Int) % (fi : Int) = ((an % fi : Nat) : Int) by simp]
  obtain ⟨r, hr⟩ : ∃ r, an % fi = r := ⟨_, rfl⟩
  rw [hr] at hmod ⊢
  repeat' (first | refine zP ?_ | refine zA ?_ | (refine zM ?_; intro _ _) | refine zX ?_ | (refine zC ?_; intro _ _ _ _) | (refine zS ?_; intro _ _) | (apply Ws <;> intro hg))
  rw [show (1 : Int) + (r : Int) = ((1 + r : Nat) : Int) by omega]
  obtain ⟨N, hN⟩ : ∃ N, 1 + r = N := ⟨_, rfl⟩
  have hvs : madeVs an bn hs fi th most = (List.range N).map fun i => madeRow hs i m most := by
    unfold madeVs
    rw [Int.toNat_natCast, Int.toNat_natCast, hr, hm, hN]
  rw [hvs]
  have hN4 : 1 ≤ N ∧ N ≤ 4 := by omega
  rw [hN]
  refine WR.op (by first | exact gN | exact gS rfl) rfl (OpV.slAh rfl rfl (by omega) (by decide)) ?_
  repeat' (first | refine zP ?_ | refine zA ?_ | (refine zM ?_; intro _ _) | refine zX ?_ | (refine zC ?_; intro _ _ _ _) | (refine zS ?_; intro _ _) | (apply Ws <;> intro hg))
  refine WC.loopX [(1, _), (2, _), (3, _), (4, _), (10, _), (29, _), (30, _)] (fun s : KW => [(9, s.v), (31, .int .i64 (s.k : Int))]) []
    (fun s H' => s.k ≤ N ∧ n0 + 1 ≤ s.n ∧ ((s.k = 0 ∧ s.v = .slice none 0 0 ∧ s.ws = [] ∧ s.Mo = []) ∨ OwnR 23 1 s.v s.ws s.Mo) ∧ RowsN (s.Mi ++ M) s.ws ((List.range s.k).map fun i => madeRow hs i m most) ∧ hasH ((n0, .row 49 0 0 (heapV an bn hs)) :: (s.Mo ++ (s.Mi ++ M))) s.n H') (fun s => N - s.k) ⟨0, .slice none 0 0, [], [], [], n0 + 1⟩ (by repeat' (first | exact .nil | refine .cons rfl ?_)) rfl
    ⟨Nat.zero_le _, Nat.le_refl _, .inl ⟨rfl, rfl, rfl, rfl⟩, ⟨rfl, fun i h => absurd h (Nat.not_lt_zero _)⟩, hH1⟩ ?_
  clear hH1
  rintro ⟨k, v, ws, Mo, Mi, n1⟩ H2 ⟨hk, hn1, hO, hR, hH2⟩
  simp only at hk hn1 hO hR hH2
  have hOwn : Own 23 1 v ws Mo := by
    rcases hO with ⟨_, rfl, rfl, rfl⟩ | h
    · exact .nil
    · exact h.own
  have hwl : ws.length = k := by rw [hR.1]; simp
  dsimp only [List.cons_append, List.nil_append]
  repeat' (first | refine zP ?_ | refine zA ?_ | (refine zM ?_; intro _ _) | refine zX ?_ | (refine zC ?_; intro _ _ _ _) | (refine zS ?_; intro _ _) | (apply Ws <;> intro hg))
  refine WC.condP rfl (fun hlt => ?_) (fun hlt => ?_)
  · have hk' : k < N := by omega
    repeat' (first | refine zP ?_ | refine zA ?_ | (refine zM ?_; intro _ _) | refine zX ?_ | (refine zC ?_; intro _ _ _ _) | (refine zS ?_; intro _ _) | (apply Ws <;> intro hg))
    have hdl : (heapV an bn hs).length = 26 := by simp [heapV, hl]
    obtain ⟨row, hrow⟩ : ∃ row : List Nat, row = ((hs.drop (k * 6)).take 6).map Int.toNat := ⟨_, rfl⟩
    have hrl : row.length = 6 := by rw [hrow, List.length_map, List.length_take, List.length_drop, hl]; omega
    have hrv : bytesV ((hs.drop (k * 6)).take 6) = numsK .u8 row := by
      rw [hrow, bytesV, numsK, List.map_map]
      refine List.map_congr_left fun x hx => ?_
      have := (hu x (List.mem_of_mem_drop (List.mem_of_mem_take hx))).1
      show Value.int .u8 x = Value.int .u8 (x.toNat : Nat)
      rw [Int.toNat_of_nonneg this]
    have hrg : ∀ j, j < 6 → row.getD j 0 = (hs.getD (k * 6 + j) 0).toNat := fun j hj => by
      rw [hrow, map_getD (a := 0) (by rw [List.length_take, List.length_drop, hl]; omega), getD_take hj, getD_eq (by rw [List.length_drop, hl]; omega), List.getElem_drop, getD_eq (by omega)]
    have hrb : ∀ j, j < 6 → row.getD j 0 ≤ 255 := fun j hj => by
      rw [hrg j hj]
      have := hu _ (getD_mem (a := 0) (show k * 6 + j < hs.length by omega))
      omega
    have hrone : (numsK .u8 row).all one = true := by rw [← hrv]; exact bytes_one _
    refine WR.op (by first | exact gN | exact gS rfl) rfl (OpV.loadN (l := numsK .u8 row) rfl hH2 (.head _) (.row _ _ _ _) (Nat.zero_le _) (by rw [hdl]; omega) (by rw [Nat.sub_zero, heap_drop, ← hrv, bytesV, bytesV, List.map_take])) ?_
    repeat' (first | refine zP ?_ | refine zA ?_ | (refine zM ?_; intro _ _) | refine zX ?_ | (refine zC ?_; intro _ _ _ _) | (refine zS ?_; intro _ _) | (apply Ws <;> intro hg))
    rename_i H3 hH3
    refine WR.storeAll (by first | exact gN | exact gS rfl) hH3 rfl rfl (ls := numsK .u8 row) (by simp [Value.cells]) (by simp [hrl]) .here hrone (by simp [hrl]) fun H4 hH4 => ?_
    clear hH2 hH3
    repeat' (first | refine zP ?_ | refine zA ?_ | (refine zM ?_; intro _ _) | refine zX ?_ | (refine zC ?_; intro _ _ _ _) | (refine zS ?_; intro _ _) | (apply Ws <;> intro hg))
    refine WR.op (by first | exact gN | exact gS rfl) rfl (OpV.slAh rfl rfl (show m ≤ 6 by omega) (by decide)) ?_
    repeat' (first | refine zP ?_ | refine zA ?_ | (refine zM ?_; intro _ _) | refine zX ?_ | (refine zC ?_; intro _ _ _ _) | (refine zS ?_; intro _ _) | (apply Ws <;> intro hg))
    refine WC.loopX [(1, _), (2, _), (3, _), (4, _), (9, _), (10, _), (29, _), (30, _), (31, _), (36, _), (37, _)] (fun s : KV => [(13, s.v), (38, .int .i64 (s.k : Int))]) []
      (fun s H' => s.k ≤ m ∧ n0 + 1 ≤ s.n ∧ Own 3 1 s.v (nodes (madeRow hs k s.k most)) s.Mx ∧ hasH ((n1, .row 46 0 0 (numsK .u8 row)) :: (s.Mx ++ ((n0, .row 49 0 0 (heapV an bn hs)) :: (Mo ++ (Mi ++ M))))) s.n H') (fun s => m - s.k) ⟨0, .slice none 0 0, [], n1 + 1⟩ (by repeat' (first | exact .nil | refine .cons rfl ?_)) rfl
      ⟨Nat.zero_le _, by simp only; omega, .nil, hH4⟩ ?_
    clear hH4
    rintro ⟨j, u, Mr, n2⟩ H5 ⟨hj, hn2, hOr, hH5⟩
    simp only at hj hn2 hOr hH5
    dsimp only [List.cons_append, List.nil_append]
    repeat' (first | refine zP ?_ | refine zA ?_ | (refine zM ?_; intro _ _) | refine zX ?_ | (refine zC ?_; intro _ _ _ _) | (refine zS ?_; intro _ _) | (apply Ws <;> intro hg))
    refine WC.condP rfl (fun hlt2 => ?_) (fun hlt2 => ?_)
    · have hj' : j < m := by omega
      have hxb := hrb j (by omega)
      repeat' (first | refine zP ?_ | refine zA ?_ | (refine zM ?_; intro _ _) | refine zX ?_ | (refine zC ?_; intro _ _ _ _) | (refine zS ?_; intro _ _) | (apply Ws <;> intro hg))
      refine WR.op (by first | exact gN | exact gS rfl) rfl (OpV.conv u8k i64k rfl (c := (row.getD j 0 : Int)) (IntWalk.i64_in _ (by omega))) ?_
      repeat' (first | refine zP ?_ | refine zA ?_ | (refine zM ?_; intro _ _) | refine zX ?_ | (refine zC ?_; intro _ _ _ _) | (refine zS ?_; intro _ _) | (apply Ws <;> intro hg))
      rw [show ((row.getD j 0 : Nat) : Int) % ((most : Int) + 1) = ((row.getD j 0 % (most + 1) : Nat) : Int) by simp]
      refine WR.append1F [(n1, .row 46 0 0 (numsK .u8 row))] Mr ((n0, .row 49 0 0 (heapV an bn hs)) :: (Mo ++ (Mi ++ M))) rfl rfl rfl rfl hOr hH5 (new := [.int .i64 (row.getD j 0 % (most + 1) : Nat)]) (by rfl) rfl rfl (Nat.le_refl _) (by omega) (by simp [madeRow]; omega) fun v3 M3 n3 H6 hO3 hH6 hn3 => ?_
      repeat' (first | refine zP ?_ | refine zA ?_ | (refine zM ?_; intro _ _) | refine zX ?_ | (refine zC ?_; intro _ _ _ _) | (refine zS ?_; intro _ _) | (apply Ws <;> intro hg))
      rw [show (j : Int) + 1 = ((j + 1 : Nat) : Int) by omega]
      refine Ends.loop ⟨j + 1, v3, M3, n3⟩ (by simp only; omega) (by repeat' (first | exact .nil | refine .cons rfl ?_)) rfl ⟨hj', by simp only; omega, ?_, hH6⟩
      simp only
      rw [row_succ, ← hrg j (by omega)]
      simpa [nodes] using hO3
    · have hjm : j = m := by omega
      subst hjm
      have hu1 := (hOr.sl M).one_
      repeat' (first | refine zP ?_ | refine zA ?_ | (refine zM ?_; intro _ _) | refine zX ?_ | (refine zC ?_; intro _ _ _ _) | (refine zS ?_; intro _ _) | (apply Ws <;> intro hg))
      refine WR.append1RF (Mr ++ [(n0, .row 49 0 0 (heapV an bn hs))]) Mo (Mi ++ M) rfl rfl rfl rfl hOwn (by have := hH5.tail; rw [List.append_assoc]; exact this) (new := [u]) (fill1 hu1) (by simp [hu1]) rfl (Nat.le_refl _) (by omega) (by simp; omega) fun v3 M3 n3 H6 hO3 hH6 hn3 => ?_
      repeat' (first | refine zP ?_ | refine zA ?_ | (refine zM ?_; intro _ _) | refine zX ?_ | (refine zC ?_; intro _ _ _ _) | (refine zS ?_; intro _ _) | (apply Ws <;> intro hg))
      rw [show (k : Int) + 1 = ((k + 1 : Nat) : Int) by omega]
      refine Ends.loop ⟨k + 1, v3, ws ++ [u], M3, Mr ++ Mi, n3⟩ (by simp only; omega) (by repeat' (first | exact .nil | refine .cons rfl ?_)) rfl ⟨hk', by simp only; omega, .inr hO3, ?_, hH6.perm ?_⟩
      · simp only
        rw [List.range_succ, List.map_append]
        exact rowsN_snoc hR (hOr.sl M)
      · simp only
        refine List.Perm.trans (l₂ := (n0, .row 49 0 0 (heapV an bn hs)) :: (Mr ++ (M3 ++ (Mi ++ M)))) ?_ (List.Perm.cons _ ?_)
        · rw [List.append_assoc]
          exact List.perm_middle
        · rw [← List.append_assoc, ← List.append_assoc, ← List.append_assoc, ← List.append_assoc]
          exact (List.perm_append_comm.append_right _).append_right _
  · have hkN : k = N := by omega
    subst hkN
    rcases hO with ⟨h, _⟩ | hO
    · omega
    repeat' (first | refine zP ?_ | refine zA ?_ | (refine zM ?_; intro _ _) | refine zX ?_ | (refine zC ?_; intro _ _ _ _) | (refine zS ?_; intro _ _) | (apply Ws <;> intro hg))
    exact Ends.ret1 rfl ⟨ws, Mo, Mi, n1, hO, hR, by omega, hH2.tail⟩
end
end Go.Proofs.Ytaipmdhnhffckaa.Sh

/- All finders have the same values: the law. -/
namespace Go.Proofs.Ytaipmdhnhffckaa.Sh
open Go Go.Abs Go.Mth
set_option linter.unusedVariables false
set_option linter.unusedSimpArgs false
/-- All pairs before a place. -/
def twoAll (q : Nat → Nat → Bool) (n i j : Nat) : Bool := (List.range i).all (fun a => (List.range n).all (q a)) && (List.range j).all (q i)
/-- The greatest thing of a share. -/
def topTo (f : List Nat) (s : Nat) : Nat → Nat
  | 0 => 0
  | k + 1 => max (topTo f s k) (if s.testBit k then f.getD k 0 else 0)
def topN (f : List Nat) (s : Nat) : Nat := topTo f s f.length
/-- Owners by numbers. -/
def byL (bs : List Nat) (n m : Nat) : List Nat := (List.range m).map fun k => bs.getD k 0 % n
theorem byL_len (bs : List Nat) (n m : Nat) : (byL bs n m).length = m := by simp [byL]
theorem byL_succ (bs : List Nat) (n k : Nat) : byL bs n (k + 1) = byL bs n k ++ [bs.getD k 0 % n] := by simp [byL, List.range_succ]
theorem byL_lt {bs : List Nat} {n m : Nat} (h : 1 ≤ n) : ∀ x ∈ byL bs n m, x < n := fun x hx => by
  obtain ⟨k, _, rfl⟩ := List.mem_map.1 hx
  exact Nat.mod_lt _ (by omega)
theorem okd_of {o : List Nat} {n m : Nat} (h : o.length = m) (hb : ∀ x ∈ o, x < n) : OKD (IL o) n m := ⟨by simp [h], fun x hx => by
  obtain ⟨y, hy, rfl⟩ := List.mem_map.1 hx
  have := hb y hy
  omega⟩
theorem bytes_nat {hs : List Int} (h : ∀ x ∈ hs, 0 ≤ x ∧ x ≤ 255) : bytesV hs = numsK .u8 (hs.map Int.toNat) := by
  rw [bytesV, numsK, List.map_map]
  refine List.map_congr_left fun x hx => ?_
  have := (h x hx).1
  show Value.int .u8 x = Value.int .u8 (x.toNat : Nat)
  rw [Int.toNat_of_nonneg this]
theorem nat_le {hs : List Int} (h : ∀ x ∈ hs, 0 ≤ x ∧ x ≤ 255) : ∀ x ∈ hs.map Int.toNat, x ≤ 255 := fun x hx => by
  obtain ⟨y, hy, rfl⟩ := List.mem_map.1 hx
  have := h y hy
  omega
theorem Sl.asInts {M : HL} {v : Value} {l : List Nat} (h : Sl M 1 v (nodes l)) : Sl M 1 v (ints (IL l)) := by rw [← nodesI]; exact h
structure KST where
  k : Nat
  S : List Nat
  T : List Nat
end Go.Proofs.Ytaipmdhnhffckaa.Sh

namespace Go.Proofs.Ytaipmdhnhffckaa.Sh
open Go Go.Abs Go.Mth
set_option linter.unusedVariables false
set_option linter.unusedSimpArgs false
theorem nodes_rep (n : Nat) : (List.replicate n [Value.int .i64 0]).flatten = nodes (List.replicate n 0) := by
  induction n with
  | zero => rfl
  | succ n ih => simp [List.replicate_succ, ih]
attribute [local irreducible] gOK WS WC WR WD Ends FS YS OpV seqK blockK loopK midK retK rdK asgK rangeEnd sat Cell
section
variable {M : HL} {n0 : Nat} {H : Heap}
end
end Go.Proofs.Ytaipmdhnhffckaa.Sh

namespace Go.Abs
set_option linter.unusedSectionVars false
variable [Globs]
open Go
section
variable {L : Env} {H : Heap}
theorem Ends.ret1CN {a b k : Nat} {p : Addr} {l : List Value} {v : Value} {R : Value → Heap → Prop} (hy : ev L (.tmp b) = some v) (hx : ev L (.tmp a) = some (.pointer (some p))) (hr : H.readN p k = some l) (h : R (.tuple #[v, .agg l.toArray]) H) : Ends (retK [.tmp b, .cell a (some k)] R) .ret L [] H := by
  refine Ends.ret_of trivial fun t ht => ⟨_, H, ?_, h⟩
  simp only [takeAll, leaveC, resultOf, ev_ok ht hx, hr, ev_ok ht hy, retVal]
end
end Go.Abs
namespace Go.Proofs.Ytaipmdhnhffckaa.Sh
open Go Go.Abs Go.Mth
set_option linter.unusedVariables false
set_option linter.unusedSimpArgs false
/-- What all shares are worth to all. -/
def worM (vs : List (List Nat)) (ss : List Nat) : List (List Nat) := vs.map fun f => ss.map (wor f)
theorem worM_get {vs : List (List Nat)} {ss : List Nat} {i : Nat} (h : i < vs.length) : (worM vs ss).getD i [] = ss.map (wor (vs.getD i [])) := map_getD h
theorem worM_at {vs : List (List Nat)} {ss : List Nat} {i j : Nat} (h : i < vs.length) (hj : j < ss.length) : ((worM vs ss).getD i []).getD j 0 = wor (vs.getD i []) (ss.getD j 0) := by rw [worM_get h, map_getD hj]
/-- Owners, some of them nobody. -/
structure OKP (o : List Int) (n m : Nat) : Prop where
  len : o.length = m
  bd : ∀ x ∈ o, -1 ≤ x ∧ x < (n : Int)
theorem OKD.part {o : List Int} {n m : Nat} (h : OKD o n m) : OKP o n m := ⟨h.len, fun x hx => by have := h.bd x hx; omega⟩
theorem shs_none {n : Nat} {o : List Int} {w : Int} (hw : w < 0) : shs n (o ++ [w]) = shs n o := by
  refine ext_getD (a := 0) (by simp [shs]) fun i hi => ?_
  rw [shs_len] at hi
  rw [shs_get _ hi, shs_get _ hi, shr_snoc, if_neg (by omega)]
structure KU where
  k : Nat
  us : List Value
  Mi : HL
  n : Nat
structure KL2 where
  k : Nat
  l : List Nat
/-- Pairs that have been seen. -/
def doneP (p : Nat → Nat → Bool) (n i j : Nat) : List (Nat × Nat) := (List.range i).flatMap (rowL p n) ++ ((List.range j).filter (p i)).map fun b => (i, b)
theorem done_zero (p : Nat → Nat → Bool) (n : Nat) : doneP p n 0 0 = [] := rfl
theorem done_yes {p : Nat → Nat → Bool} {n i j : Nat} (h : p i j = true) : doneP p n i (j + 1) = doneP p n i j ++ [(i, j)] := by
  simp only [doneP, List.range_succ, List.filter_append, List.filter_cons_of_pos h, List.filter_nil, List.map_append, List.map_singleton, List.append_assoc]
theorem done_no {p : Nat → Nat → Bool} {n i j : Nat} (h : p i j = false) : doneP p n i (j + 1) = doneP p n i j := by
  simp only [doneP, List.range_succ, List.filter_append, List.filter_cons_of_neg (show ¬ p i j = true by rw [h]; decide), List.filter_nil, List.append_nil]
theorem done_next (p : Nat → Nat → Bool) (n i : Nat) : doneP p n (i + 1) 0 = doneP p n i n := by
  simp only [doneP, List.range_succ, List.flatMap_append, List.range_zero, List.filter_nil, List.map_nil, List.append_nil, List.flatMap_singleton]; rfl
theorem done_all (p : Nat → Nat → Bool) (n : Nat) : doneP p n n 0 = pairsL p n := by simp [doneP, pairsL]
def fairOf (e mu : List (Nat × Nat)) : Nat := if mu = [] then (if e = [] then 2 else 1) else 0
/-- Things of a share, one by one. -/
def allTo (o : List Int) (f : List Nat) (j : Nat) (x y k : Nat) : Bool := (List.range k).all fun i => !decide (o.getD i (-1) = (j : Int)) || decide (x + f.getD i 0 < y)
theorem allTo_succ (o : List Int) (f : List Nat) (j x y k : Nat) : allTo o f j x y (k + 1) = (allTo o f j x y k && (!decide (o.getD k (-1) = (j : Int)) || decide (x + f.getD k 0 < y))) := by simp [allTo, List.range_succ]
theorem much_all {o : List Int} {f : List Nat} {a j m : Nat} (ho : o.length = m) (hm : m ≤ 6) : muchB f a (shr o j) = (envB f a (shr o j) && allTo o f j (wor f a) (wor f (shr o j)) m) := by
  unfold muchB
  congr 1
  rw [Bool.eq_iff_iff]
  simp only [allTo, List.all_eq_true, List.mem_range, Bool.or_eq_true, Bool.not_eq_true', decide_eq_true_eq, decide_eq_false_iff_not]
  constructor
  · intro h k hk
    by_cases e : o.getD k (-1) = (j : Int)
    · rcases h k (by omega) with h1 | h1
      · have := shr_bit.2 ⟨show k < o.length by omega, e⟩
        rw [this] at h1; cases h1
      · exact .inr h1
    · exact .inl e
  · intro h k hk
    cases hb : (shr o j).testBit k with
    | false => exact .inl rfl
    | true =>
      obtain ⟨h1, h2⟩ := shr_bit.1 hb
      rcases h k (by omega) with h3 | h3
      · exact absurd h2 h3
      · exact .inr h3
attribute [local irreducible] gOK WS WC WR WD Ends FS YS OpV seqK blockK loopK midK retK rdK asgK rangeEnd sat Cell
section
variable {M : HL} {n0 : Nat} {H : Heap} {v w : Value} {vs : List (List Nat)} {n m : Nat} {o : List Int}
set_option maxHeartbeats 2000000 in
theorem worths_fs (hH : hasH M n0 H) (hV : OKV vs n m) (hR : ValsN M v vs) (hO : Sl M 1 w (ints o)) (ho : OKP o n m) :
    FS C 61 [v, w] H (fun e H' => ∃ us Mi n', e = .slice (some ⟨n0, 0, some 0⟩) n (2 * n + 1) ∧ RowsN (Mi ++ M) us (worM vs (shs n o)) ∧ n0 < n' ∧ hasH ((n0, .row 23 0 0 us) :: (Mi ++ M)) n' H') := by
  obtain ⟨ws, hW, hwl, hws⟩ := hR.ex
  have hvl := hV.len
  have hn4 := hV.n4
  have hm6 := hV.m6
  have hol := ho.len
  refine FS.intro (pf := pf61) rfl rfl rfl ?_
  repeat' (first | refine zP ?_ | refine zA ?_ | (refine zM ?_; intro _ _) | refine zX ?_ | (refine zC ?_; intro _ _ _ _) | (refine zS ?_; intro _ _) | (apply Ws <;> intro hg))
  rw [hwl, hvl]
  refine WR.mkS (by first | exact gN | exact gS rfl) rfl hH rfl rfl (by omega) rfl fun H1 hH1 => ?_
  repeat' (first | refine zP ?_ | refine zA ?_ | (refine zM ?_; intro _ _) | refine zX ?_ | (refine zC ?_; intro _ _ _ _) | (refine zS ?_; intro _ _) | (apply Ws <;> intro hg))
  refine WC.loopX [(0, _), (1, _), (5, _), (6, _), (14, _), (15, _)] (fun s : KU => [(16, .int .i64 (s.k : Int))]) []
    (fun s H' => s.k ≤ n ∧ n0 < s.n ∧ s.us.length = n ∧ (∀ i, i < s.k → Sl (s.Mi ++ M) 1 (s.us.getD i undef) (nodes ((shs n o).map (wor (vs.getD i []))))) ∧ hasH ((n0, .row 23 0 0 s.us) :: (s.Mi ++ M)) s.n H') (fun s => n - s.k) ⟨0, List.replicate n (.slice none 0 0), [], n0 + 1⟩ (by repeat' (first | exact .nil | refine .cons rfl ?_)) rfl
    ⟨Nat.zero_le _, by simp only; omega, by simp, fun i h => absurd h (Nat.not_lt_zero _), hH1⟩ ?_
  clear hH1
  rintro ⟨k, us, Mi, n1⟩ H2 ⟨hk, hn1, hul, hus, hH2⟩
  simp only at hk hn1 hul hus hH2
  dsimp only [List.cons_append, List.nil_append]
  repeat' (first | refine zP ?_ | refine zA ?_ | (refine zM ?_; intro _ _) | refine zX ?_ | (refine zC ?_; intro _ _ _ _) | (refine zS ?_; intro _ _) | (apply Ws <;> intro hg))
  refine WC.condP rfl (fun hlt => ?_) (fun hlt => ?_)
  · have hk' : k < n := by omega
    repeat' (first | refine zP ?_ | refine zA ?_ | (refine zM ?_; intro _ _) | refine zX ?_ | (refine zC ?_; intro _ _ _ _) | (refine zS ?_; intro _ _) | (apply Ws <;> intro hg))
    refine WR.mkSL (by first | exact gN | exact gS rfl) rfl hH2 rfl rfl (by omega) rfl fun H3 hH3 => ?_
    rw [nodes_rep] at hH3
    clear hH2
    obtain ⟨us2, hus2⟩ : ∃ us2, us2 = us.set k (.slice (some ⟨n1, 0, some 0⟩) n (2 * n + 1)) := ⟨_, rfl⟩
    have hul2 : us2.length = n := by rw [hus2, List.length_set]; exact hul
    refine WR.op (by first | exact gN | exact gS rfl) rfl (OpV.idxS rfl rfl rfl hk' (addr01 _ _ _)) ?_
    refine WR.store1 (cs' := us2) (by first | exact gN | exact gS rfl) hH3 rfl rfl rfl (.there .here) (Nat.zero_le _) (by omega) hus2 fun H4 hH4 => ?_
    clear hH3
    have hg2 : us2[k]? = some (.slice (some ⟨n1, 0, some 0⟩) n (2 * n + 1)) := by rw [hus2, List.getElem?_set_self (by omega)]
    have hf := hws k (by omega)
    have c4 : ∀ {l : List Nat}, Sl ((n1, .row 3 0 0 (nodes l)) :: (n0, .row 23 0 0 us2) :: (Mi ++ M)) 1 w (ints o) ∧ Sl ((n1, .row 3 0 0 (nodes l)) :: (n0, .row 23 0 0 us2) :: (Mi ++ M)) 1 v ws ∧ Sl ((n1, .row 3 0 0 (nodes l)) :: (n0, .row 23 0 0 us2) :: (Mi ++ M)) 1 (ws.getD k undef) (nodes (vs.getD k [])) := fun {l} =>
      ⟨((hO.mono fun q hq => List.mem_append_right _ hq).cons).cons, ((hW.mono fun q hq => List.mem_append_right _ hq).cons).cons, ((hf.mono fun q hq => List.mem_append_right _ hq).cons).cons⟩
    have c5 := (c4 (l := List.replicate n 0)).1
    repeat' (first | refine zP ?_ | refine zA ?_ | (refine zM ?_; intro _ _) | refine zX ?_ | (refine zC ?_; intro _ _ _ _) | (refine zS ?_; intro _ _) | (apply Ws <;> intro hg))
    rw [hol]
    clear c5
    refine WC.loopX [(0, _), (1, _), (5, _), (6, _), (7, _), (14, _), (15, _), (16, _), (24, _), (25, _)] (fun s : KL2 => [(26, .int .i64 (s.k : Int))]) []
      (fun s H' => s.k ≤ m ∧ s.l = (shs n (o.take s.k)).map (wor (vs.getD k [])) ∧ hasH ((n1, .row 3 0 0 (nodes s.l)) :: (n0, .row 23 0 0 us2) :: (Mi ++ M)) (n1 + 1) H') (fun s => m - s.k) ⟨0, List.replicate n 0⟩ (by repeat' (first | exact .nil | refine .cons rfl ?_)) rfl
      ⟨Nat.zero_le _, by simp [shs_nil, wor_zero], hH4⟩ ?_
    clear hH4
    rintro ⟨t, l⟩ H5 ⟨ht, hl, hH5⟩
    simp only at ht hl hH5
    obtain ⟨d1', d2', d3'⟩ := c4 (l := l)
    have hll : l.length = n := by rw [hl, List.length_map, shs_len]
    dsimp only [List.cons_append, List.nil_append]
    repeat' (first | refine zP ?_ | refine zA ?_ | (refine zM ?_; intro _ _) | refine zX ?_ | (refine zC ?_; intro _ _ _ _) | (refine zS ?_; intro _ _) | (apply Ws <;> intro hg))
    refine WC.condP rfl (fun hlt2 => ?_) (fun hlt2 => ?_)
    · have ht' : t < m := by omega
      have hx := ho.bd _ (getD_mem (a := 0) (show t < o.length by omega))
      have hts := take_snoc (o := o) (k := t) (by omega)
      have hrl := hV.rowLen hk'
      repeat' (first | refine zP ?_ | refine zA ?_ | (refine zM ?_; intro _ _) | refine zX ?_ | (refine zC ?_; intro _ _ _ _) | (refine zS ?_; intro _ _) | (apply Ws <;> intro hg))
      refine WC.condP rfl (fun hge => ?_) (fun hge => ?_)
      · obtain ⟨x, hxe⟩ : ∃ x : Nat, o.getD t 0 = x := ⟨(o.getD t 0).toNat, by omega⟩
        rw [hxe] at hx hts
        have hxn : x < n := by omega
        have hstep := shs_snoc (n := n) (o := o.take t) hxn
        rw [← hts, List.length_take, Nat.min_eq_left (by omega)] at hstep
        have hbit : ((shs n (o.take t)).getD x 0).testBit t = false := by
          rw [shs_get _ hxn]
          exact Nat.testBit_lt_two_pow (Nat.lt_of_lt_of_le (shr_lt _ _) (Nat.pow_le_pow_right (by omega) (by rw [List.length_take]; omega)))
        have hwo := wor_or (f := vs.getD k []) hbit (by omega)
        have hlx : l.getD x 0 = wor (vs.getD k []) ((shs n (o.take t)).getD x 0) := by rw [hl]; exact map_getD (by rw [shs_len]; exact hxn)
        have hw1 := hV.wor (s := (shs n (o.take t)).getD x 0) hk'
        have hfk := getD_le (hV.rowBd hk') t
        repeat' (first | refine zP ?_ | refine zA ?_ | (refine zM ?_; intro _ _) | refine zX ?_ | (refine zC ?_; intro _ _ _ _) | (refine zS ?_; intro _ _) | (apply Ws <;> intro hg))
        refine WR.op (by first | exact gN | exact gS rfl) rfl (OpV.load1 (v := .slice (some ⟨n1, 0, some 0⟩) n (2 * n + 1)) rfl hH5 (.tail _ (.head _)) (.row _ _ _ _) (Nat.zero_le _) (by rw [Nat.sub_zero]; exact hg2)) ?_
        rw [hxe]
        repeat' (first | refine zP ?_ | refine zA ?_ | (refine zM ?_; intro _ _) | refine zX ?_ | (refine zC ?_; intro _ _ _ _) | (refine zS ?_; intro _ _) | (apply Ws <;> intro hg))
        rw [show ((l.getD x 0 : Nat) : Int) + (((vs.getD k []).getD t 0 : Nat) : Int) = ((l.getD x 0 + (vs.getD k []).getD t 0 : Nat) : Int) by omega]
        repeat' (first | refine zP ?_ | refine zA ?_ | (refine zM ?_; intro _ _) | refine zX ?_ | (refine zC ?_; intro _ _ _ _) | (refine zS ?_; intro _ _) | (apply Ws <;> intro hg))
        rename_i H6 hH6
        rw [show (t : Int) + 1 = ((t + 1 : Nat) : Int) by omega]
        refine Ends.loop ⟨t + 1, l.set x (l.getD x 0 + (vs.getD k []).getD t 0)⟩ (by simp only; omega) (by repeat' (first | exact .nil | refine .cons rfl ?_)) rfl ⟨ht', ?_, hH6⟩
        simp only
        rw [hstep, List.map_set, hwo, ← hl, hlx]
      · have hstep := shs_none (n := n) (o := o.take t) (w := o.getD t 0) (by omega)
        rw [← hts] at hstep
        repeat' (first | refine zP ?_ | refine zA ?_ | (refine zM ?_; intro _ _) | refine zX ?_ | (refine zC ?_; intro _ _ _ _) | (refine zS ?_; intro _ _) | (apply Ws <;> intro hg))
        rw [show (t : Int) + 1 = ((t + 1 : Nat) : Int) by omega]
        exact Ends.loop ⟨t + 1, l⟩ (by simp only; omega) (by repeat' (first | exact .nil | refine .cons rfl ?_)) rfl ⟨ht', by simp only; rw [hstep]; exact hl, hH5⟩
    · have htm : t = m := by omega
      rw [htm, List.take_of_length_le (by omega)] at hl
      repeat' (first | refine zP ?_ | refine zA ?_ | (refine zM ?_; intro _ _) | refine zX ?_ | (refine zC ?_; intro _ _ _ _) | (refine zS ?_; intro _ _) | (apply Ws <;> intro hg))
      rw [show (k : Int) + 1 = ((k + 1 : Nat) : Int) by omega]
      refine Ends.loop ⟨k + 1, us2, (n1, .row 3 0 0 (nodes l)) :: Mi, n1 + 1⟩ (by simp only; omega) (by repeat' (first | exact .nil | refine .cons rfl ?_)) rfl ⟨hk', by simp only; omega, hul2, fun i hi => ?_, hH5.swap⟩
      simp only at hi ⊢
      by_cases e : i = k
      · subst e
        rw [← hl, List.getD_eq_getElem?_getD, hg2]
        exact Sl.mkd (by simp [hll])
      · rw [hus2, getD_set' (by omega), if_neg e]
        exact (hus i (by omega)).cons
  · have hkn : k = n := by omega
    subst hkn
    repeat' (first | refine zP ?_ | refine zA ?_ | (refine zM ?_; intro _ _) | refine zX ?_ | (refine zC ?_; intro _ _ _ _) | (refine zS ?_; intro _ _) | (apply Ws <;> intro hg))
    refine Ends.ret1 rfl ⟨us, Mi, n1, rfl, ⟨by simp [worM, hul, hvl], fun i hi => ?_⟩, hn1, hH2⟩
    have hi' : i < vs.length := by simpa [worM] using hi
    rw [worM_get hi']
    exact hus i (by omega)
end
end Go.Proofs.Ytaipmdhnhffckaa.Sh

namespace Go.Proofs.Ytaipmdhnhffckaa.Sh
open Go Go.Abs Go.Mth
set_option linter.unusedVariables false
set_option linter.unusedSimpArgs false
structure KJ where
  k : Nat
  n : Nat
attribute [local irreducible] gOK WS WC WR WD Ends FS YS OpV seqK blockK loopK midK retK rdK asgK rangeEnd sat Cell
section
variable {M : HL} {n0 : Nat} {H : Heap} {v w : Value} {vs : List (List Nat)} {n m : Nat} {o : List Int}
set_option maxHeartbeats 2000000 in
theorem lenvies_fs (hH : hasH M n0 H) (hV : OKV vs n m) (hR : ValsN M v vs) (hO : Sl M 1 w (ints o)) (ho : OKP o n m) {i j : Nat} (hi : i < n) (hj : j < n) :
    FS C 58 [v, w, .int .i64 (i : Int), .int .i64 (j : Int)] H (fun e H' => e = .tuple #[.bool (envP vs (shs n o) i j), .bool (muchP vs (shs n o) i j)] ∧ ∃ n', n0 ≤ n' ∧ hasH M n' H') := by
  have hvl := hV.len
  have hn4 := hV.n4
  have hm6 := hV.m6
  have hol := ho.len
  refine FS.intro (pf := pf58) rfl rfl rfl ?_
  repeat' (first | refine zP ?_ | refine zA ?_ | (refine zM ?_; intro _ _) | refine zX ?_ | (refine zC ?_; intro _ _ _ _) | (refine zS ?_; intro _ _) | (apply Ws <;> intro hg))
  refine WR.call (by first | exact gN | exact gS rfl) rfl rfl (worths_fs hH hV hR hO ho) ?_
  rintro _ H1 ⟨us, Mi, n1, rfl, hRW, hn1, hH1⟩
  have hul : us.length = n := by rw [hRW.1]; simp [worM, hvl]
  have hwl : (worM vs (shs n o)).length = n := by simp [worM, hvl]
  have hSu : Sl ((n0, .row 23 0 0 us) :: (Mi ++ M)) 1 (.slice (some ⟨n0, 0, some 0⟩) n (2 * n + 1)) us := Sl.mkd hul
  have hri : Sl ((n0, .row 23 0 0 us) :: (Mi ++ M)) 1 (us.getD i undef) (nodes ((worM vs (shs n o)).getD i [])) := (hRW.2 i (by omega)).cons
  have hRl : ((worM vs (shs n o)).getD i []).length = n := by rw [worM_get (by omega), List.length_map, shs_len]
  have hRj : ((worM vs (shs n o)).getD i []).getD j 0 = wor (vs.getD i []) (shr o j) := by rw [worM_at (by omega) (by rw [shs_len]; exact hj), shs_get _ hj]
  have hRi : ((worM vs (shs n o)).getD i []).getD i 0 = wor (vs.getD i []) (shr o i) := by rw [worM_at (by omega) (by rw [shs_len]; exact hi), shs_get _ hi]
  have hsub : ∀ q ∈ M, q ∈ (n0, Ch.row 23 0 0 us) :: (Mi ++ M) := fun q hq => .tail _ (List.mem_append_right _ hq)
  have hback : ∀ {n' : Nat} {H' : Heap}, hasH ((n0, Ch.row 23 0 0 us) :: (Mi ++ M)) n' H' → hasH M n' H' := fun h => h.sub ((List.sublist_append_right _ _).trans (List.sublist_cons_self _ _))
  obtain ⟨ws, hW, hwsl, hws⟩ := hR.ex
  have hW1 := hW.mono hsub
  have hO1 := hO.mono hsub
  have hf := (hws i (by omega)).mono hsub
  have hb1 := hV.wor (s := shr o j) hi
  have hb2 := hV.wor (s := shr o i) hi
  have hrl := hV.rowLen hi
  generalize (worM vs (shs n o)).getD i [] = R at hri hRl hRj hRi
  generalize (n0, Ch.row 23 0 0 us) :: (Mi ++ M) = T at hH1 hSu hri hW1 hO1 hf hback
  generalize Value.slice (some ⟨n0, 0, some 0⟩) n (2 * n + 1) = u at hSu ⊢
  clear hRW hsub
  have hE : envP vs (shs n o) i j = envB (vs.getD i []) (shr o i) (shr o j) := by unfold envP; rw [shs_get _ hi, shs_get _ hj]
  have hMu : muchP vs (shs n o) i j = (envB (vs.getD i []) (shr o i) (shr o j) && allTo o (vs.getD i []) j (wor (vs.getD i []) (shr o i)) (wor (vs.getD i []) (shr o j)) m) := by unfold muchP; rw [shs_get _ hi, shs_get _ hj, much_all hol hm6]
  rw [hE, hMu]
  have hEb : decide (((R.getD i 0 : Nat) : Int) < ((R.getD j 0 : Nat) : Int)) = envB (vs.getD i []) (shr o i) (shr o j) := by
    unfold envB
    rw [decide_eq_decide, hRj, hRi]; omega
  generalize envB (vs.getD i []) (shr o i) (shr o j) = E at hEb ⊢
  clear hE hMu
  obtain ⟨g, hg⟩ : ∃ g : Nat → Bool, ∀ k, g k = (E && allTo o (vs.getD i []) j (wor (vs.getD i []) (shr o i)) (wor (vs.getD i []) (shr o j)) k) := ⟨_, fun _ => rfl⟩
  have hg0 : E = g 0 := by rw [hg 0]; simp [allTo]
  have hgs : ∀ k, g (k + 1) = (g k && (!decide (o.getD k (-1) = (j : Int)) || decide (wor (vs.getD i []) (shr o i) + (vs.getD i []).getD k 0 < wor (vs.getD i []) (shr o j)))) := fun k => by rw [hg, hg, allTo_succ, Bool.and_assoc]
  rw [← hg m]
  rw [hg0] at hEb ⊢
  clear hg hg0
  repeat' (first | refine zP ?_ | refine zA ?_ | (refine zM ?_; intro _ _) | refine zX ?_ | (refine zC ?_; intro _ _ _ _) | (refine zS ?_; intro _ _) | (apply Ws <;> intro hg))
  rw [hEb]
  repeat' (first | refine zP ?_ | refine zA ?_ | (refine zM ?_; intro _ _) | refine zX ?_ | (refine zC ?_; intro _ _ _ _) | (refine zS ?_; intro _ _) | (apply Ws <;> intro hg))
  rw [hol]
  refine WC.loopX [(0, _), (1, _), (2, _), (3, _), (8, _), (10, _), (32, _), (33, _)] (fun s : Nat => [(9, .bool (g s)), (34, .int .i64 (s : Int))]) []
    (fun s H' => s ≤ m ∧ H' = H1) (fun s => m - s) 0 (by repeat' (first | exact .nil | refine .cons rfl ?_)) rfl ⟨Nat.zero_le _, rfl⟩ ?_
  rintro k H2 ⟨hk, rfl⟩
  dsimp only [List.cons_append, List.nil_append]
  repeat' (first | refine zP ?_ | refine zA ?_ | (refine zM ?_; intro _ _) | refine zX ?_ | (refine zC ?_; intro _ _ _ _) | (refine zS ?_; intro _ _) | (apply Ws <;> intro hg))
  refine WC.condP rfl (fun hlt => ?_) (fun hlt => ?_)
  · have hk' : k < m := by omega
    have hg : o.getD k (-1) = o.getD k 0 := by rw [getD_eq (by omega), getD_eq (by omega)]
    have hs := hgs k
    rw [hg] at hs
    have hfk := getD_le (hV.rowBd hi) k
    by_cases hown : o.getD k 0 = (j : Int)
    · rw [decide_eq_true hown, Bool.not_true, Bool.false_or] at hs
      by_cases hle : wor (vs.getD i []) (shr o j) ≤ wor (vs.getD i []) (shr o i) + (vs.getD i []).getD k 0
      · rw [decide_eq_false (by omega), Bool.and_false] at hs
        repeat' (first | refine zP ?_ | refine zA ?_ | (refine zM ?_; intro _ _) | refine zX ?_ | (refine zC ?_; intro _ _ _ _) | (refine zS ?_; intro _ _) | refine zO ?_ | (apply Ws <;> intro hg))
        rw [show (k : Int) + 1 = ((k + 1 : Nat) : Int) by omega]
        exact Ends.loop (k + 1) (by omega) (by rw [hs]; exact (by repeat' (first | exact .nil | refine .cons rfl ?_))) rfl ⟨hk', rfl⟩
      · rw [decide_eq_true (by omega), Bool.and_true] at hs
        repeat' (first | refine zP ?_ | refine zA ?_ | (refine zM ?_; intro _ _) | refine zX ?_ | (refine zC ?_; intro _ _ _ _) | (refine zS ?_; intro _ _) | refine zO ?_ | (apply Ws <;> intro hg))
        rw [show (k : Int) + 1 = ((k + 1 : Nat) : Int) by omega]
        exact Ends.loop (k + 1) (by omega) (by rw [hs]; exact (by repeat' (first | exact .nil | refine .cons rfl ?_))) rfl ⟨hk', rfl⟩
    · rw [decide_eq_false hown, Bool.not_false, Bool.true_or, Bool.and_true] at hs
      repeat' (first | refine zP ?_ | refine zA ?_ | (refine zM ?_; intro _ _) | refine zX ?_ | (refine zC ?_; intro _ _ _ _) | (refine zS ?_; intro _ _) | refine zO ?_ | (apply Ws <;> intro hg))
      rw [show (k : Int) + 1 = ((k + 1 : Nat) : Int) by omega]
      exact Ends.loop (k + 1) (by omega) (by rw [hs]; exact (by repeat' (first | exact .nil | refine .cons rfl ?_))) rfl ⟨hk', rfl⟩
  · have hkm : k = m := by omega
    rw [hkm]
    repeat' (first | refine zP ?_ | refine zA ?_ | (refine zM ?_; intro _ _) | refine zX ?_ | (refine zC ?_; intro _ _ _ _) | (refine zS ?_; intro _ _) | (apply Ws <;> intro hg))
    exact Ends.ret2 rfl rfl ⟨rfl, n1, by omega, hback hH1⟩
set_option maxHeartbeats 2000000 in
theorem judged_fs (hH : hasH M n0 H) (hV : OKV vs n m) (hR : ValsN M v vs) (hO : Sl M 1 w (ints o)) (ho : OKP o n m) :
    FS C 55 [v, w] H (fun e H' => e = .tuple #[.int .i64 (fairN vs (shs n o) : Nat), .agg [.int .i64 (((pairsL (muchP vs (shs n o)) n).headD (0, 0)).1 : Nat), .int .i64 (((pairsL (muchP vs (shs n o)) n).headD (0, 0)).2 : Nat)].toArray] ∧ ∃ n', n0 ≤ n' ∧ hasH M n' H') := by
  have hvl := hV.len
  have hn4 := hV.n4
  obtain ⟨ws, hW, hwl, hws⟩ := hR.ex
  have hfair : fairN vs (shs n o) = fairOf (pairsL (envP vs (shs n o)) n) (pairsL (muchP vs (shs n o)) n) := by
    unfold fairN fairOf
    rw [hvl]
    by_cases e1 : pairsL (envP vs (shs n o)) n = []
    · have e2 : pairsL (muchP vs (shs n o)) n = [] := pairs_nil.2 fun a b ha hb => by
        cases h : muchP vs (shs n o) a b with
        | false => rfl
        | true => rw [pairs_nil.1 e1 a b ha hb |>.symm.trans (much_envP h)]
      rw [if_pos e1, if_pos e2, if_pos e1]
    · rw [if_neg e1]; split <;> simp [e1]
  rw [hfair, ← done_all, ← done_all]
  have hem : ∀ {a b : Nat}, muchP vs (shs n o) a b = true → envP vs (shs n o) a b = true := fun h => much_envP h
  obtain ⟨E, hE⟩ : ∃ E, E = envP vs (shs n o) := ⟨_, rfl⟩
  obtain ⟨U, hU⟩ : ∃ U, U = muchP vs (shs n o) := ⟨_, rfl⟩
  rw [← hE, ← hU] at hem ⊢
  refine FS.intro (pf := pf55) rfl rfl rfl ?_
  repeat' (first | refine zP ?_ | refine zA ?_ | (refine zM ?_; intro _ _) | refine zX ?_ | (refine zC ?_; intro _ _ _ _) | (refine zS ?_; intro _ _) | (apply Ws <;> intro hg))
  rename_i H1 hH1
  rw [hwl, hvl]
  have hW1 := hW.cons (p := (n0, .row 58 0 0 [.int .i64 0, .int .i64 0]))
  clear hH
  refine WC.loopX [(0, _), (1, _), (5, _), (10, _), (11, _)] (fun s : KJ => [(4, .int .i64 (fairOf (doneP E n s.k 0) (doneP U n s.k 0) : Nat)), (12, .int .i64 (s.k : Int))]) []
    (fun s H' => s.k ≤ n ∧ n0 < s.n ∧ hasH ((n0, .row 58 0 0 [.int .i64 (((doneP U n s.k 0).headD (0, 0)).1 : Nat), .int .i64 (((doneP U n s.k 0).headD (0, 0)).2 : Nat)]) :: M) s.n H') (fun s => n - s.k) ⟨0, n0 + 1⟩ (by repeat' (first | exact .nil | refine .cons rfl ?_)) rfl
    ⟨Nat.zero_le _, by simp only; omega, hH1⟩ ?_
  clear hH1 hW1
  rintro ⟨i, n1⟩ H2 ⟨hi, hn1, hH2⟩
  simp only at hi hn1 hH2
  have hW2 := hW.cons (p := (n0, .row 58 0 0 [.int .i64 (((doneP U n i 0).headD (0, 0)).1 : Nat), .int .i64 (((doneP U n i 0).headD (0, 0)).2 : Nat)]))
  dsimp only [List.cons_append, List.nil_append]
  repeat' (first | refine zP ?_ | refine zA ?_ | (refine zM ?_; intro _ _) | refine zX ?_ | (refine zC ?_; intro _ _ _ _) | (refine zS ?_; intro _ _) | (apply Ws <;> intro hg))
  refine WC.condP rfl (fun hlt => ?_) (fun hlt => ?_)
  · have hi' : i < n := by omega
    repeat' (first | refine zP ?_ | refine zA ?_ | (refine zM ?_; intro _ _) | refine zX ?_ | (refine zC ?_; intro _ _ _ _) | (refine zS ?_; intro _ _) | (apply Ws <;> intro hg))
    rw [hwl, hvl]
    clear hW2
    refine WC.loopX [(0, _), (1, _), (5, _), (6, _), (10, _), (11, _), (12, _), (15, _), (16, _)] (fun s : KJ => [(4, .int .i64 (fairOf (doneP E n i s.k) (doneP U n i s.k) : Nat)), (17, .int .i64 (s.k : Int))]) []
      (fun s H' => s.k ≤ n ∧ n0 < s.n ∧ hasH ((n0, .row 58 0 0 [.int .i64 (((doneP U n i s.k).headD (0, 0)).1 : Nat), .int .i64 (((doneP U n i s.k).headD (0, 0)).2 : Nat)]) :: M) s.n H') (fun s => n - s.k) ⟨0, n1⟩ (by repeat' (first | exact .nil | refine .cons rfl ?_)) rfl
      ⟨Nat.zero_le _, hn1, hH2⟩ ?_
    clear hH2
    rintro ⟨j, n2⟩ H3 ⟨hj, hn2, hH3⟩
    simp only at hj hn2 hH3
    dsimp only [List.cons_append, List.nil_append]
    repeat' (first | refine zP ?_ | refine zA ?_ | (refine zM ?_; intro _ _) | refine zX ?_ | (refine zC ?_; intro _ _ _ _) | (refine zS ?_; intro _ _) | (apply Ws <;> intro hg))
    refine WC.condP rfl (fun hlt2 => ?_) (fun hlt2 => ?_)
    · have hj' : j < n := by omega
      repeat' (first | refine zP ?_ | refine zA ?_ | (refine zM ?_; intro _ _) | refine zX ?_ | (refine zC ?_; intro _ _ _ _) | (refine zS ?_; intro _ _) | (apply Ws <;> intro hg))
      refine WR.call (by first | exact gN | exact gS rfl) rfl rfl (lenvies_fs hH3 hV hR.cons hO.cons ho hi' hj') ?_
      rintro _ H4 ⟨rfl, n4, hn4', hH4⟩
      rw [← hE, ← hU]
      clear hH3
      obtain ⟨de, hde⟩ : ∃ de, de = doneP E n i j := ⟨_, rfl⟩
      obtain ⟨du, hdu⟩ : ∃ du, du = doneP U n i j := ⟨_, rfl⟩
      rw [← hde, ← hdu]
      rw [← hdu] at hH4
      have hf2 : fairOf de du ≤ 2 := by unfold fairOf; split <;> (try split) <;> omega
      cases he : E i j with
      | false =>
        have hu : U i j = false := by
          cases h : U i j with
          | false => rfl
          | true => rw [hem h] at he; cases he
        have h1 := done_no (n := n) he
        have h2 := done_no (n := n) hu
        rw [← hde] at h1
        rw [← hdu] at h2
        rw [hu]
        repeat' (first | refine zP ?_ | refine zA ?_ | (refine zM ?_; intro _ _) | refine zX ?_ | (refine zC ?_; intro _ _ _ _) | (refine zS ?_; intro _ _) | refine zO ?_ | (apply Ws <;> intro hg))
        rw [show (j : Int) + 1 = ((j + 1 : Nat) : Int) by omega]
        exact Ends.loop ⟨j + 1, n4⟩ (by simp only; omega) (by simp only; rw [h1, h2]; exact (by repeat' (first | exact .nil | refine .cons rfl ?_))) rfl ⟨hj', by simp only; omega, by simp only; rw [h2]; exact hH4⟩
      | true =>
        have h1 := done_yes (n := n) he
        rw [← hde] at h1
        have hmin : min ((fairOf de du : Nat) : Int) 1 = ((fairOf (de ++ [(i, j)]) du : Nat) : Int) := by
          unfold fairOf
          by_cases e1 : de = [] <;> by_cases e2 : du = [] <;> simp [e1, e2] <;> (try decide)
        cases hu : U i j with
        | false =>
          have h2 := done_no (n := n) hu
          rw [← hdu] at h2
          repeat' (first | refine zP ?_ | refine zA ?_ | (refine zM ?_; intro _ _) | refine zX ?_ | (refine zC ?_; intro _ _ _ _) | (refine zS ?_; intro _ _) | (apply Ws <;> intro hg))
          rw [hmin, ← h1, ← h2]
          repeat' (first | refine zP ?_ | refine zA ?_ | (refine zM ?_; intro _ _) | refine zX ?_ | (refine zC ?_; intro _ _ _ _) | (refine zS ?_; intro _ _) | refine zO ?_ | (apply Ws <;> intro hg))
          rw [show (j : Int) + 1 = ((j + 1 : Nat) : Int) by omega]
          exact Ends.loop ⟨j + 1, n4⟩ (by simp only; omega) (by repeat' (first | exact .nil | refine .cons rfl ?_)) rfl ⟨hj', by simp only; omega, by simp only; rw [h2]; exact hH4⟩
        | true =>
          have h2 := done_yes (n := n) hu
          rw [← hdu] at h2
          repeat' (first | refine zP ?_ | refine zA ?_ | (refine zM ?_; intro _ _) | refine zX ?_ | (refine zC ?_; intro _ _ _ _) | (refine zS ?_; intro _ _) | (apply Ws <;> intro hg))
          rw [hmin]
          by_cases e2 : du = []
          · have hz : fairOf (doneP E n i (j + 1)) (doneP U n i (j + 1)) = 0 := by rw [h2]; unfold fairOf; rw [if_neg (by simp)]
            have hone : fairOf (de ++ [(i, j)]) du = 1 := by unfold fairOf; rw [if_pos e2, if_neg (by simp)]
            rw [hone]
            repeat' (first | refine zP ?_ | refine zA ?_ | (refine zM ?_; intro _ _) | refine zX ?_ | (refine zC ?_; intro _ _ _ _) | (refine zS ?_; intro _ _) | refine zO ?_ | (apply Ws <;> intro hg))
            refine WR.op (by first | exact gN | exact gS rfl) rfl (OpV.bldA (cs := [Value.int .i64 (i : Int), .int .i64 (j : Int)].toArray) rfl rfl) ?_
            repeat' (first | refine zP ?_ | refine zA ?_ | (refine zM ?_; intro _ _) | refine zX ?_ | (refine zC ?_; intro _ _ _ _) | (refine zS ?_; intro _ _) | (apply Ws <;> intro hg))
            refine WR.store2 (by first | exact gN | exact gS rfl) hH4 rfl rfl rfl rfl .here fun H5 hH5 => ?_
            repeat' (first | refine zP ?_ | refine zA ?_ | (refine zM ?_; intro _ _) | refine zX ?_ | (refine zC ?_; intro _ _ _ _) | (refine zS ?_; intro _ _) | (apply Ws <;> intro hg))
            rw [show (j : Int) + 1 = ((j + 1 : Nat) : Int) by omega]
            exact Ends.loop ⟨j + 1, n4⟩ (by simp only; omega) (by simp only; rw [hz]; exact (by repeat' (first | exact .nil | refine .cons rfl ?_))) rfl ⟨hj', by simp only; omega, by simp only; rw [h2, e2]; exact hH5⟩
          · have hz : fairOf (doneP E n i (j + 1)) (doneP U n i (j + 1)) = 0 := by rw [h2]; unfold fairOf; rw [if_neg (by simp)]
            have hone : fairOf (de ++ [(i, j)]) du = 0 := by unfold fairOf; rw [if_neg e2]
            have hd : (doneP U n i (j + 1)).headD (0, 0) = du.headD (0, 0) := by
              rw [h2]
              cases du with
              | nil => exact absurd rfl e2
              | cons _ _ => rfl
            rw [hone]
            repeat' (first | refine zP ?_ | refine zA ?_ | (refine zM ?_; intro _ _) | refine zX ?_ | (refine zC ?_; intro _ _ _ _) | (refine zS ?_; intro _ _) | refine zO ?_ | (apply Ws <;> intro hg))
            rw [show (j : Int) + 1 = ((j + 1 : Nat) : Int) by omega]
            exact Ends.loop ⟨j + 1, n4⟩ (by simp only; omega) (by simp only; rw [hz]; exact (by repeat' (first | exact .nil | refine .cons rfl ?_))) rfl ⟨hj', by simp only; omega, by simp only; rw [hd]; exact hH4⟩
    · have hjn : j = n := by omega
      rw [hjn, ← done_next, ← done_next]
      rw [hjn, ← done_next] at hH3
      repeat' (first | refine zP ?_ | refine zA ?_ | (refine zM ?_; intro _ _) | refine zX ?_ | (refine zC ?_; intro _ _ _ _) | (refine zS ?_; intro _ _) | (apply Ws <;> intro hg))
      rw [show (i : Int) + 1 = ((i + 1 : Nat) : Int) by omega]
      exact Ends.loop ⟨i + 1, n2⟩ (by simp only; omega) (by repeat' (first | exact .nil | refine .cons rfl ?_)) rfl ⟨hi', hn2, hH3⟩
  · have hin : i = n := by omega
    rw [hin] at hH2 ⊢
    repeat' (first | refine zP ?_ | refine zA ?_ | (refine zM ?_; intro _ _) | refine zX ?_ | (refine zC ?_; intro _ _ _ _) | (refine zS ?_; intro _ _) | (apply Ws <;> intro hg))
    refine WR.store2 (by first | exact gN | exact gS rfl) hH2 rfl rfl rfl rfl .here fun H3 hH3 => ?_
    repeat' (first | refine zP ?_ | refine zA ?_ | (refine zM ?_; intro _ _) | refine zX ?_ | (refine zC ?_; intro _ _ _ _) | (refine zS ?_; intro _ _) | (apply Ws <;> intro hg))
    exact Ends.ret1CN rfl rfl (read2 hH3 (.head _)) ⟨rfl, n1, by omega, hH3.tail⟩
end
end Go.Proofs.Ytaipmdhnhffckaa.Sh

/- Functions of the library. -/
namespace Go.Abs
set_option linter.unusedSectionVars false
variable [Globs]
open Go
section
variable {C : CW} {nt : Nat} {L : Env} {D : List Nat} {H : Heap} {K : St → Prop} {M M' : HL} {n : Nat} {gd : Option (Tmp × Bool)} {lo : List Nat} {l : List POp}
end
end Go.Abs
namespace Go.Proofs.Ytaipmdhnhffckaa.Sh
open Go Go.Abs Go.Mth
set_option linter.unusedVariables false
set_option linter.unusedSimpArgs false
theorem splice_get {cs l : List Int} {i : Nat} (h : i + l.length ≤ cs.length) (j : Nat) : (cs.take i ++ l ++ cs.drop (i + l.length)).getD j 0 = if j < i then cs.getD j 0 else if j < i + l.length then l.getD (j - i) 0 else cs.getD j 0 := by
  simp only [List.getD_eq_getElem?_getD]
  by_cases h1 : j < i
  · rw [if_pos h1, List.append_assoc, List.getElem?_append_left (by simp; omega), List.getElem?_take_of_lt h1]
  · rw [if_neg h1]
    by_cases h2 : j < i + l.length
    · rw [if_pos h2, List.getElem?_append_left (by simp; omega), List.getElem?_append_right (by simp; omega)]
      congr 2; simp; omega
    · rw [if_neg h2, List.getElem?_append_right (by simp; omega), List.getElem?_drop]
      congr 2; simp; omega
structure KR where
  k : Nat
  ys : List Int
attribute [local irreducible] gOK WS WC WR WD Ends FS YS OpV seqK blockK loopK midK retK rdK asgK rangeEnd sat Cell
section
variable {M : HL} {n0 : Nat} {H : Heap} {v w : Value}
end
end Go.Proofs.Ytaipmdhnhffckaa.Sh

/- By turns: what each one takes, and who envies whom. -/
namespace Go.Proofs.Ytaipmdhnhffckaa.Sh
open Go Go.Abs Go.Mth
set_option linter.unusedVariables false
set_option linter.unusedSimpArgs false
theorem nodup_inj {l : List Nat} (h : l.Nodup) {i j : Nat} (hi : i < l.length) (hj : j < l.length) (e : l[i] = l[j]) : i = j := by
  have h' := List.pairwise_iff_getElem.1 h
  rcases Nat.lt_trichotomy i j with h1 | h1 | h1
  · exact absurd e (h' i j hi hj h1)
  · exact h1
  · exact absurd e.symm (h' j i hj hi h1)
/-- What the turns of one place are worth together. -/
def turnS (x : Nat → Nat) (n c T : Nat) : Nat := sumN (fun t => if t % n = c then x t else 0) T
/-- The first of those that are there that is worth most: or -1. -/
def dearTo (f : List Nat) (av : Nat → Bool) : Nat → Int
  | 0 => -1
  | k + 1 => if av k = true ∧ (dearTo f av k < 0 ∨ f.getD (dearTo f av k).toNat 0 < f.getD k 0) then (k : Int) else dearTo f av k
/-- Things without an owner have -1. -/
def freeO (o : List Int) (k : Nat) : Bool := decide (o.getD k (-1) < 0)
def pickO (f : List Nat) (o : List Int) : Nat := (dearTo f (freeO o) o.length).toNat
def turnsO (vs : List (List Nat)) (ord : List Nat) (m : Nat) : Nat → List Int
  | 0 => List.replicate m (-1)
  | t + 1 => (turnsO vs ord m t).set (pickO (vs.getD (ord.getD (t % ord.length) 0) []) (turnsO vs ord m t)) ((ord.getD (t % ord.length) 0 : Nat) : Int)
/-- How many have no owner. -/
def cntF (o : List Int) (k : Nat) : Nat := sumN (fun i => if freeO o i = true then 1 else 0) k
section
variable {vs : List (List Nat)} {ord : List Nat} {n m : Nat}
/-- An order of n finders. -/
structure OKO (ord : List Nat) (n : Nat) : Prop where
  len : ord.length = n
  lt : ∀ x ∈ ord, x < n
  nd : ord.Nodup
/-- The thing of a turn. -/
def pickT (vs : List (List Nat)) (ord : List Nat) (m t : Nat) : Nat := pickO (vs.getD (ord.getD (t % ord.length) 0) []) (turnsO vs ord m t)
end
end Go.Proofs.Ytaipmdhnhffckaa.Sh

/- One after the other, rings turned. -/
namespace Go.Proofs.Ytaipmdhnhffckaa.Sh
open Go Go.Abs Go.Mth
set_option linter.unusedVariables false
set_option linter.unusedSimpArgs false

/-- The first number of which something holds, or -1. -/
def firstN (p : Nat → Bool) : Nat → Int
  | 0 => -1
  | k + 1 => if firstN p k < 0 ∧ p k = true then (k : Int) else firstN p k
theorem first_none {p : Nat → Bool} : ∀ {n : Nat}, firstN p n < 0 ↔ ∀ i, i < n → p i = false
  | 0 => ⟨fun _ i h => absurd h (Nat.not_lt_zero _), fun _ => by simp [firstN]⟩
  | n + 1 => by
    have ih := @first_none p n
    unfold firstN
    split
    · rename_i h
      constructor
      · intro h2; omega
      · intro h2; rw [h2 n (by omega)] at h; cases h.2
    · rename_i h
      constructor
      · intro h2 i hi
        by_cases e : i = n
        · subst e
          cases hp : p i with
          | false => rfl
          | true => exact absurd ⟨h2, hp⟩ h
        · exact ih.1 h2 i (by omega)
      · exact fun h2 => ih.2 fun i hi => h2 i (by omega)
theorem first_at {p : Nat → Bool} {k : Nat} : ∀ {n : Nat}, k < n → p k = true → (∀ i, i < k → p i = false) → firstN p n = (k : Int)
  | 0, h, _, _ => absurd h (Nat.not_lt_zero _)
  | n + 1, h, hp, hb => by
    unfold firstN
    by_cases e : k = n
    · subst e; rw [if_pos ⟨first_none.2 hb, hp⟩]
    · have := first_at (n := n) (by omega) hp hb
      rw [if_neg (by rw [this]; omega), this]
theorem first_some {p : Nat → Bool} {n : Nat} (h : 0 ≤ firstN p n) : (firstN p n).toNat < n ∧ p (firstN p n).toNat = true ∧ ∀ i, i < (firstN p n).toNat → p i = false := by
  have hex : ∃ i, i < n ∧ p i = true := Classical.byContradiction fun hn => by
    have := (first_none (p := p) (n := n)).2 fun i hi => by
      cases hp : p i with
      | false => rfl
      | true => exact absurd ⟨i, hi, hp⟩ hn
    omega
  obtain ⟨i, hi, hp⟩ := hex
  -- least
  have : ∃ k, k < n ∧ p k = true ∧ ∀ i, i < k → p i = false := by
    clear h
    induction i using Nat.strongRecOn with
    | ind i ih =>
      by_cases h2 : ∃ j, j < i ∧ p j = true
      · obtain ⟨j, hj, hpj⟩ := h2; exact ih j hj (by omega) hpj
      · exact ⟨i, hi, hp, fun j hj => by
          cases hpj : p j with
          | false => rfl
          | true => exact absurd ⟨j, hj, hpj⟩ h2⟩
  obtain ⟨k, hk, hpk, hb⟩ := this
  rw [first_at hk hpk hb]
  simp only [Int.toNat_natCast]
  exact ⟨hk, hpk, hb⟩
/-- The smallest one who envies another one, and the smallest one whom nobody envies. -/
def enP (vs : List (List Nat)) (ss : List Nat) (j : Nat) : Int := firstN (fun i => envP vs ss i j) vs.length
def calmP (vs : List (List Nat)) (ss : List Nat) : Int := firstN (fun j => decide (enP vs ss j < 0)) vs.length
/-- The way from finder 0. -/
def posW (vs : List (List Nat)) (ss : List Nat) : Nat → Nat
  | 0 => 0
  | t + 1 => (enP vs ss (posW vs ss t)).toNat
def wayL (vs : List (List Nat)) (ss : List Nat) (t : Nat) : List Nat := (List.range t).map (posW vs ss)
def RingR (vs : List (List Nat)) (ss : List Nat) (r : List Nat) : Prop := ∃ s t, s < t ∧ (wayL vs ss t).Nodup ∧ posW vs ss s = posW vs ss t ∧ r = (wayL vs ss t).drop s
theorem way_len (vs : List (List Nat)) (ss : List Nat) (t : Nat) : (wayL vs ss t).length = t := by simp [wayL]
theorem way_get {vs : List (List Nat)} {ss : List Nat} {i t : Nat} (h : i < t) : (wayL vs ss t).getD i 0 = posW vs ss i := by rw [getD_eq (by rw [way_len]; exact h)]; simp [wayL]
theorem way_mem {vs : List (List Nat)} {ss : List Nat} {x t : Nat} : x ∈ wayL vs ss t ↔ ∃ i, i < t ∧ posW vs ss i = x := by simp [wayL]
theorem way_inj {vs : List (List Nat)} {ss : List Nat} {t i j : Nat} (h : (wayL vs ss t).Nodup) (hi : i < t) (hj : j < t) (e : posW vs ss i = posW vs ss j) : i = j := by
  have h1 : i < (wayL vs ss t).length := by rw [way_len]; exact hi
  have h2 : j < (wayL vs ss t).length := by rw [way_len]; exact hj
  exact nodup_inj h h1 h2 (by simpa [wayL] using e)
theorem ring_one {vs : List (List Nat)} {ss : List Nat} {r r' : List Nat} (h : RingR vs ss r) (h' : RingR vs ss r') : r = r' := by
  obtain ⟨s, t, h1, h2, h3, rfl⟩ := h
  obtain ⟨s', t', g1, g2, g3, rfl⟩ := h'
  have : t = t' := by
    rcases Nat.lt_trichotomy t t' with h | h | h
    · have := way_inj g2 (by omega) h h3; omega
    · exact h
    · have := way_inj h2 (by omega) h g3; omega
  subst this
  have : s = s' := way_inj h2 h1 g1 (by rw [h3, g3])
  subst this; rfl
/-- A division with its ring turned. -/
def RotR (r ss ss' : List Nat) : Prop := ss'.length = ss.length ∧ (∀ q, q < r.length → ss'.getD (r.getD ((q + 1) % r.length) 0) 0 = ss.getD (r.getD q 0) 0) ∧ ∀ j, j ∉ r → ss'.getD j 0 = ss.getD j 0
theorem mod_pred {l q : Nat} (h : q < l) : ((q + (l - 1)) % l + 1) % l = q := by
  rw [Nat.add_mod, Nat.mod_mod, ← Nat.add_mod, show q + (l - 1) + 1 = q + l by omega, Nat.add_mod_right, Nat.mod_eq_of_lt h]
theorem mem_pred {r : List Nat} {j : Nat} (h : j ∈ r) : ∃ q, q < r.length ∧ r.getD ((q + 1) % r.length) 0 = j := by
  obtain ⟨i, hi, rfl⟩ := List.mem_iff_getElem.1 h
  refine ⟨(i + (r.length - 1)) % r.length, Nat.mod_lt _ (by omega), ?_⟩
  rw [mod_pred hi, getD_eq hi]
theorem rot_one {r ss a b : List Nat} (h : RotR r ss a) (h' : RotR r ss b) : a = b := ext_getD (a := 0) (by rw [h.1, h'.1]) fun j hj => by
  by_cases hm : j ∈ r
  · obtain ⟨q, hq, rfl⟩ := mem_pred hm
    rw [h.2.1 q hq, h'.2.1 q hq]
  · rw [h.2.2 j hm, h'.2.2 j hm]
/-- One turn, several, and all that are needed. -/
def TurnR (vs : List (List Nat)) (ss ss' : List Nat) : Prop := ∃ r, RingR vs ss r ∧ RotR r ss ss'
inductive TurnsR (vs : List (List Nat)) : List Nat → List Nat → Prop
  | refl (ss : List Nat) : TurnsR vs ss ss
  | snoc {a b c : List Nat} (h : TurnsR vs a b) (hc : calmP vs b < 0) (ht : TurnR vs b c) : TurnsR vs a c
theorem TurnR.one {vs : List (List Nat)} {ss a b : List Nat} (h : TurnR vs ss a) (h' : TurnR vs ss b) : a = b := by
  obtain ⟨r, h1, h2⟩ := h
  obtain ⟨r', g1, g2⟩ := h'
  obtain rfl := ring_one h1 g1
  exact rot_one h2 g2
theorem TurnsR.head {vs : List (List Nat)} {a c : List Nat} (h : TurnsR vs a c) : a = c ∨ (calmP vs a < 0 ∧ ∃ b, TurnR vs a b ∧ TurnsR vs b c) := by
  induction h with
  | refl => exact .inl rfl
  | snoc h hc ht ih =>
    rename_i x y
    right
    rcases ih with rfl | ⟨h1, b, h2, h3⟩
    · exact ⟨hc, _, ht, .refl _⟩
    · exact ⟨h1, b, h2, .snoc h3 hc ht⟩
theorem TurnsR.cons {vs : List (List Nat)} {a b c : List Nat} (hc : calmP vs a < 0) (ht : TurnR vs a b) (h : TurnsR vs b c) : TurnsR vs a c := by
  induction h with
  | refl => exact .snoc (.refl _) hc ht
  | snoc h1 h2 h3 ih => exact .snoc ih h2 h3
theorem TurnsR.one {vs : List (List Nat)} {a c d : List Nat} (h : TurnsR vs a c) (hc : 0 ≤ calmP vs c) (h' : TurnsR vs a d) (hd : 0 ≤ calmP vs d) : c = d := by
  induction h generalizing d with
  | refl =>
    rcases h'.head with h | ⟨h1, _⟩
    · exact h
    · omega
  | snoc h1 h2 h3 ih =>

    -- compare by the head
    have hx := TurnsR.snoc h1 h2 h3
    clear ih h1 h2 h3
    have key : ∀ {p q : List Nat}, TurnsR vs p q → 0 ≤ calmP vs q → ∀ {e}, TurnsR vs p e → ∃ b, TurnsR vs e b ∧ b = q := by
      intro p q hpq hq e hpe
      induction hpe with
      | refl => exact ⟨q, hpq, rfl⟩
      | snoc g1 g2 g3 ih =>
        obtain ⟨b, hb, rfl⟩ := ih
        rcases hb.head with h | ⟨k1, b2, k2, k3⟩
        · subst h; omega
        · obtain rfl := k2.one g3
          exact ⟨_, k3, rfl⟩
    obtain ⟨b, hb, rfl⟩ := key hx hc h'
    rcases hb.head with h | ⟨k1, _⟩
    · exact h.symm
    · omega
/-- What is given after so many things. -/
inductive GiveR (vs : List (List Nat)) (n : Nat) : Nat → List Nat → Prop
  | zero : GiveR vs n 0 (List.replicate n 0)
  | succ {k j : Nat} {a b : List Nat} (h : GiveR vs n k a) (ht : TurnsR vs a b) (hc : calmP vs b = (j : Int)) : GiveR vs n (k + 1) (b.set j (b.getD j 0 ||| 2 ^ k))
theorem GiveR.one {vs : List (List Nat)} {n k : Nat} {a : List Nat} (h : GiveR vs n k a) : ∀ {b : List Nat}, GiveR vs n k b → a = b := by
  induction h with
  | zero => intro b h'; cases h'; rfl
  | succ h ht hc ih =>
    intro b h'
    cases h' with
    | succ g1 g2 g3 =>
      obtain rfl := ih g1
      obtain rfl := ht.one (by omega) g2 (by omega)
      rw [hc] at g3
      obtain rfl := Int.ofNat.inj g3
      rfl

section
variable {vs : List (List Nat)} {n m : Nat} {ss : List Nat}
theorem all_envied (hc : calmP vs ss < 0) {j : Nat} (hj : j < vs.length) : 0 ≤ enP vs ss j := by
  have := first_none.1 hc j hj
  simp only [decide_eq_false_iff_not, Int.not_lt] at this
  exact this
theorem pos_lt (hn : 1 ≤ vs.length) (hc : calmP vs ss < 0) : ∀ t, posW vs ss t < vs.length
  | 0 => hn
  | t + 1 => by
    have h1 := all_envied hc (pos_lt hn hc t)
    exact (first_some h1).1
theorem pos_envies (hn : 1 ≤ vs.length) (hc : calmP vs ss < 0) (t : Nat) : envP vs ss (posW vs ss (t + 1)) (posW vs ss t) = true :=
  (first_some (all_envied hc (pos_lt hn hc t))).2.1
theorem ring_props (hn : 1 ≤ vs.length) (hc : calmP vs ss < 0) {r : List Nat} (h : RingR vs ss r) : 1 ≤ r.length ∧ r.Nodup ∧ (∀ x ∈ r, x < vs.length) ∧ ∀ q, q < r.length → envP vs ss (r.getD ((q + 1) % r.length) 0) (r.getD q 0) = true := by
  obtain ⟨s, t, h1, h2, h3, rfl⟩ := h
  have hl : ((wayL vs ss t).drop s).length = t - s := by rw [List.length_drop, way_len]
  have hg : ∀ q, q < t - s → ((wayL vs ss t).drop s).getD q 0 = posW vs ss (s + q) := fun q hq => by
    rw [getD_eq (by rw [hl]; exact hq), List.getElem_drop, ← getD_eq (a := 0), way_get (by omega)]
  refine ⟨by omega, h2.sublist (List.drop_sublist _ _), fun x hx => ?_, fun q hq => ?_⟩
  · obtain ⟨i, _, rfl⟩ := way_mem.1 (List.mem_of_mem_drop hx)
    exact pos_lt hn hc i
  · rw [hl] at hq ⊢
    rw [hg q hq]
    by_cases e : q + 1 = t - s
    · rw [e, Nat.mod_self, hg 0 (by omega), Nat.add_zero, h3, show t = (s + q) + 1 by omega]
      exact pos_envies hn hc _
    · rw [Nat.mod_eq_of_lt (by omega), hg (q + 1) (by omega), ← Nat.add_assoc]
      exact pos_envies hn hc _
theorem rot_own (hn : 1 ≤ vs.length) (hc : calmP vs ss < 0) {ss' : List Nat} (h : TurnR vs ss ss') :
    ss'.length = ss.length ∧ (∀ j, ∃ j', (j < vs.length → j' < vs.length) ∧ ss'.getD j 0 = ss.getD j' 0) ∧ (∀ i, i < vs.length → wor (vs.getD i []) (ss.getD i 0) ≤ wor (vs.getD i []) (ss'.getD i 0)) ∧ ∃ i, i < vs.length ∧ wor (vs.getD i []) (ss.getD i 0) < wor (vs.getD i []) (ss'.getD i 0) := by
  obtain ⟨r, h1, h2, h3, h4⟩ := h
  obtain ⟨p1, p2, p3, p4⟩ := ring_props hn hc h1
  have hgrow : ∀ q, q < r.length → r.getD ((q + 1) % r.length) 0 < vs.length ∧ wor (vs.getD (r.getD ((q + 1) % r.length) 0) []) (ss.getD (r.getD ((q + 1) % r.length) 0) 0) < wor (vs.getD (r.getD ((q + 1) % r.length) 0) []) (ss'.getD (r.getD ((q + 1) % r.length) 0) 0) := fun q hq => by
    have := p4 q hq
    rw [h3 q hq]
    exact ⟨p3 _ (getD_mem (Nat.mod_lt _ (by omega))), of_decide_eq_true this⟩
  refine ⟨h2, fun j => ?_, fun i hi => ?_, ?_⟩
  · by_cases hm : j ∈ r
    · obtain ⟨q, hq, rfl⟩ := mem_pred hm
      exact ⟨_, fun _ => p3 _ (getD_mem hq), h3 q hq⟩
    · exact ⟨j, fun h => h, h4 j hm⟩
  · by_cases hm : i ∈ r
    · obtain ⟨q, hq, rfl⟩ := mem_pred hm
      exact Nat.le_of_lt (hgrow q hq).2
    · rw [h4 i hm]; exact Nat.le_refl _
  · exact ⟨_, hgrow 0 p1⟩
/-- The sum of own shares, which grows. -/
def ownS (vs : List (List Nat)) (ss : List Nat) : Nat := sumN (fun i => wor (vs.getD i []) (ss.getD i 0)) vs.length
/-- Nobody envies anybody by more than one thing. -/
def EF (vs : List (List Nat)) (ss : List Nat) : Prop := ∀ a b, a < vs.length → b < vs.length → muchP vs ss a b = false
theorem much_mono {f : List Nat} {a a' b : Nat} (h : muchB f a b = false) (hle : wor f a ≤ wor f a') : muchB f a' b = false := by
  rw [not_much] at h ⊢
  rcases h with h | ⟨k, h1, h2, h3⟩
  · exact .inl (by omega)
  · exact .inr ⟨k, h1, h2, by omega⟩
theorem EF.turn (hn : 1 ≤ vs.length) (hc : calmP vs ss < 0) {ss' : List Nat} (h : TurnR vs ss ss') (he : EF vs ss) : EF vs ss' := fun a b ha hb => by
  obtain ⟨_, h2, h3, _⟩ := rot_own hn hc h
  obtain ⟨b', hb', e⟩ := h2 b
  unfold muchP
  rw [e]
  exact much_mono (he a b' ha (hb' hb)) (h3 a ha)
theorem EF.turns (hn : 1 ≤ vs.length) {a b : List Nat} (h : TurnsR vs a b) (he : EF vs a) : EF vs b := by
  induction h with
  | refl => exact he
  | snoc _ hc ht ih => exact EF.turn hn hc ht ih
theorem TurnsR.lt (hn : 1 ≤ vs.length) {a b : List Nat} {x : Nat} (h : TurnsR vs a b) (hb : ∀ i, i < vs.length → a.getD i 0 < x) : ∀ i, i < vs.length → b.getD i 0 < x := by
  induction h with
  | refl => exact hb
  | snoc _ hc ht ih =>
    intro i hi
    obtain ⟨_, h2, _⟩ := rot_own hn hc ht
    obtain ⟨j, hj, e⟩ := h2 i
    rw [e]; exact ih j (hj hi)
theorem TurnsR.len (hn : 1 ≤ vs.length) {a b : List Nat} (h : TurnsR vs a b) : b.length = a.length := by
  induction h with
  | refl => rfl
  | snoc _ hc ht ih => rw [(rot_own hn hc ht).1, ih]
theorem EF.give (hV : OKV vs n m) {k j : Nat} (hk : k < m) (hc : calmP vs ss = (j : Int)) (hl : ss.length = vs.length) (hb : ∀ i, i < vs.length → ss.getD i 0 < 2 ^ k) (he : EF vs ss) : EF vs (ss.set j (ss.getD j 0 ||| 2 ^ k)) := fun a b ha hb' => by
  have hj := (first_some (p := fun j => decide (enP vs ss j < 0)) (n := vs.length) (by show 0 ≤ calmP vs ss; omega))
  rw [show firstN (fun j => decide (enP vs ss j < 0)) vs.length = (j : Int) from hc, Int.toNat_natCast] at hj
  obtain ⟨hj1, hj2, _⟩ := hj
  have hjn : ∀ i, i < vs.length → envP vs ss i j = false := first_none.1 (of_decide_eq_true hj2)
  have hfree : ∀ i, i < vs.length → (ss.getD i 0).testBit k = false := fun i hi => Nat.testBit_lt_two_pow (hb i hi)
  have hrow : ∀ i, i < vs.length → k < (vs.getD i []).length := fun i hi => by rw [hV.rowLen (by rw [← hV.len]; exact hi)]; exact hk
  unfold muchP
  rw [getD_set' (by omega), getD_set' (by omega)]
  by_cases e1 : b = j
  · rw [if_pos e1]
    by_cases e2 : a = j
    · rw [if_pos e2]; exact much_self _ _
    · rw [if_neg e2]
      have h1 := hjn a ha
      have h2 := wor_or (f := vs.getD a []) (hfree j hj1) (hrow a ha)
      have h3 : ¬ wor (vs.getD a []) (ss.getD a 0) < wor (vs.getD a []) (ss.getD j 0) := of_decide_eq_false h1
      refine not_much.2 (.inr ⟨k, by have := hV.m6; omega, ?_, by omega⟩)
      rw [Nat.testBit_or, Nat.testBit_two_pow]; simp
  · rw [if_neg e1]
    by_cases e2 : a = j
    · rw [if_pos e2]
      subst e2
      refine much_mono (he a b ha hb') ?_
      rw [wor_or (hfree a hj1) (hrow a ha)]; omega
    · rw [if_neg e2]; exact he a b ha hb'
end
end Go.Proofs.Ytaipmdhnhffckaa.Sh

namespace Go.Proofs.Ytaipmdhnhffckaa.Sh
open Go Go.Abs Go.Mth
set_option linter.unusedVariables false
set_option linter.unusedSimpArgs false
/-- Who has each thing, told from shares. -/
def ownN (ss : List Nat) (k : Nat) : Int := firstN (fun j => (ss.getD j 0).testBit k) ss.length
/-- Things without an owner, as bits. -/
def leftN (o : List Int) (m : Nat) : Nat := maskN ((List.range m).filter (freeO o))
structure KX where
  k : Nat
  l : List Int
  n : Nat
attribute [local irreducible] gOK WS WC WR WD Ends FS YS OpV seqK blockK loopK midK retK rdK asgK rangeEnd sat Cell
section
variable {M : HL} {n0 : Nat} {H : Heap} {v w : Value} {vs : List (List Nat)} {n m : Nat}
end
end Go.Proofs.Ytaipmdhnhffckaa.Sh

namespace Go.Proofs.Ytaipmdhnhffckaa.Sh
open Go Go.Abs Go.Mth
set_option linter.unusedVariables false
set_option linter.unusedSimpArgs false
/-- The error of an order. -/
def ordAt (n : Nat) (o : List Int) (i : Nat) : Int := if ¬ (0 ≤ o.getD i 0 ∧ o.getD i 0 < (n : Int)) then 2 else if o.getD i 0 ∈ o.take i then 6 else 0
def turnE (fs : List (List Int)) (o : List Int) : Int := if valsE fs ≠ 0 then valsE fs else if o.length ≠ fs.length then 5 else firstE (ordAt fs.length o) o.length
attribute [local irreducible] gOK WS WC WR WD Ends FS YS OpV seqK blockK loopK midK retK rdK asgK rangeEnd sat Cell
section
variable {M : HL} {n0 : Nat} {H : Heap} {v w : Value} {vs : List (List Nat)} {n m : Nat}
end
end Go.Proofs.Ytaipmdhnhffckaa.Sh

namespace Go.Proofs.Ytaipmdhnhffckaa.Sh
open Go Go.Abs Go.Mth
set_option linter.unusedVariables false
set_option linter.unusedSimpArgs false
structure KC where
  k : Nat
  n : Nat
attribute [local irreducible] gOK WS WC WR WD Ends FS YS OpV seqK blockK loopK midK retK rdK asgK rangeEnd sat Cell
section
variable {M : HL} {n0 : Nat} {H : Heap} {v w : Value}
theorem sameI_fs (hH : hasH M n0 H) {xs ys : List Int} (hS : Sl M 1 v (ints xs)) (hU : Sl M 1 w (ints ys)) (hx : xs.length ≤ 1000) (hy : ys.length ≤ 1000) :
    FS C 37 [v, w] H (fun e H' => e = .bool (decide (xs = ys)) ∧ H' = H) := by
  refine FS.intro (pf := pf37) rfl rfl rfl ?_
  repeat' (first | refine zP ?_ | refine zA ?_ | (refine zM ?_; intro _ _) | refine zX ?_ | (refine zC ?_; intro _ _ _ _) | (refine zS ?_; intro _ _) | (apply Ws <;> intro hg))
  refine WC.condP rfl (fun hne => ?_) (fun hne => ?_)
  · repeat' (first | refine zP ?_ | refine zA ?_ | (refine zM ?_; intro _ _) | refine zX ?_ | (refine zC ?_; intro _ _ _ _) | (refine zS ?_; intro _ _) | (apply Ws <;> intro hg))
    exact Ends.ret1 rfl ⟨by rw [decide_eq_false (fun h => hne (by rw [h]))], rfl⟩
  have hle : xs.length = ys.length := by omega
  repeat' (first | refine zP ?_ | refine zA ?_ | (refine zM ?_; intro _ _) | refine zX ?_ | (refine zC ?_; intro _ _ _ _) | (refine zS ?_; intro _ _) | (apply Ws <;> intro hg))
  refine WC.loopX [(0, _), (1, _)] (fun k : Nat => [(5, .int .i64 (k : Int))]) [] (fun k H' => H' = H ∧ k ≤ xs.length ∧ ∀ j, j < k → xs.getD j 0 = ys.getD j 0) (fun k => xs.length - k) 0 (by repeat' (first | exact .nil | refine .cons rfl ?_)) rfl ⟨rfl, Nat.zero_le _, fun j h => absurd h (Nat.not_lt_zero _)⟩ ?_
  rintro k H' ⟨rfl, hk, hno⟩
  dsimp only [List.cons_append, List.nil_append]
  repeat' (first | refine zP ?_ | refine zA ?_ | (refine zM ?_; intro _ _) | refine zX ?_ | (refine zC ?_; intro _ _ _ _) | (refine zS ?_; intro _ _) | (apply Ws <;> intro hg))
  refine WC.condP rfl (fun hlt => ?_) (fun hlt => ?_)
  · have hk' : k < xs.length := by omega
    have hk2 : k < ys.length := by omega
    repeat' (first | refine zP ?_ | refine zA ?_ | (refine zM ?_; intro _ _) | refine zX ?_ | (refine zC ?_; intro _ _ _ _) | (refine zS ?_; intro _ _) | (apply Ws <;> intro hg))
    refine WC.condP rfl (fun hd => ?_) (fun hd => ?_)
    · repeat' (first | refine zP ?_ | refine zA ?_ | (refine zM ?_; intro _ _) | refine zX ?_ | (refine zC ?_; intro _ _ _ _) | (refine zS ?_; intro _ _) | (apply Ws <;> intro hg))
      exact Ends.ret1 rfl ⟨by rw [decide_eq_false (fun h => hd (by rw [h]))], rfl⟩
    · repeat' (first | refine zP ?_ | refine zA ?_ | (refine zM ?_; intro _ _) | refine zX ?_ | (refine zC ?_; intro _ _ _ _) | (refine zS ?_; intro _ _) | (apply Ws <;> intro hg))
      refine Ends.loop (k + 1) (by omega) (by repeat' (first | exact .nil | refine .cons rfl ?_)) rfl ⟨rfl, hk', fun j hj => ?_⟩
      rcases Nat.lt_or_ge j k with h | h
      · exact hno j h
      · have : j = k := by omega
        subst this; omega
  · repeat' (first | refine zP ?_ | refine zA ?_ | (refine zM ?_; intro _ _) | refine zX ?_ | (refine zC ?_; intro _ _ _ _) | (refine zS ?_; intro _ _) | (apply Ws <;> intro hg))
    exact Ends.ret1 rfl ⟨by rw [decide_eq_true (ext_getD (a := 0) hle fun i hi => hno i (by omega))], rfl⟩
end
end Go.Proofs.Ytaipmdhnhffckaa.Sh

/- Rings, turned: the program's side. -/
namespace Go.Proofs.Ytaipmdhnhffckaa.Sh
open Go Go.Abs Go.Mth
set_option linter.unusedVariables false
set_option linter.unusedSimpArgs false
structure KW2 where
  t : Nat
  v : Value
  Mx : HL
  n : Nat
structure KT where
  q : Nat
  l : List Nat
  b : Nat
attribute [local irreducible] gOK WS WC WR WD Ends FS YS OpV seqK blockK loopK midK retK rdK asgK rangeEnd sat Cell
section
variable {M : HL} {n0 : Nat} {H : Heap} {vv sv : Value} {vs : List (List Nat)} {ss : List Nat} {n m : Nat}
end
end Go.Proofs.Ytaipmdhnhffckaa.Sh

namespace Go.Proofs.Ytaipmdhnhffckaa.Sh
open Go Go.Abs Go.Mth
set_option linter.unusedVariables false
set_option linter.unusedSimpArgs false
/-- A ring is turned one by one. -/
def rotTo (r ss : List Nat) : Nat → List Nat
  | 0 => ss
  | q + 1 => (rotTo r ss q).set (r.getD q 0) (ss.getD (r.getD ((q + (r.length - 1)) % r.length) 0) 0)
structure KG where
  k : Nat
  ss : List Nat
  n : Nat
attribute [local irreducible] gOK WS WC WR WD Ends FS YS OpV seqK blockK loopK midK retK rdK asgK rangeEnd sat Cell
section
variable {M : HL} {n0 : Nat} {H : Heap} {vv sv : Value} {vs : List (List Nat)} {ss : List Nat} {n m : Nat}
end
end Go.Proofs.Ytaipmdhnhffckaa.Sh

namespace Go.Proofs.Ytaipmdhnhffckaa.Sh
open Go Go.Abs Go.Mth
set_option linter.unusedVariables false
set_option linter.unusedSimpArgs false
structure KS where
  ss : List Nat
  n : Nat
attribute [local irreducible] gOK WS WC WR WD Ends FS YS OpV seqK blockK loopK midK retK rdK asgK rangeEnd sat Cell
section
variable {M : HL} {n0 : Nat} {H : Heap} {v : Value} {vs : List (List Nat)} {n m : Nat}
end
end Go.Proofs.Ytaipmdhnhffckaa.Sh

/- One after the other: the law's side. -/
namespace Go.Proofs.Ytaipmdhnhffckaa.Sh
open Go Go.Abs Go.Mth
set_option linter.unusedVariables false
set_option linter.unusedSimpArgs false
def AskN (M : HL) (g : FuncId) (vb : List Value) (p : Nat → Bool) (N : Nat) : Prop :=
  ∀ {X : HL} {n : Nat} {H : Heap} {x : Nat}, (∀ q ∈ M, q ∈ X) → hasH X n H → x < N → FS C g ([] ++ [.int .i64 (x : Int)] ++ vb) H (fun e H' => e = .bool (p x) ∧ ∃ n', n ≤ n' ∧ hasH X n' H')
/-- A division in which the first things have owners. -/
def PartO (o : List Int) (n m k : Nat) : Prop := o.length = m ∧ ∀ i, i < m → (i < k → 0 ≤ o.getD i 0 ∧ o.getD i 0 < (n : Int)) ∧ (k ≤ i → o.getD i 0 = -1)
theorem PartO.part {o : List Int} {n m k : Nat} (h : PartO o n m k) (hn : 1 ≤ n) : OKP o n m := ⟨h.1, fun x hx => by
  obtain ⟨i, hi, rfl⟩ := List.mem_iff_getElem.1 hx
  obtain ⟨h1, h2⟩ := h.2 i (by rw [← h.1]; exact hi)
  rw [getD_eq hi] at h1 h2
  rcases Nat.lt_or_ge i k with h3 | h3
  · have := h1 h3; omega
  · have := h2 h3; omega⟩
theorem PartO.full {o : List Int} {n m : Nat} (h : PartO o n m m) : OKD o n m := ⟨h.1, fun x hx => by
  obtain ⟨i, hi, rfl⟩ := List.mem_iff_getElem.1 hx
  obtain ⟨h1, _⟩ := h.2 i (by rw [← h.1]; exact hi)
  rw [getD_eq hi] at h1
  exact h1 (by rw [← h.1]; exact hi)⟩
theorem PartO.zero (n m : Nat) : PartO (List.replicate m (-1)) n m 0 := ⟨by simp, fun i hi => ⟨fun h => absurd h (Nat.not_lt_zero _), fun _ => by rw [getD_eq (by simpa using hi), List.getElem_replicate]⟩⟩
theorem PartO.next {o : List Int} {n m k j : Nat} (h : PartO o n m k) (hk : k < m) (hj : j < n) : PartO (o.set k (j : Int)) n m (k + 1) := ⟨by rw [List.length_set]; exact h.1, fun i hi => by
  rw [getD_set' (by rw [h.1]; exact hk)]
  obtain ⟨h1, h2⟩ := h.2 i hi
  by_cases e : i = k
  · rw [if_pos e]; exact ⟨fun _ => by omega, fun h => by omega⟩
  · rw [if_neg e]; exact ⟨fun h => h1 (by omega), fun h => h2 (by omega)⟩⟩
theorem PartO.free {o : List Int} {n m k : Nat} (h : PartO o n m k) (hk : k < m) : freeO o k = true := by
  unfold freeO
  rw [getD_eq (by rw [h.1]; exact hk), ← getD_eq (a := 0) (by rw [h.1]; exact hk), (h.2 k hk).2 (Nat.le_refl _)]; rfl
/-- Who gets what somebody has, when a ring is turned. -/
def RX (r : List Nat) (x y : Int) : Prop := (∃ q, q < r.length ∧ x = ((r.getD q 0 : Nat) : Int) ∧ y = ((r.getD ((q + 1) % r.length) 0 : Nat) : Int)) ∨ (x ∉ IL r ∧ y = x)
theorem RX.out {r : List Nat} {x y : Int} (h : RX r x y) {j : Nat} (hj : j ∉ r) : y = (j : Int) ↔ x = (j : Int) := by
  rcases h with ⟨q', h1, rfl, rfl⟩ | ⟨h1, rfl⟩
  · constructor
    · intro e
      exact absurd (by rw [← Int.ofNat.inj e]; exact getD_mem (Nat.mod_lt _ (by omega))) hj
    · intro e
      exact absurd (by rw [← Int.ofNat.inj e]; exact getD_mem h1) hj
  · exact Iff.rfl
theorem PartO.turned {r : List Nat} {o c : List Int} {n m k : Nat} (hb : ∀ x ∈ r, x < n) (hp : PartO o n m k) (hc : c.length = m) (h : ∀ i, i < m → RX r (o.getD i 0) (c.getD i 0)) : PartO c n m k := ⟨hc, fun i hi => by
  obtain ⟨h1, h2⟩ := hp.2 i hi
  rcases h i hi with ⟨q, g1, g2, g3⟩ | ⟨g1, g2⟩
  · have := hb _ (getD_mem (a := 0) (Nat.mod_lt (q + 1) (show 0 < r.length by omega)))
    refine ⟨fun _ => by omega, fun hk => ?_⟩
    have := h2 hk; omega
  · rw [g2]; exact ⟨h1, h2⟩⟩
structure KOO where
  k : Nat
  o : List Int
  n : Nat
structure KIN where
  o : List Int
  n : Nat
attribute [local irreducible] gOK WS WC WR WD Ends FS YS OpV seqK blockK loopK midK retK rdK asgK rangeEnd sat Cell
section
variable {M : HL} {n0 : Nat} {H : Heap} {v w : Value} {vs : List (List Nat)} {n m : Nat} {o : List Int}
end
end Go.Proofs.Ytaipmdhnhffckaa.Sh

/- All divisions, by their number. -/
namespace Go.Proofs.Ytaipmdhnhffckaa.Sh
open Go Go.Abs Go.Mth
set_option linter.unusedVariables false
set_option linter.unusedSimpArgs false
/-- The division of a number: the thing that comes last changes first. -/
def divK (n : Nat) : Nat → Nat → List Nat
  | 0, _ => []
  | m + 1, k => divK n m (k / n) ++ [k % n]
theorem div_up {n K : Nat} (h : K % n + 1 < n) : (K + 1) / n = K / n ∧ (K + 1) % n = K % n + 1 := by
  have h1 := Nat.div_add_mod K n
  have h2 : K + 1 = n * (K / n) + (K % n + 1) := by omega
  constructor
  · rw [h2, Nat.mul_add_div (by omega), Nat.div_eq_of_lt h]; omega
  · rw [h2, Nat.mul_add_mod, Nat.mod_eq_of_lt h]
theorem div_carry {n K : Nat} (hn : 1 ≤ n) (h : ¬ K % n + 1 < n) : (K + 1) / n = K / n + 1 ∧ (K + 1) % n = 0 ∧ K + 1 = (K / n + 1) * n := by
  have h1 := Nat.div_add_mod K n
  have h3 := Nat.mod_lt K (show 0 < n by omega)
  have h2 : K + 1 = n * (K / n + 1) := by rw [Nat.mul_add, Nat.mul_one]; omega
  refine ⟨?_, ?_, by rw [Nat.mul_comm]; exact h2⟩
  · rw [h2, Nat.mul_div_cancel_left _ (by omega)]
  · rw [h2, Nat.mul_mod_right]
/-- What stands while the next one is made: so many things, the last ones, have been set back. -/
structure Carry (n m k t K : Nat) : Prop where
  tm : t ≤ m
  nxt : divK n m (k + 1) = divK n (m - t) (K + 1) ++ List.replicate t 0
  num : k + 1 = (K + 1) * n ^ t
theorem Carry.step {n m k t K : Nat} (hn : 1 ≤ n) (h : Carry n m k t K) (ht : t < m) (hc : ¬ K % n + 1 < n) : Carry n m k (t + 1) (K / n) := by
  obtain ⟨d, hd⟩ : ∃ d, m - t = d + 1 := ⟨m - t - 1, by omega⟩
  obtain ⟨c1, c2, c3⟩ := div_carry hn hc
  refine ⟨by omega, ?_, ?_⟩
  · rw [h.nxt, hd, show m - (t + 1) = d by omega, divK, c1, c2, List.append_assoc]
    congr 1
  · rw [h.num, c3, Nat.pow_succ, Nat.mul_assoc, Nat.mul_comm n]
theorem Carry.done {n m k t K : Nat} (h : Carry n m k t K) (ht : t < m) (hc : K % n + 1 < n) : divK n m (k + 1) = divK n (m - t - 1) (K / n) ++ (K % n + 1) :: List.replicate t 0 := by
  obtain ⟨d, hd⟩ : ∃ d, m - t = d + 1 := ⟨m - t - 1, by omega⟩
  obtain ⟨c1, c2⟩ := div_up hc
  rw [h.nxt, hd, show d + 1 - 1 = d by omega, divK, c1, c2, List.append_assoc]
  rfl
theorem Carry.more {n m k t K : Nat} (h : Carry n m k t K) (ht : t < m) (hc : K % n + 1 < n) (hk : k < n ^ m) : k + 1 < n ^ m := by
  refine Nat.lt_of_le_of_ne hk fun e => ?_
  rw [h.num, show n ^ m = n ^ (m - t) * n ^ t by rw [← Nat.pow_add]; congr 1; omega] at e
  have hp : 0 < n ^ t := Nat.pow_pos (by omega)
  have e2 := Nat.eq_of_mul_eq_mul_right hp e
  obtain ⟨d, hd⟩ : ∃ d, m - t = d + 1 := ⟨m - t - 1, by omega⟩
  obtain ⟨_, c2⟩ := div_up hc
  rw [e2, hd, Nat.pow_succ, Nat.mul_mod_left] at c2
  omega
/-- What stands in the row then. -/
def carryL (n m t K : Nat) : List Nat := divK n (m - t) K ++ List.replicate t 0
end Go.Proofs.Ytaipmdhnhffckaa.Sh

namespace Go.Abs
set_option linter.unusedSectionVars false
variable [Globs]
open Go
section
variable {C : CW} {L : Env} {M M' : HL} {n : Nat} {H : Heap}
end
end Go.Abs
namespace Go.Proofs.Ytaipmdhnhffckaa.Sh
open Go Go.Abs Go.Mth
set_option linter.unusedVariables false
set_option linter.unusedSimpArgs false
structure KB2 where
  t : Nat
  l : List Nat
  M : HL
  n : Nat
attribute [local irreducible] gOK WS WC WR WD Ends FS YS OpV seqK blockK loopK midK retK rdK asgK rangeEnd sat Cell
section
variable {M B : HL} {n0 : Nat} {H : Heap} {v : Value}
end
end Go.Proofs.Ytaipmdhnhffckaa.Sh

namespace Go.Proofs.Ytaipmdhnhffckaa.Sh
open Go Go.Abs Go.Mth
set_option linter.unusedVariables false
set_option linter.unusedSimpArgs false
attribute [local irreducible] gOK WS WC WR WD Ends FS YS OpV seqK blockK loopK midK retK rdK asgK rangeEnd sat Cell
section
variable {M B : HL} {n0 : Nat} {H : Heap} {v : Value}
end
end Go.Proofs.Ytaipmdhnhffckaa.Sh

/- Comparisons of numbers and of lists. -/
namespace Go.Mth
set_option linter.unusedVariables false
def cmpI (a b : Int) : Int := if a < b then -1 else if b < a then 1 else 0
def lexC : List Int → List Int → Int
  | [], [] => 0
  | [], _ :: _ => -1
  | _ :: _, [] => 1
  | a :: l, b :: m => if cmpI a b ≠ 0 then cmpI a b else lexC l m
/-- The shorter one first; of those that are as long, the smaller one. -/
def ordC (a b : List Int) : Int := if cmpI a.length b.length ≠ 0 then cmpI a.length b.length else lexC a b
end Go.Mth

namespace Go.Proofs.Ytaipmdhnhffckaa.Sh
open Go Go.Abs Go.Mth
set_option linter.unusedVariables false
set_option linter.unusedSimpArgs false
structure KE where
  k : Nat
  M : HL
  n : Nat
structure KP where
  k : Nat
  n : Nat
def ownL (vs : List (List Nat)) (ss : List Nat) (n : Nat) : List Nat := (List.range n).map fun i => wor (vs.getD i []) (ss.getD i 0)
/-- Better for somebody, worse for nobody. -/
def betB (a b : Nat → Nat) (n : Nat) : Bool := (List.range n).all (fun i => !decide (a i < b i)) && (List.range n).any fun i => decide (b i < a i)
def anyTo (a b : Nat → Nat) (k : Nat) : Bool := (List.range k).any fun i => decide (b i < a i)
attribute [local irreducible] gOK WS WC WR WD Ends FS YS OpV seqK blockK loopK midK retK rdK asgK rangeEnd sat Cell
section
variable {M B : HL} {n0 : Nat} {H : Heap} {v w vv sv : Value} {vs : List (List Nat)} {ss : List Nat} {n m : Nat}
end
end Go.Proofs.Ytaipmdhnhffckaa.Sh

namespace Go.Abs
set_option linter.unusedSectionVars false
variable [Globs]
open Go
section
variable {C : CW} {nt : Nat} {L : Env} {D : List Nat} {H : Heap} {K : St → Prop} {M M' : HL} {n i d : Nat} {gd : Option (Tmp × Bool)} {lo : List Nat} {l : List POp}
end
end Go.Abs
namespace Go.Proofs.Ytaipmdhnhffckaa.Sh
open Go Go.Abs Go.Mth
set_option linter.unusedVariables false
set_option linter.unusedSimpArgs false
/-- A division's number is of a fair one. -/
def fairK (vs : List (List Nat)) (n m k : Nat) : Bool := (pairsL (envP vs (shs n (IL (divK n m k)))) n).isEmpty
def cntK (p : Nat → Bool) (N : Nat) : Nat := sumN (fun k => if p k = true then 1 else 0) N
attribute [local irreducible] gOK WS WC WR WD Ends FS YS OpV seqK blockK loopK midK retK rdK asgK rangeEnd sat Cell
section
variable {M B : HL} {n0 : Nat} {H : Heap} {v w vv sv : Value} {vs : List (List Nat)} {ss : List Nat} {n m : Nat}
end
end Go.Proofs.Ytaipmdhnhffckaa.Sh

namespace Go.Abs
set_option linter.unusedSectionVars false
variable [Globs]
open Go
section
variable {C : CW} {nt : Nat} {L : Env} {D : List Nat} {H H' : Heap} {K : St → Prop} {M M' : HL} {n i : Nat} {gd : Option (Tmp × Bool)} {lo : List Nat} {l : List POp} {rs : List Rd}
theorem WD.op0 {op : AOp} {v : Value} (hg : gOK L gd) (hv : OpV C op L H v H') (hn : reads op = false) (hs : stands H' lo rs = true) (k : WD C nt l rs L D H' K) : WD C nt (⟨i, none, op, gd, lo⟩ :: l) rs L D H K := by
  intro t ht
  obtain ⟨m, s', h1, h2⟩ := k _ ht
  refine ⟨m, s', ?_, h2⟩
  have e1 : doOp C.c (runW C m) nt ⟨i, none, op, gd, lo⟩ ⟨t, D, H⟩ = some ⟨t, D, H'⟩ := by simp only [doOp, hg.wanted ht, cond_true, hv t ht, ans, afterOp, putT, stOf]
  have e2 : noteRd ⟨i, none, op, gd, lo⟩ ⟨t, D, H⟩ ⟨t, D, H'⟩ rs = rs := by
    unfold noteRd
    rw [hg.wanted ht, cond_true]
    cases op <;> first | rfl | cases hn
  simp only [stepOpsD, e1, hs, cond_true, e2]; exact h1
/-- One cell is stored to while a read is still looked at. -/
theorem WD.storeBox {x y : Operand} {v w : Value} {b e u : Nat} (hg : gOK L gd) (hH : hasH M n H) (hx : ev L x = some (.pointer (some ⟨b, 0, some u⟩))) (hy : ev L y = some v) (h1 : one v = true) (hu : Upd M b (.row e u 0 [w]) (.row e u 0 [v]) M')
    (k : ∀ H', hasH M' n H' → stands H' lo rs = true ∧ WD C nt l rs L D H' K) : WD C nt (⟨i, none, .store x y 1, gd, lo⟩ :: l) rs L D H K := by
  obtain ⟨H', g1, g2⟩ := hH.writeN (l := [v]) hu (by simp [h1]) (Nat.le_refl _) (by simp) (by simp [splice])
  obtain ⟨k1, k2⟩ := k H' g2
  have hc : v.cells.toList = [v] := by cases v <;> first | rfl | cases h1
  refine WD.op0 hg (v := undef) (H' := H') (fun t ht => ?_) rfl k1 k2
  have hb : Nat.beq [v].length 1 = true := rfl
  simp only [opA, ev_ok ht hx, ev_ok ht hy, hc, oStore, hb, cond_true, g1, asSkip]
end
end Go.Abs
namespace Go.Proofs.Ytaipmdhnhffckaa.Sh
open Go Go.Abs Go.Mth
set_option linter.unusedVariables false
set_option linter.unusedSimpArgs false
def gainK (vs : List (List Nat)) (n m k : Nat) : Nat × Nat := gainW (fun i => (ownL vs (shs n (IL (divK n m k))) n).getD i 0) n
/-- The first one with the greatest gain. -/
def bestK (g : Nat → Nat × Nat) : Nat → Nat
  | 0 => 0
  | k + 1 => if k = 0 then 0 else if gtG (g k) (g (bestK g k)) = true then k else bestK g k
attribute [local irreducible] gOK WS WC WR WD Ends FS YS OpV seqK blockK loopK midK retK rdK asgK rangeEnd sat Cell
section
variable {M B : HL} {n0 : Nat} {H : Heap} {v w vv sv : Value} {vs : List (List Nat)} {ss : List Nat} {n m : Nat}
end
end Go.Proofs.Ytaipmdhnhffckaa.Sh

namespace Go.Proofs.Ytaipmdhnhffckaa.Sh
open Go Go.Abs Go.Mth
set_option linter.unusedVariables false
set_option linter.unusedSimpArgs false
structure KTK where
  t : Nat
  K : Nat
attribute [local irreducible] gOK WS WC WR WD Ends FS YS OpV seqK blockK loopK midK retK rdK asgK rangeEnd sat Cell
section
variable {M B : HL} {n0 : Nat} {H : Heap} {v w vv sv : Value} {vs : List (List Nat)} {ss : List Nat} {n m : Nat}
end
end Go.Proofs.Ytaipmdhnhffckaa.Sh

namespace Go.Proofs.Ytaipmdhnhffckaa.Sh
open Go Go.Abs Go.Mth
set_option linter.unusedVariables false
set_option linter.unusedSimpArgs false
theorem neqB2 : ∀ a b : Bool, pureRun C.c.P (binOp .neq 4 (.bool a) (.bool b)) = some (.bool (a != b)) := by
  intro a b
  cases a <;> cases b <;> kernel_rfl
/-- Each finder's share is worth at least the n-th part to it. -/
def partK (vs : List (List Nat)) (ss : List Nat) (n : Nat) : Nat → Bool
  | 0 => true
  | i + 1 => partK vs ss n i && decide (sumN (fun j => wor (vs.getD i []) (ss.getD j 0)) n ≤ n * wor (vs.getD i []) (ss.getD i 0))
attribute [local irreducible] gOK WS WC WR WD Ends FS YS OpV seqK blockK loopK midK retK rdK asgK rangeEnd sat Cell
section
variable {M : HL} {n0 : Nat} {H : Heap} {v w : Value} {vs : List (List Nat)} {n m : Nat}
end
end Go.Proofs.Ytaipmdhnhffckaa.Sh

namespace Go.Proofs.Ytaipmdhnhffckaa.Sh
open Go Go.Abs Go.Mth
set_option linter.unusedVariables false
set_option linter.unusedSimpArgs false
theorem okv_one {vs us : List (List Nat)} {n m N k : Nat} (h : OKV vs n m) (hu : OKV us N k) (he : ILL us = ILL vs) : us = vs ∧ N = n ∧ k = m := by
  have h1 : us = vs := by rw [← natV_ILL us, he, natV_ILL]
  subst h1
  have h2 : N = n := by rw [← hu.len, h.len]
  subst h2
  refine ⟨rfl, rfl, ?_⟩
  rw [← hu.rowLen hu.pos, h.rowLen hu.pos]
attribute [local irreducible] gOK WS WC WR WD Ends FS YS OpV seqK blockK loopK midK retK rdK asgK rangeEnd sat Cell
section
variable {M : HL} {n0 : Nat} {H : Heap}
end
end Go.Proofs.Ytaipmdhnhffckaa.Sh

namespace Go.Proofs.Ytaipmdhnhffckaa.Sh
open Go Go.Abs Go.Mth
set_option linter.unusedVariables false
set_option linter.unusedSimpArgs false
def betK (vs : List (List Nat)) (n m : Nat) (o : List Int) (k : Nat) : Bool := betB (fun i => (ownL vs (shs n (IL (divK n m k))) n).getD i 0) (fun i => (ownL vs (shs n o) n).getD i 0) n
attribute [local irreducible] gOK WS WC WR WD Ends FS YS OpV seqK blockK loopK midK retK rdK asgK rangeEnd sat Cell
section
variable {M B : HL} {n0 : Nat} {H : Heap} {v w vv sv : Value} {vs : List (List Nat)} {ss : List Nat} {n m : Nat}
end
end Go.Proofs.Ytaipmdhnhffckaa.Sh

/- The division with the greatest product: nobody envies anybody by more than one thing, and none is better. -/
namespace Go.Proofs.Ytaipmdhnhffckaa.Sh
open Go Go.Abs Go.Mth
set_option linter.unusedVariables false
set_option linter.unusedSimpArgs false
end Go.Proofs.Ytaipmdhnhffckaa.Sh

/- Divisions under a numbering of the finders, and with a thing more. -/
namespace Go.Proofs.Ytaipmdhnhffckaa.Sh
open Go Go.Abs Go.Mth
set_option linter.unusedVariables false
set_option linter.unusedSimpArgs false
/-- A sum over all divisions. -/
def sumD (F : List Nat → Nat) (n m : Nat) : Nat := sumN (fun k => F (divK n m k)) (n ^ m)
/-- Turned by a, and the other way round. -/
def rotR (n r x : Nat) : Nat := (n - 1 - x + r) % n
end Go.Proofs.Ytaipmdhnhffckaa.Sh

namespace Go.Proofs.Ytaipmdhnhffckaa.Sh
open Go Go.Abs Go.Mth
set_option linter.unusedVariables false
set_option linter.unusedSimpArgs false
/-- A slice that can be read, though it is empty. -/
def Rd (M : HL) (v : Value) : Prop := v = .slice none 0 0 ∨ ∃ (b u o lo len cap : Nat) (ch : Ch) (cs : List Value), v = .slice (some ⟨b, o, some u⟩) len cap ∧ (b, ch) ∈ M ∧ ch.cellsAre u lo cs ∧ lo ≤ o ∧ o - lo ≤ cs.length
theorem Rd.mono {M M' : HL} {v : Value} (h : Rd M v) (k : ∀ q ∈ M, q ∈ M') : Rd M' v := by
  rcases h with h | ⟨b, u, o, lo, len, cap, ch, cs, h1, h2, h3⟩
  · exact .inl h
  · exact .inr ⟨b, u, o, lo, len, cap, ch, cs, h1, k _ h2, h3⟩
attribute [local irreducible] gOK WS WC WR WD Ends FS YS OpV seqK blockK loopK midK retK rdK asgK rangeEnd sat Cell
section
variable {M : HL} {n0 : Nat} {H : Heap} {v : Value}
end
end Go.Proofs.Ytaipmdhnhffckaa.Sh

namespace Go.Proofs.Ytaipmdhnhffckaa.Sh
open Go Go.Abs Go.Mth
set_option linter.unusedVariables false
set_option linter.unusedSimpArgs false
theorem ints_nat (l : List Nat) (f : Nat → Nat) : ints (l.map fun s => ((f s : Nat) : Int)) = nodes (l.map f) := by simp [List.map_map]
attribute [local irreducible] gOK WS WC WR WD Ends FS YS OpV seqK blockK loopK midK retK rdK asgK rangeEnd sat Cell
section
variable {M : HL} {n0 : Nat} {H : Heap} {v w : Value}
set_option maxHeartbeats 4000000 in
theorem Worth_fs (hH : hasH M n0 H) {fs : List (List Int)} (hR : RowsI M v fs) (hl : fs.length ≤ 1000) (hll : ∀ l ∈ fs, l.length ≤ 1000) {o : List Int} (hO : Sl M 1 w (ints o)) (hol : o.length ≤ 1000) :
    FS C 19 [v, w] H (fun e H' => ∃ n', n0 ≤ n' ∧ ((divE fs o ≠ 0 ∧ e = .tuple #[.slice none 0 0, .int .i64 (divE fs o)] ∧ hasH M n' H') ∨ (∃ vs n m, fs = ILL vs ∧ OKV vs n m ∧ OKD o n m ∧
      ∃ r us Mo Mi, e = .tuple #[r, .int .i64 0] ∧ OwnR 23 1 r us Mo ∧ RowsN (Mi ++ M) us (worM vs (shs n o)) ∧ hasH (Mo ++ (Mi ++ M)) n' H'))) := by
  have hv1 := hR.one_
  refine FS.intro (pf := pf19) rfl rfl rfl ?_
  repeat' (first | refine zP ?_ | refine zA ?_ | (refine zM ?_; intro _ _) | refine zX ?_ | (refine zC ?_; intro _ _ _ _) | (refine zS ?_; intro _ _) | (apply Ws <;> intro hg))
  refine WR.call (by first | exact gN | exact gS rfl) rfl rfl (checked_fs hH hR hl hll hO hol) ?_
  rintro _ H1 ⟨n1, hn1, ⟨hd, rfl, hH1⟩ | ⟨hd, b, rfl, hH1⟩⟩
  · repeat' (first | refine zP ?_ | refine zA ?_ | (refine zM ?_; intro _ _) | refine zX ?_ | (refine zC ?_; intro _ _ _ _) | (refine zS ?_; intro _ _) | (apply Ws <;> intro hg))
    rename_i H2 hH2
    refine WR.store2 (by first | exact gN | exact gS rfl) hH2 rfl rfl rfl rfl .here fun H3 hH3 => ?_
    repeat' (first | refine zP ?_ | refine zA ?_ | (refine zM ?_; intro _ _) | refine zX ?_ | (refine zC ?_; intro _ _ _ _) | (refine zS ?_; intro _ _) | refine zO ?_ | (apply Ws <;> intro hg))
    exact Ends.ret2 rfl rfl ⟨n1 + 1, by omega, .inl ⟨hd, rfl, hH3.tail⟩⟩
  · obtain ⟨vs, n, m, rfl, hnv, hfl, hvl, ho, hD⟩ := divM_of (b := b) hR hd
    rw [hfl] at hH1 ⊢
    have hV := hD.ok
    have hn4 := hV.n4
    have hm6 := hV.m6
    repeat' (first | refine zP ?_ | refine zA ?_ | (refine zM ?_; intro _ _) | refine zX ?_ | (refine zC ?_; intro _ _ _ _) | (refine zS ?_; intro _ _) | (apply Ws <;> intro hg))
    rename_i H2 hH2
    refine WR.store2 (by first | exact gN | exact gS rfl) hH2 rfl rfl hv1 rfl .here fun H3 hH3 => ?_
    clear hH1 hH2
    replace hD := hD.mono (M' := (n1, .row 78 0 0 [v, .slice (some ⟨b, 0, some 0⟩) n (2 * n + 1)]) :: (b, .row 116 0 0 (u64s (shs n o))) :: M) fun q hq => .tail _ hq
    have hback : ∀ {A : HL} {n' : Nat} {H' : Heap}, hasH (A ++ ((n1, Ch.row 78 0 0 [v, .slice (some ⟨b, 0, some 0⟩) n (2 * n + 1)]) :: (b, .row 116 0 0 (u64s (shs n o))) :: M)) n' H' → hasH (A ++ M) n' H' := fun {A _ _} h => h.sub (List.Sublist.append (List.Sublist.refl A) (.cons _ (.cons _ (List.Sublist.refl M))))
    have hm1 : (n1, Ch.row 78 0 0 [v, .slice (some ⟨b, 0, some 0⟩) n (2 * n + 1)]) ∈ (n1, Ch.row 78 0 0 [v, .slice (some ⟨b, 0, some 0⟩) n (2 * n + 1)]) :: (b, .row 116 0 0 (u64s (shs n o))) :: M := .head _
    generalize (n1, Ch.row 78 0 0 [v, .slice (some ⟨b, 0, some 0⟩) n (2 * n + 1)]) :: (b, .row 116 0 0 (u64s (shs n o))) :: M = T at hH3 hD hback hm1
    repeat' (first | refine zP ?_ | refine zA ?_ | (refine zM ?_; intro _ _) | refine zX ?_ | (refine zC ?_; intro _ _ _ _) | (refine zS ?_; intro _ _) | (apply Ws <;> intro hg))
    have hShr := hD.shar
    generalize Value.slice (some ⟨b, 0, some 0⟩) n (2 * n + 1) = sv at hm1 hShr ⊢
    obtain ⟨ws, hW, hwl, hws⟩ := hD.vals.ex
    have hbd := hD.bd
    have hssl := hD.len
    obtain ⟨ss, hss⟩ : ∃ ss, ss = shs n o := ⟨_, rfl⟩
    rw [← hss] at hShr hbd hssl
    clear hD
    repeat' (first | refine zP ?_ | refine zA ?_ | (refine zM ?_; intro _ _) | refine zX ?_ | (refine zC ?_; intro _ _ _ _) | (refine zS ?_; intro _ _) | (apply Ws <;> intro hg))
    rw [hwl, hvl]
    refine WC.loopX [(0, _), (1, _), (6, _), (20, _), (21, _)] (fun s : KW => [(8, s.v), (22, .int .i64 (s.k : Int))]) []
      (fun s H' => s.k ≤ n ∧ n1 ≤ s.n ∧ ((s.k = 0 ∧ s.v = .slice none 0 0 ∧ s.ws = [] ∧ s.Mo = []) ∨ OwnR 23 1 s.v s.ws s.Mo) ∧ RowsN (s.Mi ++ M) s.ws ((List.range s.k).map fun i => ss.map (wor (vs.getD i []))) ∧ hasH (s.Mo ++ (s.Mi ++ T)) s.n H') (fun s => n - s.k) ⟨0, .slice none 0 0, [], [], [], n1 + 1⟩ (by repeat' (first | exact .nil | refine .cons rfl ?_)) rfl
      ⟨Nat.zero_le _, by simp only; omega, .inl ⟨rfl, rfl, rfl, rfl⟩, ⟨rfl, fun i h => absurd h (Nat.not_lt_zero _)⟩, hH3⟩ ?_
    clear hH3
    rintro ⟨k, u, us, Mo, Mi, n2⟩ H4 ⟨hk, hn2, hOw, hRW, hH4⟩
    simp only at hk hn2 hOw hRW hH4
    have hOw' : Own 23 1 u us Mo := by
      rcases hOw with ⟨_, rfl, rfl, rfl⟩ | h
      · exact .nil
      · exact h.own
    have hul : us.length = k := by rw [hRW.1]; simp
    have hUp : ∀ q ∈ T, q ∈ Mo ++ (Mi ++ T) := fun q hq => List.mem_append_right _ (List.mem_append_right _ hq)
    have hW4 := hW.mono hUp
    have hm4 := hUp _ hm1
    have hS4 := hShr.mono hUp
    dsimp only [List.cons_append, List.nil_append]
    repeat' (first | refine zP ?_ | refine zA ?_ | (refine zM ?_; intro _ _) | refine zX ?_ | (refine zC ?_; intro _ _ _ _) | (refine zS ?_; intro _ _) | (apply Ws <;> intro hg))
    refine WC.condP rfl (fun hlt => ?_) (fun hlt => ?_)
    · have hk' : k < n := by omega
      have hrw := (hws k (by omega)).mono hUp
      repeat' (first | refine zP ?_ | refine zA ?_ | (refine zM ?_; intro _ _) | refine zX ?_ | (refine zC ?_; intro _ _ _ _) | (refine zS ?_; intro _ _) | (apply Ws <;> intro hg))
      refine WR.call (by first | exact gN | exact gS rfl) rfl rfl (askI_fs hH4 hS4 (by omega) (va := [ws.getD k undef]) (vb := []) (p := fun s => ((wor (vs.getD k []) s : Nat) : Int)) (fun {X n' H' s} hX hH' hs => FS.mono (worth_fs hH' (hrw.mono hX) (by rw [hV.rowLen hk']; exact hm6) (hV.rowBd hk') (Nat.lt_of_lt_of_le (hbd s hs) (Nat.pow_le_pow_right (by omega) (by omega)))) fun e H2 ⟨g1, g2⟩ => ⟨g1, n', Nat.le_refl _, by rw [g2]; exact hH'⟩)) ?_
      rintro _ H5 ⟨rfl, n5, hn5, hH5⟩
      rw [ints_nat] at hH5
      rw [hssl]
      clear hH4 hrw hW4 hm4 hS4 hUp
      refine WR.append1RF [(n2, .row 3 0 0 (nodes (ss.map (wor (vs.getD k []))))) ] Mo (Mi ++ T) rfl rfl rfl rfl hOw' hH5 (new := [.slice (some ⟨n2, 0, some 0⟩) n (2 * n + 1)]) (by rfl) rfl rfl (Nat.le_refl _) (by omega) (by simp; omega) fun v3 M3 n3 H6 hO3 hH6 hn3 => ?_
      repeat' (first | refine zP ?_ | refine zA ?_ | (refine zM ?_; intro _ _) | refine zX ?_ | (refine zC ?_; intro _ _ _ _) | (refine zS ?_; intro _ _) | (apply Ws <;> intro hg))
      rw [show (k : Int) + 1 = ((k + 1 : Nat) : Int) by omega]
      refine Ends.loop ⟨k + 1, v3, us ++ [.slice (some ⟨n2, 0, some 0⟩) n (2 * n + 1)], M3, [(n2, .row 3 0 0 (nodes (ss.map (wor (vs.getD k [])))))] ++ Mi, n3⟩ (by simp only; omega) (by repeat' (first | exact .nil | refine .cons rfl ?_)) rfl ⟨hk', by simp only; omega, .inr hO3, ?_, hH6.perm ?_⟩
      · simp only
        rw [List.range_succ, List.map_append]
        exact rowsN_snoc hRW (Sl.mkd (by simp [hssl]))
      · simp only
        rw [List.append_assoc]
        exact List.perm_append_comm_assoc [_] M3 (Mi ++ T)
    · have hkn : k = n := by omega
      rcases hOw with ⟨h, _⟩ | hOw
      · have := hV.pos; omega
      rw [hkn] at hRW
      repeat' (first | refine zP ?_ | refine zA ?_ | (refine zM ?_; intro _ _) | refine zX ?_ | (refine zC ?_; intro _ _ _ _) | (refine zS ?_; intro _ _) | (apply Ws <;> intro hg))
      refine Ends.ret2 rfl rfl ⟨n2, by omega, .inr ⟨vs, n, m, rfl, hV, ho, u, us, Mo, Mi, rfl, hOw, ?_, by
        have := hback (A := Mo ++ Mi) (n' := n2) (H' := H4) (by rw [List.append_assoc]; exact hH4)
        rwa [List.append_assoc] at this⟩⟩
      have : worM vs (shs n o) = (List.range n).map fun i => ss.map (wor (vs.getD i [])) := by
        refine ext_getD (a := []) (by simp [worM, hvl]) fun i hi => ?_
        have hi' : i < n := by simpa [worM, hvl] using hi
        have h1 : (List.range n).getD i 0 = i := by rw [getD_eq (by simpa using hi'), List.getElem_range]
        rw [worM_get (by omega), map_getD (l := List.range n) (a := 0) (by simpa using hi'), h1, hss]
      rw [this]; exact hRW
set_option maxHeartbeats 1000000 in
/-- Lists of lists that are alike. -/
theorem lists_fs (hH : hasH M n0 H) {A : List (List Nat)} {us xs : List Value} (hS : Sl M 1 v us) (hU : Sl M 1 w xs) (hR : RowsN M us A) (hQ : RowsN M xs A) (hl : A.length ≤ 1000) (hll : ∀ i, i < A.length → (A.getD i []).length ≤ 1000) :
    FS C 25 [v, w] H (fun e H' => e = .bool true ∧ H' = H) := by
  have h1 := hR.1
  have h2 := hQ.1
  refine FS.intro (pf := pf25) rfl rfl rfl ?_
  repeat' (first | refine zP ?_ | refine zA ?_ | (refine zM ?_; intro _ _) | refine zX ?_ | (refine zC ?_; intro _ _ _ _) | (refine zS ?_; intro _ _) | refine zO ?_ | (apply Ws <;> intro hg))
  refine WC.loopX [(0, _), (1, _)] (fun k : Nat => [(5, .int .i64 (k : Int))]) [] (fun k H' => H' = H ∧ k ≤ us.length) (fun k => us.length - k) 0 (by repeat' (first | exact .nil | refine .cons rfl ?_)) rfl ⟨rfl, Nat.zero_le _⟩ ?_
  rintro k H' ⟨rfl, hk⟩
  dsimp only [List.cons_append, List.nil_append]
  repeat' (first | refine zP ?_ | refine zA ?_ | (refine zM ?_; intro _ _) | refine zX ?_ | (refine zC ?_; intro _ _ _ _) | (refine zS ?_; intro _ _) | (apply Ws <;> intro hg))
  refine WC.condP rfl (fun hlt => ?_) (fun hlt => ?_)
  · have hk' : k < us.length := by omega
    have hk2 : k < xs.length := by omega
    repeat' (first | refine zP ?_ | refine zA ?_ | (refine zM ?_; intro _ _) | refine zX ?_ | (refine zC ?_; intro _ _ _ _) | (refine zS ?_; intro _ _) | (apply Ws <;> intro hg))
    refine WR.call (by first | exact gN | exact gS rfl) rfl rfl (sameI_fs hH (Sl.asInts (hR.2 k (by omega))) (Sl.asInts (hQ.2 k (by omega))) (by simpa using hll k (by omega)) (by simpa using hll k (by omega))) ?_
    rintro _ _ ⟨rfl, rfl⟩
    rw [decide_eq_true rfl]
    repeat' (first | refine zP ?_ | refine zA ?_ | (refine zM ?_; intro _ _) | refine zX ?_ | (refine zC ?_; intro _ _ _ _) | (refine zS ?_; intro _ _) | refine zO ?_ | (apply Ws <;> intro hg))
    exact Ends.loop (k + 1) (by omega) (by repeat' (first | exact .nil | refine .cons rfl ?_)) rfl ⟨rfl, hk'⟩
  · repeat' (first | refine zP ?_ | refine zA ?_ | (refine zM ?_; intro _ _) | refine zX ?_ | (refine zC ?_; intro _ _ _ _) | (refine zS ?_; intro _ _) | (apply Ws <;> intro hg))
    exact Ends.ret1 rfl ⟨rfl, rfl⟩
end
end Go.Proofs.Ytaipmdhnhffckaa.Sh

namespace Go.Proofs.Ytaipmdhnhffckaa.Sh
open Go Go.Abs Go.Mth
set_option linter.unusedVariables false
set_option linter.unusedSimpArgs false
theorem equal_k {P : Program} {e : TypeId} {k : IntKind} (h : P.underlying e = some (.int k)) (a b : Int) (d : Nat) : pureRun P (Op.equalIn (d + 1) e (.int k a) (.int k b)) = some (a == b) := by
  unfold Op.equalIn
  simp only [pureRun_bind, pureRun_underlying P h, Option.bind_some]
  cases k <;> rfl
theorem eqArr (a b c d : Int) (k : Nat) : pureRun C.c.P (Op.equalIn (k + 1 + 1) 58 (.agg #[.int .i64 a, .int .i64 b]) (.agg #[.int .i64 c, .int .i64 d])) = some (a == c && b == d) := by
  have hu : C.c.P.underlying 58 = some (.array 2 3) := Try.underlying58
  have hz : pureRun C.c.P (sizeOf 3) = some 1 := by kernel_rfl
  have hp0 : ∀ x y : Int, pureRun C.c.P (part 3 #[.int .i64 x, .int .i64 y] 0) = some (.int .i64 x) := fun x y => by kernel_rfl
  have hp1 : ∀ x y : Int, pureRun C.c.P (part 3 #[.int .i64 x, .int .i64 y] 1) = some (.int .i64 y) := fun x y => by kernel_rfl
  have hk := equal_k (P := C.c.P) (e := 3) (k := .i64) (by kernel_rfl)
  unfold Op.equalIn
  simp only [pureRun_bind, pureRun_underlying C.c.P hu, Option.bind_some, hz, Std.Legacy.Range.forIn_eq_forIn_range', Std.Legacy.Range.size]
  simp only [show (2 - 0 + 1 - 1) / 1 = 2 from rfl, List.range', List.forIn_cons, List.forIn_nil, pureRun_bind, Nat.zero_mul, Nat.one_mul, Nat.zero_add, hp0, hp1, hk, Option.bind_some]
  cases h1 : (a == c) <;> cases h2 : (b == d) <;> simp [pureRun_bind, pureRun_pure, h1, h2, hp0, hp1, hk]
theorem eqArrOp (a b c d : Int) : pureRun C.c.P (binOp .eql 58 (.agg #[.int .i64 a, .int .i64 b]) (.agg #[.int .i64 c, .int .i64 d])) = some (.bool (a == c && b == d)) := by
  have := eqArr a b c d 9998
  show pureRun C.c.P (Op.equal 58 _ _ >>= fun q => (pure (Value.bool q) : Sem Value)) = _
  rw [pureRun_bind]
  show Option.bind (pureRun C.c.P (Op.equalIn (9998 + 1 + 1) 58 _ _)) _ = _
  rw [this]
  simp [pureRun_pure]
theorem neArrOp (a b c d : Int) : pureRun C.c.P (binOp .neq 58 (.agg #[.int .i64 a, .int .i64 b]) (.agg #[.int .i64 c, .int .i64 d])) = some (.bool (!(a == c && b == d))) := by
  have := eqArr a b c d 9998
  show pureRun C.c.P (Op.equal 58 _ _ >>= fun q => (pure (Value.bool (!q)) : Sem Value)) = _
  rw [pureRun_bind]
  show Option.bind (pureRun C.c.P (Op.equalIn (9998 + 1 + 1) 58 _ _)) _ = _
  rw [this]
  simp [pureRun_pure]
theorem eqArrG (x y : Operand) (a b c d : Int) : pureRun C.c.P (eqGuard .eql 58 x y (.agg #[.int .i64 a, .int .i64 b]) (.agg #[.int .i64 c, .int .i64 d])) = some () := by kernel_rfl
theorem neArrG (x y : Operand) (a b c d : Int) : pureRun C.c.P (eqGuard .neq 58 x y (.agg #[.int .i64 a, .int .i64 b]) (.agg #[.int .i64 c, .int .i64 d])) = some () := by kernel_rfl
theorem OpV.opAgg {op : BinOp} {L : Env} {H : Heap} {dst : Option Tmp} {x y : Operand} {ty ty2 ty3 : TypeId} {pos : String} {af : Array Edge} {g : Option (Nat × Bool)} {A B : Array Value} {r : Bool} (e1 : pureRun C.c.P (eqGuard op ty x y (.agg A) (.agg B)) = some ()) (e2 : pureRun C.c.P (binOp op ty (.agg A) (.agg B)) = some (.bool r))
    (hx : ev L x = some (.agg A)) (hy : ev L y = some (.agg B)) (hA : plainV (.agg A) = true) (hB : plainV (.agg B) = true) :
    OpV C (.plain ⟨dst, .binOp op ty x y ty2, ty3, pos, af, g⟩) L H (.bool r) H := by
  refine OpV.plain (fun t ht => ?_) (fun t ht => by simp [Op.operands, ev_ok ht hx, ev_ok ht hy, hA, hB]) rfl
  simp only [pureNext, execOp, ev_ok ht hx, ev_ok ht hy, pureRun_bind, e1, e2, Option.bind_some]
  rfl
end Go.Proofs.Ytaipmdhnhffckaa.Sh
