/- Texts of the law, joined. -/
import Derived.Test.YtblopbimchkneaaJ1
import Derived.Test.YtblopbimchkneaaSymK
import Derived.Test.YtblopbimchkneaaSymR
namespace Go.Proofs.Ytblopbimchkneaa.Md
open Go Go.Abs Go.Mth
set_option linter.unusedVariables false
set_option linter.unusedSimpArgs false
theorem u8k : C.c.P.underlying 5 = some (.int .u8) := by kernel_rfl
theorem i64k : C.c.P.underlying 3 = some (.int .i64) := by kernel_rfl
abbrev bytesV (hs : List Int) : List Value := hs.map (Value.int .u8)
theorem bytes_one (hs : List Int) : (bytesV hs).all one = true := by simp [bytesV, List.all_map]; exact fun x _ => rfl
theorem bytes_get {hs : List Int} {k : Nat} (h : k < hs.length) : (bytesV hs)[k]? = some (.int .u8 (hs.getD k 0)) := by
  rw [List.getElem?_map, List.getElem?_eq_getElem h, getD_eq h]; rfl
/-- A tray's cells: three bytes, then eight, then six. -/
def trayV (a b c : Int) (hs : List Int) : List Value := .int .u8 a :: .int .u8 b :: .int .u8 c :: bytesV hs
theorem tray_one (a b c : Int) (hs : List Int) : (trayV a b c hs).all one = true := by
  have := bytes_one hs
  simp only [trayV, List.all_cons, this, Bool.and_true]; rfl
theorem tray_get {a b c : Int} {hs : List Int} {k : Nat} (h : k < hs.length) : (trayV a b c hs)[k + 3]? = some (.int .u8 (hs.getD k 0)) := by
  simp only [trayV, List.getElem?_cons_succ]; exact bytes_get h
structure NV where
  k : Nat
  v : Value
  l : List Nat
  Mx : HL
  n : Nat
theorem pow_le_62 {N : Nat} (h : N ≤ 61) : 2 ^ N < 2 ^ 62 := Nat.pow_lt_pow_right (by omega) (by omega)
theorem pow_lt_63 {N : Nat} (h : N ≤ 61) : 2 ^ N < 2 ^ 63 := Nat.pow_lt_pow_right (by omega) (by omega)
attribute [local irreducible] gOK WS WC WR WD Ends FS YS OpV seqK blockK loopK midK retK rdK asgK rangeEnd sat Cell

section
variable {M : HL} {n0 : Nat} {H : Heap}
set_option maxHeartbeats 4000000 in
theorem made_fs (hH : hasH M n0 H) {a b c : Int} {hs : List Int} (ha : 0 ≤ a ∧ a ≤ 255) (hb : 0 ≤ b ∧ b ≤ 255) (hc : 0 ≤ c ∧ c ≤ 255) (hl : hs.length = 14) (hu : ∀ x ∈ hs, 0 ≤ x ∧ x ≤ 255) {most many : Nat} (hmo : 1 ≤ most ∧ most ≤ 6) (hma : many ≤ 8) :
    FS C 36 [.agg (trayV a b c hs).toArray, .int .i64 (most : Int), .int .i64 (many : Int)] H (fun e H' => ∃ (N : Nat) (ns : List Nat) (v : Value) (Mx : HL) (n' : Nat), e = .tuple #[.int .i64 (N : Int), v] ∧ 1 ≤ N ∧ N ≤ most ∧ ns.length ≤ many ∧ (∀ x ∈ ns, x < 2 ^ N) ∧ Own 3 1 v (nodes ns) Mx ∧ n0 ≤ n' ∧ hasH (Mx ++ M) n' H') := by
  have hone := tray_one a b c hs
  refine FS.intro (pf := pf36) rfl rfl rfl ?_
  repeat' (first | refine zP ?_ | refine zA ?_ | (refine zM ?_; intro _ _) | refine zX ?_ | (refine zC ?_; intro _ _ _ _) | (refine zS ?_; intro _ _))
  rename_i H1 hH1
  refine WR.op (by first | exact gN | exact gS rfl) rfl (OpV.conv u8k i64k rfl (c := a) (IntWalk.i64_in _ (by omega))) ?_
  obtain ⟨an, rfl⟩ : ∃ an : Nat, a = an := ⟨a.toNat, by omega⟩
  obtain ⟨bn, rfl⟩ : ∃ bn : Nat, b = bn := ⟨b.toNat, by omega⟩
  obtain ⟨cn, rfl⟩ : ∃ cn : Nat, c = cn := ⟨c.toNat, by omega⟩
  have hmod := Nat.mod_lt an (show 0 < most by omega)
  have hmodb := Nat.mod_lt bn (show 0 < many + 1 by omega)
  repeat' (first | refine zP ?_ | refine zA ?_ | (refine zM ?_; intro _ _) | refine zX ?_ | (refine zC ?_; intro _ _ _ _) | (refine zS ?_; intro _ _) | (apply Ws <;> intro hg))
  rw [show (an : Int) % (most : Int) = ((an % most : Nat) : Int) by simp]
  obtain ⟨r, hr⟩ : ∃ r, an % most = r := ⟨_, rfl⟩
  rw [hr] at hmod ⊢
  repeat' (first | refine zP ?_ | refine zA ?_ | (refine zM ?_; intro _ _) | refine zX ?_ | (refine zC ?_; intro _ _ _ _) | (refine zS ?_; intro _ _) | (apply Ws <;> intro hg))
  rw [show (1 : Int) + (r : Int) = ((1 + r : Nat) : Int) by omega]
  obtain ⟨N, hN⟩ : ∃ N, 1 + r = N := ⟨_, rfl⟩
  have hN6 : 1 ≤ N ∧ N ≤ most := by omega
  rw [hN]
  clear hN hr hmod
  repeat' (first | refine zP ?_ | refine zA ?_ | (refine zM ?_; intro _ _) | refine zX ?_ | (refine zC ?_; intro _ _ _ _) | (refine zS ?_; intro _ _) | (apply Ws <;> intro hg))
  refine WC.loopX [(1, _), (2, _), (3, _), (8, _), (23, _)] (fun s : NV => [(9, s.v), (24, .int .i64 (s.k : Int))]) []
    (fun s H' => s.k ≤ N ∧ n0 + 1 ≤ s.n ∧ s.l.length = s.k ∧ (∀ i, i < s.k → s.l.getD i 0 < 2 ^ (i + 1)) ∧ ((s.k = 0 ∧ s.v = .slice none 0 0 ∧ s.Mx = []) ∨ OwnR 3 1 s.v (nodes s.l) s.Mx) ∧ hasH ((n0, .row 44 0 0 (trayV an bn cn hs)) :: (s.Mx ++ M)) s.n H') (fun s => N - s.k) ⟨0, .slice none 0 0, [], [], n0 + 1⟩ (by repeat' (first | exact .nil | refine .cons rfl ?_)) rfl
    ⟨Nat.zero_le _, Nat.le_refl _, rfl, fun i h => absurd h (Nat.not_lt_zero _), .inl ⟨rfl, rfl, rfl⟩, hH1⟩ ?_
  clear hH1
  rintro ⟨k, v, ps, Mx, n1⟩ H2 ⟨hk, hn1, hpl, hpb, hO, hH2⟩
  simp only at hk hn1 hpl hpb hO hH2
  have hOwn : Own 3 1 v (nodes ps) Mx := by
    rcases hO with ⟨h1, rfl, rfl⟩ | h
    · rw [List.length_eq_zero_iff.1 (hpl.trans h1)]; exact .nil
    · exact h.own
  dsimp only [List.cons_append, List.nil_append]
  repeat' (first | refine zP ?_ | refine zA ?_ | (refine zM ?_; intro _ _) | refine zX ?_ | (refine zC ?_; intro _ _ _ _) | (refine zS ?_; intro _ _) | (apply Ws <;> intro hg))
  refine WC.condP rfl (fun hlt => ?_) (fun hlt => ?_)
  · have hk' : k < N := by omega
    have hkl : 8 + k < hs.length := by omega
    have hx0 := hu _ (getD_mem (a := 0) hkl)
    obtain ⟨x, hx⟩ : ∃ x : Nat, hs.getD (8 + k) 0 = x := ⟨(hs.getD (8 + k) 0).toNat, by omega⟩
    repeat' (first | refine zP ?_ | refine zA ?_ | (refine zM ?_; intro _ _) | refine zX ?_ | (refine zC ?_; intro _ _ _ _) | (refine zS ?_; intro _ _) | (apply Ws <;> intro hg))
    refine WR.op (by first | exact gN | exact gS rfl) rfl (OpV.load1 (v := .int .u8 (hs.getD (8 + k) 0)) rfl hH2 (.head _) (.row _ _ _ _) (Nat.zero_le _) (by rw [show 11 + k - 0 = 8 + k + 3 by omega]; exact tray_get hkl)) ?_
    rw [hx]
    refine WR.op (by first | exact gN | exact gS rfl) rfl (OpV.conv u8k i64k rfl (c := (x : Int)) (IntWalk.i64_in _ (by omega))) ?_
    repeat' (first | refine zP ?_ | refine zA ?_ | (refine zM ?_; intro _ _) | refine zX ?_ | (refine zC ?_; intro _ _ _ _) | (refine zS ?_; intro _ _) | (apply Ws <;> intro hg))
    rw [show (x : Int) % ((k : Int) + 1) = ((x % (k + 1) : Nat) : Int) by simp]
    have hp := Nat.mod_lt x (show 0 < k + 1 by omega)
    obtain ⟨p, hpp⟩ : ∃ p, x % (k + 1) = p := ⟨_, rfl⟩
    rw [hpp] at hp ⊢
    repeat' (first | refine zP ?_ | refine zA ?_ | (refine zM ?_; intro _ _) | refine zX ?_ | (refine zC ?_; intro _ _ _ _) | (refine zS ?_; intro _ _) | (apply Ws <;> intro hg))
    refine WR.op (by first | exact gN | exact gS rfl) rfl (OpV.shl1 rfl rfl (by show k ≤ 64; omega) (pow_lt_63 (by omega))) ?_
    repeat' (first | refine zP ?_ | refine zA ?_ | (refine zM ?_; intro _ _) | refine zX ?_ | (refine zC ?_; intro _ _ _ _) | (refine zS ?_; intro _ _) | (apply Ws <;> intro hg))
    refine WC.joinX [(1, _), (2, _), (3, _), (8, _), (9, _), (10, _), (23, _), (24, _)] (by repeat' (first | exact .nil | refine .cons rfl ?_)) (fun w : Nat => [(12, .int .i64 (w : Int))]) (fun w H' => H' = H2 ∧ w < 2 ^ (k + 1)) ?_ ?_
    · refine WC.condP rfl (fun h2 => ?_) (fun h2 => ?_)
      · have hSp : Sl ((n0, .row 44 0 0 (trayV an bn cn hs)) :: (Mx ++ M)) 1 v (nodes ps) := (hOwn.sl M).cons
        have hpb' := hpb p (by omega)
        have hle : ps.getD p 0 < 2 ^ (k + 1) := Nat.lt_of_lt_of_le hpb' (Nat.pow_le_pow_right (by omega) (by omega))
        have h63 := pow_lt_63 (N := k + 1) (by omega)
        repeat' (first | refine zP ?_ | refine zA ?_ | (refine zM ?_; intro _ _) | refine zX ?_ | (refine zC ?_; intro _ _ _ _) | (refine zS ?_; intro _ _) | (apply Ws <;> intro hg))
        refine WR.op (by first | exact gN | exact gS rfl) rfl (OpV.orN rfl rfl (by show 2 ^ k < 2 ^ 63; exact pow_lt_63 (by omega)) (by show ps.getD p 0 < 2 ^ 63; omega)) ?_
        repeat' (first | refine zP ?_ | refine zA ?_ | (refine zM ?_; intro _ _) | refine zX ?_ | (refine zC ?_; intro _ _ _ _) | (refine zS ?_; intro _ _) | (apply Ws <;> intro hg))
        exact Ends.midX (2 ^ k ||| ps.getD p 0) (by repeat' (first | exact .nil | refine .cons rfl ?_)) ⟨rfl, Nat.or_lt_two_pow (Nat.pow_lt_pow_right (by omega) (by omega)) hle⟩
      · repeat' (first | refine zP ?_ | refine zA ?_ | (refine zM ?_; intro _ _) | refine zX ?_ | (refine zC ?_; intro _ _ _ _) | (refine zS ?_; intro _ _) | (apply Ws <;> intro hg))
        exact Ends.midX (2 ^ k) (by repeat' (first | exact .nil | refine .cons rfl ?_)) ⟨rfl, Nat.pow_lt_pow_right (by omega) (by omega)⟩
    rintro w H3 ⟨rfl, hw⟩
    dsimp only [List.cons_append, List.nil_append]
    repeat' (first | refine zP ?_ | refine zA ?_ | (refine zM ?_; intro _ _) | refine zX ?_ | (refine zC ?_; intro _ _ _ _) | (refine zS ?_; intro _ _) | (apply Ws <;> intro hg))
    refine WR.append1RF [(n0, .row 44 0 0 (trayV an bn cn hs))] Mx M rfl rfl rfl rfl hOwn hH2 (new := [.int .i64 (w : Int)]) (by rfl) rfl rfl (Nat.le_refl _) (by omega) (by simp; omega) fun v3 M3 n3 H6 hO3 hH6 hn3 => ?_
    repeat' (first | refine zP ?_ | refine zA ?_ | (refine zM ?_; intro _ _) | refine zX ?_ | (refine zC ?_; intro _ _ _ _) | (refine zS ?_; intro _ _) | (apply Ws <;> intro hg))
    refine Ends.loop ⟨k + 1, v3, ps ++ [w], M3, n3⟩ (by show N - (k + 1) < N - k; omega) (by repeat' (first | exact .nil | refine .cons rfl ?_)) rfl ⟨hk', by simp only; omega, by simp [hpl], fun i hi => ?_, .inr ?_, hH6⟩
    · replace hi : i < k + 1 := hi
      simp only
      rcases Nat.lt_or_ge i k with h3 | h3
      · rw [getD_app_l (by omega)]; exact hpb i h3
      · have : i = ps.length := by omega
        subst this
        rw [getD_snoc, hpl]; exact hw
    · simp only
      simpa [nodes] using hO3
  have hkN : N = k := by omega
  subst hkN
  clear hOwn hlt hk
  rcases hO with ⟨h1, _⟩ | hO
  · omega
  have hPl : ∀ i, i < N → ps.getD i 0 < 2 ^ N := fun i hi => Nat.lt_of_lt_of_le (hpb i hi) (Nat.pow_le_pow_right (by omega) (by omega))
  clear hpb
  cases hO with
  | mk hlp =>
  rename_i pb pu po plen
  have hplen : N = plen := by simp [nodes] at hlp; omega
  subst hplen
  simp only [List.cons_append, List.nil_append] at hH2
  have hmP : (pb, Ch.row 3 pu po (nodes ps)) ∈ (pb, Ch.row 3 pu po (nodes ps)) :: M := .head _
  have hbackP : ∀ {M' : HL} {n' : Nat} {H' : Heap}, hasH (M' ++ (pb, Ch.row 3 pu po (nodes ps)) :: M) n' H' → hasH (M' ++ M) n' H' := fun h => h.sub (List.Sublist.append_left (List.sublist_cons_self _ _) _)
  generalize (pb, Ch.row 3 pu po (nodes ps)) :: M = T at hH2 hmP hbackP
  repeat' (first | refine zP ?_ | refine zA ?_ | (refine zM ?_; intro _ _) | refine zX ?_ | (refine zC ?_; intro _ _ _ _) | (refine zS ?_; intro _ _) | (apply Ws <;> intro hg))
  refine WR.op (by first | exact gN | exact gS rfl) rfl (OpV.conv u8k i64k rfl (c := (bn : Int)) (IntWalk.i64_in _ (by omega))) ?_
  repeat' (first | refine zP ?_ | refine zA ?_ | (refine zM ?_; intro _ _) | refine zX ?_ | (refine zC ?_; intro _ _ _ _) | (refine zS ?_; intro _ _) | (apply Ws <;> intro hg))
  rw [show (bn : Int) % ((many : Int) + 1) = ((bn % (many + 1) : Nat) : Int) by simp]
  obtain ⟨m, hm⟩ : ∃ m, bn % (many + 1) = m := ⟨_, rfl⟩
  rw [hm] at hmodb ⊢
  refine WR.op (by first | exact gN | exact gS rfl) rfl (OpV.slAh rfl rfl (by omega) (by decide)) ?_
  repeat' (first | refine zP ?_ | refine zA ?_ | (refine zM ?_; intro _ _) | refine zX ?_ | (refine zC ?_; intro _ _ _ _) | (refine zS ?_; intro _ _) | (apply Ws <;> intro hg))
  refine WC.loopX [(1, _), (2, _), (3, _), (8, _), (9, _), (58, _), (59, _)] (fun s : NV => [(13, s.v), (60, .int .i64 (s.k : Int))]) []
    (fun s H' => s.k ≤ m ∧ n0 + 1 ≤ s.n ∧ s.l.length = s.k ∧ (∀ x ∈ s.l, x < 2 ^ N) ∧ Own 3 1 s.v (nodes s.l) s.Mx ∧ hasH ((n0, .row 44 0 0 (trayV an bn cn hs)) :: (s.Mx ++ T)) s.n H') (fun s => m - s.k) ⟨0, .slice none 0 0, [], [], n1⟩ (by repeat' (first | exact .nil | refine .cons rfl ?_)) rfl
    ⟨Nat.zero_le _, hn1, rfl, fun x h => (by cases h), .nil, hH2⟩ ?_
  clear hH2 hn1
  rintro ⟨k, v, ns, Mx, n2⟩ H3 ⟨hk, hn2, hnl, hnb, hO, hH3⟩
  simp only at hk hn2 hnl hnb hO hH3
  have hmP3 := List.mem_cons_of_mem (n0, Ch.row 44 0 0 (trayV an bn cn hs)) (List.mem_append_right Mx hmP)
  dsimp only [List.cons_append, List.nil_append]
  repeat' (first | refine zP ?_ | refine zA ?_ | (refine zM ?_; intro _ _) | refine zX ?_ | (refine zC ?_; intro _ _ _ _) | (refine zS ?_; intro _ _) | (apply Ws <;> intro hg))
  refine WC.condP rfl (fun hlt => ?_) (fun hlt => ?_)
  · have hk' : k < m := by omega
    have hkl : k < hs.length := by omega
    have hx0 := hu _ (getD_mem (a := 0) hkl)
    obtain ⟨x, hx⟩ : ∃ x : Nat, hs.getD k 0 = x := ⟨(hs.getD k 0).toNat, by omega⟩
    repeat' (first | refine zP ?_ | refine zA ?_ | (refine zM ?_; intro _ _) | refine zX ?_ | (refine zC ?_; intro _ _ _ _) | (refine zS ?_; intro _ _) | (apply Ws <;> intro hg))
    refine WR.op (by first | exact gN | exact gS rfl) rfl (OpV.load1 (v := .int .u8 (hs.getD k 0)) rfl hH3 (.head _) (.row _ _ _ _) (Nat.zero_le _) (by rw [show 3 + k - 0 = k + 3 by omega]; exact tray_get hkl)) ?_
    rw [hx]
    repeat' (first | refine zP ?_ | refine zA ?_ | (refine zM ?_; intro _ _) | refine zX ?_ | (refine zC ?_; intro _ _ _ _) | (refine zS ?_; intro _ _) | (apply Ws <;> intro hg))
    refine WR.op (by first | exact gN | exact gS rfl) rfl (OpV.conv u8k i64k rfl (c := (x : Int)) (IntWalk.i64_in _ (by omega))) ?_
    repeat' (first | refine zP ?_ | refine zA ?_ | (refine zM ?_; intro _ _) | refine zX ?_ | (refine zC ?_; intro _ _ _ _) | (refine zS ?_; intro _ _) | (apply Ws <;> intro hg))
    refine WR.op (by first | exact gN | exact gS rfl) rfl (OpV.shl1 rfl rfl (by show N ≤ 64; omega) (pow_lt_63 (by omega))) ?_
    have hNp : 0 < 2 ^ N := Nat.two_pow_pos N
    have h62 := pow_le_62 (N := N) (by omega)
    have hxm := Nat.mod_lt x hNp
    repeat' (first | refine zP ?_ | refine zA ?_ | (refine zM ?_; intro _ _) | refine zX ?_ | (refine zC ?_; intro _ _ _ _) | (refine zS ?_; intro _ _) | (apply Ws <;> intro hg))
    rw [show (x : Int) % ((2 ^ N : Nat) : Int) = ((x % 2 ^ N : Nat) : Int) by simp]
    obtain ⟨y, hy⟩ : ∃ y, x % 2 ^ N = y := ⟨_, rfl⟩
    rw [hy] at hxm ⊢
    repeat' (first | refine zP ?_ | refine zA ?_ | (refine zM ?_; intro _ _) | refine zX ?_ | (refine zC ?_; intro _ _ _ _) | (refine zS ?_; intro _ _) | (apply Ws <;> intro hg))
    have hstep : ∀ {w : Nat}, w < 2 ^ N → w < 2 ^ 62 := fun h => by omega
    refine WC.joinX [(1, _), (2, _), (3, _), (8, _), (9, _), (13, _), (14, _), (15, _), (58, _), (59, _), (60, _)] (by repeat' (first | exact .nil | refine .cons rfl ?_)) (fun s : Nat × Nat => [(16, .int .i64 (s.1 : Int))]) (fun s H' => s.1 < 2 ^ N ∧ n0 + 1 ≤ s.2 ∧ hasH ((n0, .row 44 0 0 (trayV an bn cn hs)) :: (Mx ++ T)) s.2 H') ?_ ?_
    · refine WC.condP rfl (fun h2 => ?_) (fun h2 => ?_)
      · refine WC.regionD ?_
        repeat' (first | refine zD ?_ | (refine zE ?_; intro _ _ _ _))
        refine WD.op (by first | exact gN | exact gS rfl) rfl (OpV.conv u8k i64k rfl (c := (x : Int)) (IntWalk.i64_in _ (by omega))) rfl (stands_nil _ _) ?_
        repeat' (first | refine zD ?_ | (refine zE ?_; intro _ _ _ _))
        rw [show (x : Int) % ((N : Int) + 1) = ((x % (N + 1) : Nat) : Int) by simp]
        have hq := Nat.mod_lt x (show 0 < N + 1 by omega)
        obtain ⟨q, hqq⟩ : ∃ q, x % (N + 1) = q := ⟨_, rfl⟩
        rw [hqq] at hq ⊢
        refine WD.bldS (by first | exact gN | exact gS rfl) rfl hH3 (vs := [(0, .int .i64 0)]) rfl (cs := [.int .i64 0]) (by rfl) rfl (fun H8 hH8 => zSt) fun H8 hH8 => ?_
        refine WD.appendKeep (y := .int .i64 0) (by first | exact gN | exact gS rfl) rfl rfl rfl hH8 (List.mem_cons_of_mem _ hmP3) (by simpa [nodes] using hpl) rfl (by
          have := hH8.readN (b := n2) (u := 0) (lo := 0) (o := 0) (k := 1) (.head _) (.row _ _ _ _) (Nat.le_refl _) (by simp)
          simpa [srcCells] using this) rfl (by omega) fun tp H9 hH9 hrd => ⟨zSt, ?_⟩
        refine WD.op (by first | exact gN | exact gS rfl) rfl (OpV.idxS rfl rfl rfl (m := q) (by omega) rfl) rfl (stands_nil _ _) ?_
        obtain ⟨w, hw, hwq⟩ : ∃ w : Nat, w < 2 ^ N ∧ (nodes ps ++ [Value.int .i64 0])[q]? = some (.int .i64 (w : Int)) := by
          by_cases h : q < N
          · exact ⟨ps.getD q 0, hPl q h, by rw [List.getElem?_append_left (by simp; omega), List.getElem?_map, List.getElem?_eq_getElem (by omega), getD_eq (by omega)]; rfl⟩
          · have : q = (nodes ps).length := by simp; omega
            exact ⟨0, hNp, by rw [this, List.getElem?_append_right (Nat.le_refl _)]; simp⟩
        refine WD.load1 (v := .int .i64 (w : Int)) (by first | exact gN | exact gS rfl) rfl rfl (hrd (q * 1) _ (by rw [Nat.mul_one]; exact hwq)) ?_
        repeat' (first | refine zD ?_ | (refine zE ?_; intro _ _ _ _))
        refine WD.nil ?_
        repeat' (first | refine zP ?_ | refine zA ?_ | (refine zM ?_; intro _ _) | refine zX ?_ | (refine zC ?_; intro _ _ _ _) | (refine zS ?_; intro _ _) | (apply Ws <;> intro hg))
        exact Ends.midX (w, n2 + 1) (by repeat' (first | exact .nil | refine .cons rfl ?_)) ⟨hw, by simp only; omega, hH9.tail⟩
      · repeat' (first | refine zP ?_ | refine zA ?_ | (refine zM ?_; intro _ _) | refine zX ?_ | (refine zC ?_; intro _ _ _ _) | (refine zS ?_; intro _ _) | (apply Ws <;> intro hg))
        exact Ends.midX (y, n2) (by repeat' (first | exact .nil | refine .cons rfl ?_)) ⟨hxm, hn2, hH3⟩
    clear hH3 hn2
    rintro ⟨w, n3⟩ H4 ⟨hw, hn3, hH4⟩
    simp only at hw hn3 hH4
    have hmP4 := hmP3
    dsimp only [List.cons_append, List.nil_append]
    have happ : ∀ {z : Nat}, z < 2 ^ N → ∀ x ∈ ns ++ [z], x < 2 ^ N := fun hz x hx => by
      rcases List.mem_append.1 hx with h | h
      · exact hnb x h
      · obtain rfl := List.mem_singleton.1 h
        exact hz
    by_cases h4 : (cn : Int) % 4 = 3
    · by_cases hk0 : (k : Int) = 0
      · repeat' (first | refine zP ?_ | refine zA ?_ | (refine zM ?_; intro _ _) | refine zX ?_ | (refine zC ?_; intro _ _ _ _) | (refine zS ?_; intro _ _) | refine zO ?_ | (apply Ws <;> intro hg))
        refine WR.op (by first | exact gN | exact gS rfl) rfl (OpV.conv u8k i64k rfl (c := (x : Int)) (IntWalk.i64_in _ (by omega))) ?_
        repeat' (first | refine zP ?_ | refine zA ?_ | (refine zM ?_; intro _ _) | refine zX ?_ | (refine zC ?_; intro _ _ _ _) | (refine zS ?_; intro _ _) | refine zO ?_ | (apply Ws <;> intro hg))
        rw [show (x : Int) % (N : Int) = ((x % N : Nat) : Int) by simp]
        have hq := Nat.mod_lt x (show 0 < N by omega)
        obtain ⟨q, hqq⟩ : ∃ q, x % N = q := ⟨_, rfl⟩
        rw [hqq] at hq ⊢
        refine WR.op (by first | exact gN | exact gS rfl) rfl (OpV.shl1 rfl rfl (by show q ≤ 64; omega) (pow_lt_63 (by omega))) ?_
        refine WR.op (by first | exact gN | exact gS rfl) rfl (OpV.xorN rfl rfl (by show w < 2 ^ 63; omega) (by show 2 ^ q < 2 ^ 63; exact pow_lt_63 (by omega))) ?_
        have hw2 : w ^^^ 2 ^ q < 2 ^ N := Nat.xor_lt_two_pow hw (Nat.pow_lt_pow_right (by omega) hq)
        obtain ⟨w2, hww⟩ : ∃ w2, w ^^^ 2 ^ q = w2 := ⟨_, rfl⟩
        rw [hww] at hw2 ⊢
        repeat' (first | refine zP ?_ | refine zA ?_ | (refine zM ?_; intro _ _) | refine zX ?_ | (refine zC ?_; intro _ _ _ _) | (refine zS ?_; intro _ _) | (apply Ws <;> intro hg))
        refine WR.append1F [(n0, .row 44 0 0 (trayV an bn cn hs))] Mx T rfl rfl rfl rfl hO hH4 (new := [.int .i64 (w2 : Nat)]) (by rfl) rfl rfl (Nat.le_refl _) (by omega) (by simp; omega) fun v5 M5 n5 H5 hO5 hH5 hn5 => ?_
        repeat' (first | refine zP ?_ | refine zA ?_ | (refine zM ?_; intro _ _) | refine zX ?_ | (refine zC ?_; intro _ _ _ _) | (refine zS ?_; intro _ _) | (apply Ws <;> intro hg))
        exact Ends.loop ⟨k + 1, v5, ns ++ [w2], M5, n5⟩ (by show m - (k + 1) < m - k; omega) (by repeat' (first | exact .nil | refine .cons rfl ?_)) rfl ⟨hk', by simp only; omega, by simp [hnl], happ (by first | exact hw | exact hw2), by simpa [nodes] using hO5, hH5⟩
      · repeat' (first | refine zP ?_ | refine zA ?_ | (refine zM ?_; intro _ _) | refine zX ?_ | (refine zC ?_; intro _ _ _ _) | (refine zS ?_; intro _ _) | refine zO ?_ | (apply Ws <;> intro hg))
        refine WR.append1F [(n0, .row 44 0 0 (trayV an bn cn hs))] Mx T rfl rfl rfl rfl hO hH4 (new := [.int .i64 (w : Nat)]) (by rfl) rfl rfl (Nat.le_refl _) (by omega) (by simp; omega) fun v5 M5 n5 H5 hO5 hH5 hn5 => ?_
        repeat' (first | refine zP ?_ | refine zA ?_ | (refine zM ?_; intro _ _) | refine zX ?_ | (refine zC ?_; intro _ _ _ _) | (refine zS ?_; intro _ _) | (apply Ws <;> intro hg))
        exact Ends.loop ⟨k + 1, v5, ns ++ [w], M5, n5⟩ (by show m - (k + 1) < m - k; omega) (by repeat' (first | exact .nil | refine .cons rfl ?_)) rfl ⟨hk', by simp only; omega, by simp [hnl], happ (by first | exact hw | exact hw2), by simpa [nodes] using hO5, hH5⟩
    · repeat' (first | refine zP ?_ | refine zA ?_ | (refine zM ?_; intro _ _) | refine zX ?_ | (refine zC ?_; intro _ _ _ _) | (refine zS ?_; intro _ _) | refine zO ?_ | (apply Ws <;> intro hg))
      refine WR.append1F [(n0, .row 44 0 0 (trayV an bn cn hs))] Mx T rfl rfl rfl rfl hO hH4 (new := [.int .i64 (w : Nat)]) (by rfl) rfl rfl (Nat.le_refl _) (by omega) (by simp; omega) fun v5 M5 n5 H5 hO5 hH5 hn5 => ?_
      repeat' (first | refine zP ?_ | refine zA ?_ | (refine zM ?_; intro _ _) | refine zX ?_ | (refine zC ?_; intro _ _ _ _) | (refine zS ?_; intro _ _) | (apply Ws <;> intro hg))
      exact Ends.loop ⟨k + 1, v5, ns ++ [w], M5, n5⟩ (by show m - (k + 1) < m - k; omega) (by repeat' (first | exact .nil | refine .cons rfl ?_)) rfl ⟨hk', by simp only; omega, by simp [hnl], happ (by first | exact hw | exact hw2), by simpa [nodes] using hO5, hH5⟩
  · have hkm : m = k := by omega
    subst hkm
    repeat' (first | refine zP ?_ | refine zA ?_ | (refine zM ?_; intro _ _) | refine zX ?_ | (refine zC ?_; intro _ _ _ _) | (refine zS ?_; intro _ _) | (apply Ws <;> intro hg))
    exact Ends.ret2 rfl rfl ⟨N, ns, v, Mx, n2, rfl, by omega, by omega, by omega, hnb, hO, by omega, hbackP hH3.tail⟩
end
end Go.Proofs.Ytblopbimchkneaa.Md

namespace Go.Proofs.Ytblopbimchkneaa.Md
open Go Go.Abs Go.Mth
set_option linter.unusedVariables false
set_option linter.unusedSimpArgs false
def bitN (c a : Nat) : Nat := if c.testBit a = true then 1 else 0
theorem shr_one (c a : Nat) : (c >>> a) &&& 1 = bitN c a := by
  have h1 : (c >>> a) &&& 1 < 2 := by rw [Nat.and_one_is_mod]; exact Nat.mod_lt _ (by omega)
  have h2 := shr_and_one (a := c) (m := a)
  unfold bitN
  split
  · rename_i h; have := h2.2 h; omega
  · rename_i h
    have : ¬ (((c >>> a) &&& 1 : Nat) : Int) = 1 := fun e => h (h2.1 e)
    omega
def kd (c a b : Nat) : Nat := bitN c a + 2 * bitN c b
theorem bitN_lt (c a : Nat) : bitN c a < 2 := by unfold bitN; split <;> omega
theorem kd_lt (c a b : Nat) : kd c a b < 4 := by have := bitN_lt c a; have := bitN_lt c b; unfold kd; omega
/-- Which kinds of casts have been met. -/
def metB (ns : List Nat) (a b k i : Nat) : Bool := (ns.take k).any fun c => kd c a b == i
theorem metB_succ {ns : List Nat} {a b k i : Nat} (h : k < ns.length) : metB ns a b (k + 1) i = (metB ns a b k i || (kd (ns.getD k 0) a b == i)) := by
  unfold metB
  rw [List.take_succ_eq_append_getElem h, List.any_append, getD_eq h]; simp
theorem met_clash (ns : List Nat) (a b : Nat) : clashB ns a b = (metB ns a b ns.length 1 && metB ns a b ns.length 2 && metB ns a b ns.length 3) := by
  have e : ∀ i, metB ns a b ns.length i = ns.any fun c => kd c a b == i := fun i => by rw [metB, List.take_length]
  rw [e, e, e, clashB]
  have e1 : (fun c => kd c a b == 1) = fun c => c.testBit a && !c.testBit b := by
    funext c; unfold kd bitN; cases c.testBit a <;> cases c.testBit b <;> rfl
  have e2 : (fun c => kd c a b == 2) = fun c => !c.testBit a && c.testBit b := by
    funext c; unfold kd bitN; cases c.testBit a <;> cases c.testBit b <;> rfl
  have e3 : (fun c => kd c a b == 3) = fun c => c.testBit a && c.testBit b := by
    funext c; unfold kd bitN; cases c.testBit a <;> cases c.testBit b <;> rfl
  rw [e1, e2, e3]
  cases ns.any (fun c => c.testBit a && c.testBit b) <;> cases ns.any (fun c => c.testBit a && !c.testBit b) <;> cases ns.any (fun c => !c.testBit a && c.testBit b) <;> rfl
structure BL where
  k : Nat
  l : List Bool
attribute [local irreducible] gOK WS WC WR WD Ends FS YS OpV seqK blockK loopK midK retK rdK asgK rangeEnd sat Cell
section
variable {M : HL} {n0 : Nat} {H : Heap} {v : Value} {ns : List Nat}
set_option maxHeartbeats 1000000 in
theorem lclash_fs (hH : hasH M n0 H) (hS : Sl M 1 v (nodes ns)) (hl : ns.length ≤ 1000) (hb : ∀ x ∈ ns, x < 2 ^ 62) {a b : Nat} (ha : a ≤ 61) (hbb : b ≤ 61) :
    FS C 41 [v, .int .i64 (a : Int), .int .i64 (b : Int)] H (fun e H' => e = .bool (clashB ns a b) ∧ ∃ n', n0 ≤ n' ∧ hasH M n' H') := by
  refine FS.intro (pf := pf41) rfl rfl rfl ?_
  repeat' (first | refine zP ?_ | refine zA ?_ | (refine zM ?_; intro _ _) | refine zX ?_ | (refine zC ?_; intro _ _ _ _) | (refine zS ?_; intro _ _) | (apply Ws <;> intro hg))
  rename_i H1 hH1
  have hSc : ∀ {ch : Ch}, Sl ((n0, ch) :: M) 1 v (nodes ns) := hS.cons
  have hS1 := hSc (ch := .row 56 0 0 (bools [false, false, false, false]))
  replace hH1 : hasH ((n0, .row 56 0 0 (bools [false, false, false, false])) :: M) (n0 + 1) H1 := hH1
  repeat' (first | refine zP ?_ | refine zA ?_ | (refine zM ?_; intro _ _) | refine zX ?_ | (refine zC ?_; intro _ _ _ _) | (refine zS ?_; intro _ _) | (apply Ws <;> intro hg))
  refine WC.loopX [(0, _), (1, _), (2, _), (7, _), (10, _), (11, _)] (fun s : BL => [(12, .int .i64 (s.k : Int))]) []
    (fun s H' => s.k ≤ ns.length ∧ s.l.length = 4 ∧ (∀ i, i < 4 → s.l.getD i false = metB ns a b s.k i) ∧ hasH ((n0, .row 56 0 0 (bools s.l)) :: M) (n0 + 1) H') (fun s => ns.length - s.k) ⟨0, [false, false, false, false]⟩ (by repeat' (first | exact .nil | refine .cons rfl ?_)) rfl
    ⟨Nat.zero_le _, rfl, fun i hi => by match i, hi with | 0, _ | 1, _ | 2, _ | 3, _ => rfl, hH1⟩ ?_
  rintro ⟨k, l⟩ H2 ⟨hk, hll, hm, hH2⟩
  simp only at hk hll hm hH2
  have hS2 := hSc (ch := .row 56 0 0 (bools l))
  clear hH1 hS1
  dsimp only [List.cons_append, List.nil_append]
  repeat' (first | refine zP ?_ | refine zA ?_ | (refine zM ?_; intro _ _) | refine zX ?_ | (refine zC ?_; intro _ _ _ _) | (refine zS ?_; intro _ _) | (apply Ws <;> intro hg))
  refine WC.condP rfl (fun hlt => ?_) (fun hlt => ?_)
  · have hk' : k < ns.length := by omega
    have hx := hb _ (getD_mem (a := 0) hk')
    repeat' (first | refine zP ?_ | refine zA ?_ | (refine zM ?_; intro _ _) | refine zX ?_ | (refine zC ?_; intro _ _ _ _) | (refine zS ?_; intro _ _) | (apply Ws <;> intro hg))
    obtain ⟨c, hc⟩ : ∃ c, ns.getD k 0 = c := ⟨_, rfl⟩
    rw [hc] at hx ⊢
    have hsh : ∀ m, c >>> m < 2 ^ 63 := fun m => Nat.lt_of_le_of_lt (Nat.shiftRight_le c m) (by omega)
    refine WR.op (by first | exact gN | exact gS rfl) rfl (OpV.shrN rfl rfl (by show a ≤ 64; omega)) ?_
    refine WR.op (by first | exact gN | exact gS rfl) rfl (OpV.andN (b := 1) rfl rfl (hsh a) (by decide)) ?_
    repeat' (first | refine zP ?_ | refine zA ?_ | (refine zM ?_; intro _ _) | refine zX ?_ | (refine zC ?_; intro _ _ _ _) | (refine zS ?_; intro _ _) | (apply Ws <;> intro hg))
    refine WR.op (by first | exact gN | exact gS rfl) rfl (OpV.shrN rfl rfl (by show b ≤ 64; omega)) ?_
    refine WR.op (by first | exact gN | exact gS rfl) rfl (OpV.andN (b := 1) rfl rfl (hsh b) (by decide)) ?_
    rw [shr_one, shr_one]
    have h1 := bitN_lt c a
    have h2 := bitN_lt c b
    have h4 := kd_lt c a b
    have hkd : kd c a b = bitN c a + 2 * bitN c b := rfl
    obtain ⟨x, hx1⟩ : ∃ x, bitN c a = x := ⟨_, rfl⟩
    obtain ⟨y, hy1⟩ : ∃ y, bitN c b = y := ⟨_, rfl⟩
    obtain ⟨z, hz1⟩ : ∃ z, kd c a b = z := ⟨_, rfl⟩
    rw [hz1] at h4 hkd
    rw [hx1, hy1] at hkd
    rw [hx1] at h1 ⊢
    rw [hy1] at h2 ⊢
    repeat' (first | refine zP ?_ | refine zA ?_ | (refine zM ?_; intro _ _) | refine zX ?_ | (refine zC ?_; intro _ _ _ _) | (refine zS ?_; intro _ _) | (apply Ws <;> intro hg))
    rw [show (x : Int) + 2 * (y : Int) = ((z : Nat) : Int) by omega]
    repeat' (first | refine zP ?_ | refine zA ?_ | (refine zM ?_; intro _ _) | refine zX ?_ | (refine zC ?_; intro _ _ _ _) | (refine zS ?_; intro _ _) | (apply Ws <;> intro hg))
    rename_i H3 hH3
    refine Ends.loop ⟨k + 1, l.set z true⟩ (by show ns.length - (k + 1) < ns.length - k; omega) (by repeat' (first | exact .nil | refine .cons rfl ?_)) rfl ⟨hk', by simpa using hll, fun i hi => ?_, hH3⟩
    simp only
    rw [getD_set' (by omega), metB_succ hk', hc, hz1, ← hm i hi]
    by_cases h : i = z
    · rw [if_pos h, h]; simp
    · rw [if_neg h]; simp [show ¬ z = i from fun e => h e.symm]
  · have hkl : k = ns.length := by omega
    subst hkl
    rw [met_clash, ← hm 1 (by omega), ← hm 2 (by omega), ← hm 3 (by omega)]
    obtain ⟨b0, b1, b2, b3, rfl⟩ : ∃ b0 b1 b2 b3, l = [b0, b1, b2, b3] := by
      match l, hll with
      | [b0, b1, b2, b3], _ => exact ⟨b0, b1, b2, b3, rfl⟩
    have hback := hH2.tail
    cases b1 with
    | false =>
      repeat' (first | refine zP ?_ | refine zA ?_ | (refine zM ?_; intro _ _) | refine zX ?_ | (refine zC ?_; intro _ _ _ _) | (refine zS ?_; intro _ _) | (apply Ws <;> intro hg))
      exact Ends.ret1 rfl ⟨rfl, n0 + 1, by omega, hback⟩
    | true =>
      cases b2 with
      | false =>
        repeat' (first | refine zP ?_ | refine zA ?_ | (refine zM ?_; intro _ _) | refine zX ?_ | (refine zC ?_; intro _ _ _ _) | (refine zS ?_; intro _ _) | (apply Ws <;> intro hg))
        exact Ends.ret1 rfl ⟨rfl, n0 + 1, by omega, hback⟩
      | true =>
        repeat' (first | refine zP ?_ | refine zA ?_ | (refine zM ?_; intro _ _) | refine zX ?_ | (refine zC ?_; intro _ _ _ _) | (refine zS ?_; intro _ _) | (apply Ws <;> intro hg))
        exact Ends.ret1 rfl ⟨by cases b3 <;> rfl, n0 + 1, by omega, hback⟩
theorem lhonest_fs (hH : hasH M n0 H) (hS : Sl M 1 v (nodes ns)) (hl : ns.length ≤ 1000) (hb : ∀ x ∈ ns, x < 2 ^ 62) {N : Nat} (hN : N ≤ 61) :
    FS C 40 [.int .i64 (N : Int), v] H (fun e H' => e = .bool (honB N ns) ∧ ∃ n', n0 ≤ n' ∧ hasH M n' H') := by
  refine FS.intro (pf := pf40) rfl rfl rfl ?_
  repeat' (first | refine zP ?_ | refine zA ?_ | (refine zM ?_; intro _ _) | refine zX ?_ | (refine zC ?_; intro _ _ _ _) | (refine zS ?_; intro _ _) | (apply Ws <;> intro hg))
  refine WC.loopX [(0, _), (1, _), (7, _)] (fun s : Nat × Nat => [(8, .int .i64 (s.1 : Int))]) [] (fun s H' => s.1 ≤ N ∧ n0 ≤ s.2 ∧ hasH M s.2 H' ∧ ∀ x y, x < s.1 → y < x → clashB ns x y = false) (fun s => N - s.1) (0, n0) (by repeat' (first | exact .nil | refine .cons rfl ?_)) rfl ⟨Nat.zero_le _, Nat.le_refl _, hH, fun x y h => absurd h (Nat.not_lt_zero _)⟩ ?_
  clear hH
  rintro ⟨k, n1⟩ H1 ⟨hk, hn1, hH1, hno⟩
  simp only at hk hn1 hH1 hno
  dsimp only [List.cons_append, List.nil_append]
  repeat' (first | refine zP ?_ | refine zA ?_ | (refine zM ?_; intro _ _) | refine zX ?_ | (refine zC ?_; intro _ _ _ _) | (refine zS ?_; intro _ _) | (apply Ws <;> intro hg))
  refine WC.condP rfl (fun hlt => ?_) (fun hlt => ?_)
  · have hk' : k < N := by omega
    repeat' (first | refine zP ?_ | refine zA ?_ | (refine zM ?_; intro _ _) | refine zX ?_ | (refine zC ?_; intro _ _ _ _) | (refine zS ?_; intro _ _) | (apply Ws <;> intro hg))
    refine WC.loopX [(0, _), (1, _), (5, _), (7, _), (8, _), (11, _)] (fun s : Nat × Nat => [(12, .int .i64 (s.1 : Int))]) [] (fun s H' => s.1 ≤ k ∧ n0 ≤ s.2 ∧ hasH M s.2 H' ∧ ∀ y, y < s.1 → clashB ns k y = false) (fun s => k - s.1) (0, n1) (by repeat' (first | exact .nil | refine .cons rfl ?_)) rfl ⟨Nat.zero_le _, hn1, hH1, fun x h => absurd h (Nat.not_lt_zero _)⟩ ?_
    clear hH1
    rintro ⟨j, n2⟩ H2 ⟨hj, hn2, hH2, hno2⟩
    simp only at hj hn2 hH2 hno2
    dsimp only [List.cons_append, List.nil_append]
    repeat' (first | refine zP ?_ | refine zA ?_ | (refine zM ?_; intro _ _) | refine zX ?_ | (refine zC ?_; intro _ _ _ _) | (refine zS ?_; intro _ _) | (apply Ws <;> intro hg))
    refine WC.condP rfl (fun hlt2 => ?_) (fun hlt2 => ?_)
    · have hj' : j < k := by omega
      repeat' (first | refine zP ?_ | refine zA ?_ | (refine zM ?_; intro _ _) | refine zX ?_ | (refine zC ?_; intro _ _ _ _) | (refine zS ?_; intro _ _) | (apply Ws <;> intro hg))
      refine WR.call (by first | exact gN | exact gS rfl) rfl rfl (lclash_fs hH2 hS hl hb (a := k) (b := j) (by omega) (by omega)) ?_
      rintro _ H3 ⟨rfl, n3, hn3, hH3⟩
      cases h1 : clashB ns k j with
      | true =>
        repeat' (first | refine zP ?_ | refine zA ?_ | (refine zM ?_; intro _ _) | refine zX ?_ | (refine zC ?_; intro _ _ _ _) | (refine zS ?_; intro _ _) | (apply Ws <;> intro hg))
        refine Ends.ret1 rfl ⟨?_, n3, by omega, hH3⟩
        cases hh : honB N ns with
        | false => rfl
        | true => have := hon_iff.1 hh j k hj' hk'; rw [clash_comm, h1] at this; cases this
      | false =>
        repeat' (first | refine zP ?_ | refine zA ?_ | (refine zM ?_; intro _ _) | refine zX ?_ | (refine zC ?_; intro _ _ _ _) | (refine zS ?_; intro _ _) | (apply Ws <;> intro hg))
        refine Ends.loop (j + 1, n3) (by show k - (j + 1) < k - j; omega) (by repeat' (first | exact .nil | refine .cons rfl ?_)) rfl ⟨hj', by simp only; omega, hH3, fun y h2 => ?_⟩
        replace h2 : y < j + 1 := h2
        rcases Nat.lt_or_ge y j with h4 | h4
        · exact hno2 y h4
        · have : y = j := by omega
          subst this; exact h1
    · repeat' (first | refine zP ?_ | refine zA ?_ | (refine zM ?_; intro _ _) | refine zX ?_ | (refine zC ?_; intro _ _ _ _) | (refine zS ?_; intro _ _) | (apply Ws <;> intro hg))
      refine Ends.loop (k + 1, n2) (by show N - (k + 1) < N - k; omega) (by repeat' (first | exact .nil | refine .cons rfl ?_)) rfl ⟨hk', hn2, hH2, fun x y h1 h2 => ?_⟩
      replace h1 : x < k + 1 := h1
      rcases Nat.lt_or_ge x k with h4 | h4
      · exact hno x y h4 h2
      · have : x = k := by omega
        subst this; exact hno2 y (by omega)
  · repeat' (first | refine zP ?_ | refine zA ?_ | (refine zM ?_; intro _ _) | refine zX ?_ | (refine zC ?_; intro _ _ _ _) | (refine zS ?_; intro _ _) | (apply Ws <;> intro hg))
    refine Ends.ret1 rfl ⟨?_, n1, hn1, hH1⟩
    have : honB N ns = true := hon_iff.2 fun a b h1 h2 => by rw [clash_comm]; exact hno b a (by omega) h1
    rw [this]
end
end Go.Proofs.Ytblopbimchkneaa.Md

namespace Go.Proofs.Ytblopbimchkneaa.Md
open Go Go.Abs Go.Mth
set_option linter.unusedVariables false
set_option linter.unusedSimpArgs false
/-! Models. -/
def xorL (ns : List Nat) (m : Nat) : List Nat := ns.map fun c => c ^^^ m
def fourP (ns : List Nat) (a b : Nat) : Prop := ∀ p q : Bool, ∃ c ∈ ns, c.testBit a = p ∧ c.testBit b = q
/-- The first number of which something holds. -/
def LM (P : Nat → Bool) (B : Nat) (r : Int) : Prop := (∃ k : Nat, k < B ∧ P k = true ∧ (∀ j, j < k → P j = false) ∧ r = k) ∨ ((∀ j, j < B → P j = false) ∧ r = -1)
theorem LM.unique {P : Nat → Bool} {B : Nat} {r s : Int} (h : LM P B r) (h' : LM P B s) : r = s := by
  rcases h with ⟨k, h1, h2, h3, rfl⟩ | ⟨h1, rfl⟩ <;> rcases h' with ⟨k', g1, g2, g3, rfl⟩ | ⟨g1, rfl⟩
  · rcases Nat.lt_trichotomy k k' with h | h | h
    · rw [g3 k h] at h2; cases h2
    · rw [h]
    · rw [h3 k' h] at g2; cases g2
  · rw [g1 k h1] at h2; cases h2
  · rw [h1 k' g1] at g2; cases g2
  · rfl
def ModR (N : Nat) (ns : List Nat) (k e : Int) : Prop := ∃ r, LM (fun m => honB N (xorL ns m)) (2 ^ N) r ∧ k = (if r < 0 then 0 else r) ∧ e = if r < 0 then 12 else 0
attribute [local irreducible] gOK WS WC WR WD Ends FS YS OpV seqK blockK loopK midK retK rdK asgK rangeEnd sat Cell
section
variable {M : HL} {n0 : Nat} {H : Heap} {v : Value} {ns : List Nat}
end
end Go.Proofs.Ytblopbimchkneaa.Md

/- Comparisons of numbers and of lists. -/
namespace Go.Mth
set_option linter.unusedVariables false
def cmpI (a b : Int) : Int := if a < b then -1 else if b < a then 1 else 0
def lexC : List Int → List Int → Int
  | [], [] => 0
  | [], _ :: _ => -1
  | _ :: _, [] => 1
  | a :: l, b :: m => if cmpI a b ≠ 0 then cmpI a b else lexC l m
/-- The shorter one first; of those that are as long, the smaller one. -/
def ordC (a b : List Int) : Int := if cmpI a.length b.length ≠ 0 then cmpI a.length b.length else lexC a b
theorem cmp_neg {a b : Int} : cmpI b a = - cmpI a b := by unfold cmpI; split <;> split <;> (try split) <;> omega
theorem cmp_zero {a b : Int} : cmpI a b = 0 ↔ a = b := by unfold cmpI; split <;> (try split) <;> omega
theorem cmp_lt {a b : Int} : cmpI a b < 0 ↔ a < b := by unfold cmpI; split <;> (try split) <;> omega
theorem lex_neg : ∀ a b : List Int, lexC b a = - lexC a b
  | [], [] => rfl
  | [], _ :: _ => rfl
  | _ :: _, [] => rfl
  | a :: l, b :: m => by
    have h1 := cmp_neg (a := a) (b := b)
    have h2 := lex_neg l m
    simp only [lexC, h2]
    split <;> split <;> omega
theorem lex_zero : ∀ a b : List Int, lexC a b = 0 ↔ a = b
  | [], [] => by simp [lexC]
  | [], _ :: _ => by simp [lexC]
  | _ :: _, [] => by simp [lexC]
  | a :: l, b :: m => by
    have h1 := cmp_zero (a := a) (b := b)
    have h2 := lex_zero l m
    rw [lexC, List.cons.injEq]
    by_cases h : cmpI a b = 0
    · rw [if_neg (by simp [h]), h2, ← h1]; simp [h]
    · rw [if_pos h]; simp [h, ← h1]
theorem lex_trans : ∀ a b c : List Int, lexC a b < 0 → lexC b c < 0 → lexC a c < 0
  | [], [], _, h, _ => by simp [lexC] at h
  | [], _ :: _, [], _, h => by simp [lexC] at h
  | [], _ :: _, _ :: _, _, _ => by simp [lexC]
  | _ :: _, [], _, h, _ => by simp [lexC] at h
  | _ :: _, _ :: _, [], _, h => by simp [lexC] at h
  | a :: l, b :: m, c :: k, h1, h2 => by
    have e1 := cmp_zero (a := a) (b := b)
    have e2 := cmp_zero (a := b) (b := c)
    have e3 := cmp_zero (a := a) (b := c)
    have f1 := cmp_lt (a := a) (b := b)
    have f2 := cmp_lt (a := b) (b := c)
    have f3 := cmp_lt (a := a) (b := c)
    have h3 := lex_trans l m k
    simp only [lexC] at h1 h2 ⊢
    split at h1 <;> split at h2 <;> split <;> first | omega | exact h3 (by omega) (by omega)
theorem ord_neg (a b : List Int) : ordC b a = - ordC a b := by
  have h1 := cmp_neg (a := (a.length : Int)) (b := b.length)
  have h2 := lex_neg a b
  unfold ordC
  split <;> split <;> omega
theorem ord_zero (a b : List Int) : ordC a b = 0 ↔ a = b := by
  have h1 := cmp_zero (a := (a.length : Int)) (b := b.length)
  have h2 := lex_zero a b
  unfold ordC
  by_cases h : cmpI a.length b.length = 0
  · rw [if_neg (by simp [h]), h2]
  · rw [if_pos h]
    refine ⟨fun h3 => absurd h3 h, fun h3 => absurd (h1.2 (by rw [h3])) h⟩
theorem ord_trans {a b c : List Int} (h1 : ordC a b < 0) (h2 : ordC b c < 0) : ordC a c < 0 := by
  have e1 := cmp_zero (a := (a.length : Int)) (b := b.length)
  have e2 := cmp_zero (a := (b.length : Int)) (b := c.length)
  have e3 := cmp_zero (a := (a.length : Int)) (b := c.length)
  have f1 := cmp_lt (a := (a.length : Int)) (b := b.length)
  have f2 := cmp_lt (a := (b.length : Int)) (b := c.length)
  have f3 := cmp_lt (a := (a.length : Int)) (b := c.length)
  have h3 := lex_trans a b c
  unfold ordC at h1 h2 ⊢
  split at h1 <;> split at h2 <;> split <;> first | omega | exact h3 (by omega) (by omega)
end Go.Mth

namespace Go.Proofs.Ytblopbimchkneaa.Md
open Go Go.Abs Go.Mth
set_option linter.unusedVariables false
set_option linter.unusedSimpArgs false
/-! Sets as bits, and the least of them. -/
abbrev IL (l : List Nat) : List Int := l.map fun (x : Nat) => (x : Int)
def bitsL (s k : Nat) : List Nat := (List.range k).filter fun i => s.testBit i
theorem bits_yes {s k : Nat} (h : s.testBit k = true) : bitsL s (k + 1) = bitsL s k ++ [k] := by
  rw [bitsL, List.range_succ, List.filter_append, List.filter_cons_of_pos (by exact h)]; rfl
theorem bits_no {s k : Nat} (h : s.testBit k = false) : bitsL s (k + 1) = bitsL s k := by
  rw [bitsL, List.range_succ, List.filter_append, List.filter_cons_of_neg (by rw [h]; simp), List.filter_nil, List.append_nil]; rfl
theorem bits_len (s k : Nat) : (bitsL s k).length ≤ k := Nat.le_trans (List.length_filter_le _ _) (by simp)
theorem bits_more {s k : Nat} (h : s < 2 ^ k) : ∀ d, bitsL s (k + d) = bitsL s k
  | 0 => rfl
  | d + 1 => by rw [← Nat.add_assoc, bits_no (Nat.testBit_lt_two_pow (Nat.lt_of_lt_of_le h (Nat.pow_le_pow_right (by omega) (by omega)))), bits_more h d]
theorem bits_same {s k n : Nat} (h : s < 2 ^ k) (hn : s < 2 ^ n) : bitsL s k = bitsL s n := by
  rcases Nat.le_total k n with h1 | h1
  · obtain ⟨d, rfl⟩ := Nat.exists_eq_add_of_le h1
    exact (bits_more h d).symm
  · obtain ⟨d, rfl⟩ := Nat.exists_eq_add_of_le h1
    exact bits_more hn d
theorem mem_bits {s k i : Nat} : i ∈ bitsL s k ↔ i < k ∧ s.testBit i = true := by rw [bitsL, List.mem_filter, List.mem_range]
/-- The least of the sets of which something holds, as a list. -/
def LeastR (n : Nat) (P : Nat → Bool) (r : List Nat) : Prop := ∃ s, s < 2 ^ n ∧ P s = true ∧ r = bitsL s n ∧ ∀ t, t < 2 ^ n → P t = true → ¬ ordC (IL (bitsL t n)) (IL r) < 0
theorem IL_inj {l m : List Nat} (h : IL l = IL m) : l = m := by
  have : (IL l).map Int.toNat = (IL m).map Int.toNat := by rw [h]
  rwa [cast_toNat, cast_toNat] at this
theorem LeastR.unique {n : Nat} {P : Nat → Bool} {r q : List Nat} (h : LeastR n P r) (h' : LeastR n P q) : r = q := by
  obtain ⟨s, h1, h2, rfl, h4⟩ := h
  obtain ⟨t, g1, g2, rfl, g4⟩ := h'
  have e1 := h4 t g1 g2
  have e2 := g4 s h1 h2
  rw [ord_neg] at e1
  exact IL_inj ((ord_zero _ _).1 (by omega))
theorem ord_nil {l : List Int} : ¬ ordC l [] < 0 := by
  unfold ordC
  cases l with
  | nil => simp [cmpI, lexC]
  | cons a l =>
    have : cmpI ((a :: l).length : Int) (([] : List Int).length : Int) = 1 := by
      unfold cmpI; simp; omega
    rw [this]; simp
theorem LeastR.nil {n : Nat} {P : Nat → Bool} {r : List Nat} (h : LeastR n P r) : r = [] ↔ P 0 = true := by
  have hp := Nat.two_pow_pos n
  have h0 : bitsL 0 n = [] := by
    rw [bitsL, List.filter_eq_nil_iff]; intro a _; simp
  constructor
  · intro hr
    obtain ⟨s, h1, h2, h3, h4⟩ := h
    have : s = 0 := Nat.eq_of_testBit_eq fun i => by
      rw [Nat.zero_testBit]
      cases hb : s.testBit i with
      | false => rfl
      | true =>
        have hi : i < n := by
          rcases Nat.lt_or_ge i n with h5 | h5
          · exact h5
          · rw [Nat.testBit_lt_two_pow (Nat.lt_of_lt_of_le h1 (Nat.pow_le_pow_right (by omega) h5))] at hb; cases hb
        have : i ∈ bitsL s n := mem_bits.2 ⟨hi, hb⟩
        rw [← h3, hr] at this; cases this
    rw [← this]; exact h2
  · intro hP
    refine h.unique ⟨0, hp, hP, h0.symm, fun t _ _ => ?_⟩
    exact ord_nil
structure FW where
  k : Nat
  v : Value
  s : Nat
  Mx : HL
  n : Nat
attribute [local irreducible] gOK WS WC WR WD Ends FS YS OpV seqK blockK loopK midK retK rdK asgK rangeEnd sat Cell

section
variable {M : HL} {n0 : Nat} {H : Heap} {v w : Value}
theorem isNaN_fs (a : Int) (H : Heap) : FS C 92 [.int .i64 a] H (fun e H' => e = .bool false ∧ H' = H) := by
  refine FS.intro (pf := pf92) rfl rfl rfl ?_
  repeat' (first | refine zP ?_ | refine zA ?_ | (refine zM ?_; intro _ _) | refine zX ?_ | (refine zC ?_; intro _ _ _ _) | (refine zS ?_; intro _ _) | (apply Ws <;> intro hg))
  exact Ends.ret1 rfl ⟨by rw [decide_eq_false (by simp)], rfl⟩
theorem cmpI_fs (a b : Int) (H : Heap) : FS C 82 [.int .i64 a, .int .i64 b] H (fun e H' => e = .int .i64 (cmpI a b) ∧ H' = H) := by
  refine FS.intro (pf := pf82) rfl rfl rfl ?_
  repeat' (first | refine zP ?_ | refine zA ?_ | (refine zM ?_; intro _ _) | refine zX ?_ | (refine zC ?_; intro _ _ _ _) | (refine zS ?_; intro _ _) | (apply Ws <;> intro hg))
  refine WR.call (by first | exact gN | exact gS rfl) rfl rfl (isNaN_fs _ _) ?_
  rintro _ _ ⟨rfl, rfl⟩
  repeat' (first | refine zP ?_ | refine zA ?_ | (refine zM ?_; intro _ _) | refine zX ?_ | (refine zC ?_; intro _ _ _ _) | (refine zS ?_; intro _ _) | (apply Ws <;> intro hg))
  refine WR.call (by first | exact gN | exact gS rfl) rfl rfl (isNaN_fs _ _) ?_
  rintro _ _ ⟨rfl, rfl⟩
  repeat' (first | refine zP ?_ | refine zA ?_ | (refine zM ?_; intro _ _) | refine zX ?_ | (refine zC ?_; intro _ _ _ _) | (refine zS ?_; intro _ _) | (apply Ws <;> intro hg))
  refine WC.condP rfl (fun h1 => ?_) (fun h1 => ?_)
  · repeat' (first | refine zP ?_ | refine zA ?_ | (refine zM ?_; intro _ _) | refine zX ?_ | (refine zC ?_; intro _ _ _ _) | (refine zS ?_; intro _ _) | (apply Ws <;> intro hg))
    exact Ends.ret1 rfl ⟨by rw [cmpI, if_pos h1], rfl⟩
  · repeat' (first | refine zP ?_ | refine zA ?_ | (refine zM ?_; intro _ _) | refine zX ?_ | (refine zC ?_; intro _ _ _ _) | (refine zS ?_; intro _ _) | (apply Ws <;> intro hg))
    refine WC.condP rfl (fun h2 => ?_) (fun h2 => ?_)
    · repeat' (first | refine zP ?_ | refine zA ?_ | (refine zM ?_; intro _ _) | refine zX ?_ | (refine zC ?_; intro _ _ _ _) | (refine zS ?_; intro _ _) | (apply Ws <;> intro hg))
      exact Ends.ret1 rfl ⟨by rw [cmpI, if_neg h1, if_pos h2], rfl⟩
    · repeat' (first | refine zP ?_ | refine zA ?_ | (refine zM ?_; intro _ _) | refine zX ?_ | (refine zC ?_; intro _ _ _ _) | (refine zS ?_; intro _ _) | (apply Ws <;> intro hg))
      exact Ends.ret1 rfl ⟨by rw [cmpI, if_neg h1, if_neg h2], rfl⟩
theorem Or_fs (hH : hasH M n0 H) {x y : Int} (hS : Sl M 1 v (ints [x, y])) : FS C 90 [v] H (fun e H' => e = .int .i64 (if x ≠ 0 then x else y) ∧ H' = H) := by
  refine FS.intro (pf := pf90) rfl rfl rfl ?_
  repeat' (first | refine zP ?_ | refine zA ?_ | (refine zM ?_; intro _ _) | refine zX ?_ | (refine zC ?_; intro _ _ _ _) | (refine zS ?_; intro _ _) | (apply Ws <;> intro hg))
  have h2 : [x, y].length = 2 := rfl
  refine WC.loopX [(3, .int .i64 0), (6, _), (7, _)] (fun k : Nat => [(8, .int .i64 (k : Int))]) [] (fun k H' => H' = H ∧ k ≤ 2 ∧ (1 ≤ k → x = 0) ∧ (2 ≤ k → y = 0)) (fun k => 2 - k) 0 (by repeat' (first | exact .nil | refine .cons rfl ?_)) rfl ⟨rfl, by omega, fun h => by omega, fun h => by omega⟩ ?_
  rintro k _ ⟨rfl, hk, hx, hy⟩
  dsimp only [List.cons_append, List.nil_append]
  repeat' (first | refine zP ?_ | refine zA ?_ | (refine zM ?_; intro _ _) | refine zX ?_ | (refine zC ?_; intro _ _ _ _) | (refine zS ?_; intro _ _) | (apply Ws <;> intro hg))
  refine WC.condP rfl (fun hlt => ?_) (fun hlt => ?_)
  · have hk' : k < 2 := by omega
    repeat' (first | refine zP ?_ | refine zA ?_ | (refine zM ?_; intro _ _) | refine zX ?_ | (refine zC ?_; intro _ _ _ _) | (refine zS ?_; intro _ _) | (apply Ws <;> intro hg))
    have hq : [x, y].getD k 0 = if k = 0 then x else y := by
      rcases (show k = 0 ∨ k = 1 by omega) with rfl | rfl <;> rfl
    rw [hq]
    refine WC.condP rfl (fun hne => ?_) (fun hne => ?_)
    · repeat' (first | refine zP ?_ | refine zA ?_ | (refine zM ?_; intro _ _) | refine zX ?_ | (refine zC ?_; intro _ _ _ _) | (refine zS ?_; intro _ _) | (apply Ws <;> intro hg))
      refine Ends.ret1 rfl ⟨?_, rfl⟩
      by_cases h : k = 0
      · rw [if_pos h] at hne ⊢; rw [if_pos hne]
      · rw [if_neg h, hx (by omega)]; simp
    · repeat' (first | refine zP ?_ | refine zA ?_ | (refine zM ?_; intro _ _) | refine zX ?_ | (refine zC ?_; intro _ _ _ _) | (refine zS ?_; intro _ _) | (apply Ws <;> intro hg))
      refine Ends.loop (k + 1) (by omega) (by repeat' (first | exact .nil | refine .cons rfl ?_)) rfl ⟨rfl, by omega, fun h => ?_, fun h => ?_⟩
      · by_cases h : k = 0
        · rw [if_pos h] at hne; exact Decidable.not_not.1 hne
        · exact hx (by omega)
      · rw [if_neg (by omega)] at hne; exact Decidable.not_not.1 hne
  · have hk2 : k = 2 := by omega
    subst hk2
    repeat' (first | refine zP ?_ | refine zA ?_ | (refine zM ?_; intro _ _) | refine zX ?_ | (refine zC ?_; intro _ _ _ _) | (refine zS ?_; intro _ _) | (apply Ws <;> intro hg))
    exact Ends.ret1 rfl ⟨by rw [hx (by omega), hy (by omega)]; rfl, rfl⟩

theorem Compare_fs (hH : hasH M n0 H) {xs ys : List Int} (hS : Sl M 1 v (ints xs)) (hU : Sl M 1 w (ints ys)) (hx : xs.length ≤ 1000) (hy : ys.length ≤ 1000) :
    FS C 44 [v, w] H (fun e H' => e = .int .i64 (lexC xs ys) ∧ H' = H) := by
  refine FS.intro (pf := pf44) rfl rfl rfl ?_
  repeat' (first | refine zP ?_ | refine zA ?_ | (refine zM ?_; intro _ _) | refine zX ?_ | (refine zC ?_; intro _ _ _ _) | (refine zS ?_; intro _ _) | (apply Ws <;> intro hg))
  refine WC.loopX [(0, _), (1, _), (9, _), (10, _)] (fun k : Nat => [(11, .int .i64 (k : Int))]) [] (fun k H' => H' = H ∧ k ≤ xs.length ∧ k ≤ ys.length ∧ lexC xs ys = lexC (xs.drop k) (ys.drop k)) (fun k => xs.length - k) 0 (by repeat' (first | exact .nil | refine .cons rfl ?_)) rfl ⟨rfl, Nat.zero_le _, Nat.zero_le _, rfl⟩ ?_
  rintro k _ ⟨rfl, hk, hk2, hL⟩
  dsimp only [List.cons_append, List.nil_append]
  repeat' (first | refine zP ?_ | refine zA ?_ | (refine zM ?_; intro _ _) | refine zX ?_ | (refine zC ?_; intro _ _ _ _) | (refine zS ?_; intro _ _) | (apply Ws <;> intro hg))
  refine WC.condP rfl (fun hlt => ?_) (fun hlt => ?_)
  · have hk' : k < xs.length := by omega
    rw [List.drop_eq_getElem_cons hk'] at hL
    repeat' (first | refine zP ?_ | refine zA ?_ | (refine zM ?_; intro _ _) | refine zX ?_ | (refine zC ?_; intro _ _ _ _) | (refine zS ?_; intro _ _) | (apply Ws <;> intro hg))
    refine WC.condP rfl (fun hge => ?_) (fun hge => ?_)
    · have hke : k = ys.length := by omega
      repeat' (first | refine zP ?_ | refine zA ?_ | (refine zM ?_; intro _ _) | refine zX ?_ | (refine zC ?_; intro _ _ _ _) | (refine zS ?_; intro _ _) | (apply Ws <;> intro hg))
      refine Ends.ret1 rfl ⟨?_, rfl⟩
      rw [hL, show ys.drop k = [] from List.drop_eq_nil_of_le (by omega)]; rfl
    · have hk3 : k < ys.length := by omega
      rw [List.drop_eq_getElem_cons hk3, lexC, ← getD_eq (a := 0) hk', ← getD_eq (a := 0) hk3] at hL
      repeat' (first | refine zP ?_ | refine zA ?_ | (refine zM ?_; intro _ _) | refine zX ?_ | (refine zC ?_; intro _ _ _ _) | (refine zS ?_; intro _ _) | (apply Ws <;> intro hg))
      refine WR.call (by first | exact gN | exact gS rfl) rfl rfl (cmpI_fs _ _ _) ?_
      rintro _ _ ⟨rfl, rfl⟩
      repeat' (first | refine zP ?_ | refine zA ?_ | (refine zM ?_; intro _ _) | refine zX ?_ | (refine zC ?_; intro _ _ _ _) | (refine zS ?_; intro _ _) | (apply Ws <;> intro hg))
      refine WC.condP rfl (fun hne => ?_) (fun hne => ?_)
      · repeat' (first | refine zP ?_ | refine zA ?_ | (refine zM ?_; intro _ _) | refine zX ?_ | (refine zC ?_; intro _ _ _ _) | (refine zS ?_; intro _ _) | (apply Ws <;> intro hg))
        exact Ends.ret1 rfl ⟨by rw [hL, if_pos hne], rfl⟩
      · repeat' (first | refine zP ?_ | refine zA ?_ | (refine zM ?_; intro _ _) | refine zX ?_ | (refine zC ?_; intro _ _ _ _) | (refine zS ?_; intro _ _) | (apply Ws <;> intro hg))
        exact Ends.loop (k + 1) (by omega) (by repeat' (first | exact .nil | refine .cons rfl ?_)) rfl ⟨rfl, by omega, by omega, by rw [hL, if_neg hne]⟩
  · have hkl : k = xs.length := by omega
    rw [show xs.drop k = [] from List.drop_eq_nil_of_le (by omega)] at hL
    repeat' (first | refine zP ?_ | refine zA ?_ | (refine zM ?_; intro _ _) | refine zX ?_ | (refine zC ?_; intro _ _ _ _) | (refine zS ?_; intro _ _) | (apply Ws <;> intro hg))
    refine WC.condP rfl (fun h3 => ?_) (fun h3 => ?_)
    · rw [List.drop_eq_getElem_cons (show k < ys.length by omega)] at hL
      repeat' (first | refine zP ?_ | refine zA ?_ | (refine zM ?_; intro _ _) | refine zX ?_ | (refine zC ?_; intro _ _ _ _) | (refine zS ?_; intro _ _) | (apply Ws <;> intro hg))
      exact Ends.ret1 rfl ⟨by rw [hL]; rfl, rfl⟩
    · rw [show ys.drop k = [] from List.drop_eq_nil_of_le (by omega)] at hL
      repeat' (first | refine zP ?_ | refine zA ?_ | (refine zM ?_; intro _ _) | refine zX ?_ | (refine zC ?_; intro _ _ _ _) | (refine zS ?_; intro _ _) | (apply Ws <;> intro hg))
      exact Ends.ret1 rfl ⟨by rw [hL]; rfl, rfl⟩

theorem numbersOf_fs (hH : hasH M n0 H) {s n : Nat} (hs : s < 2 ^ n) (hn : n ≤ 61) :
    FS C 89 [.int .i64 (s : Int)] H (fun e H' => ∃ Mx n', Own 3 1 e (nodes (bitsL s n)) Mx ∧ n0 ≤ n' ∧ hasH (Mx ++ M) n' H') := by
  have hs62 : s < 2 ^ 62 := Nat.lt_of_lt_of_le hs (Nat.pow_le_pow_right (by omega) (by omega))
  refine FS.intro (pf := pf89) rfl rfl rfl ?_
  repeat' (first | refine zP ?_ | refine zA ?_ | (refine zM ?_; intro _ _) | refine zX ?_ | (refine zC ?_; intro _ _ _ _) | (refine zS ?_; intro _ _) | (apply Ws <;> intro hg))
  refine WC.loopX [(0, _)] (fun s : NV => [(3, s.v), (4, .int .i64 (s.k : Int))]) []
    (fun z H' => z.k ≤ n ∧ n0 ≤ z.n ∧ Own 3 1 z.v (nodes (bitsL s z.k)) z.Mx ∧ hasH (z.Mx ++ M) z.n H') (fun z => n - z.k) ⟨0, .slice none 0 0, [], [], n0⟩ (by repeat' (first | exact .nil | refine .cons rfl ?_)) rfl
    ⟨Nat.zero_le _, Nat.le_refl _, .nil, hH⟩ ?_
  clear hH
  rintro ⟨k, w, _, Mx, n1⟩ H1 ⟨hk, hn1, hO, hH1⟩
  simp only at hk hn1 hO hH1
  dsimp only [List.cons_append, List.nil_append]
  repeat' (first | refine zP ?_ | refine zA ?_ | (refine zM ?_; intro _ _) | refine zX ?_ | (refine zC ?_; intro _ _ _ _) | (refine zS ?_; intro _ _) | (apply Ws <;> intro hg))
  refine WR.op (by first | exact gN | exact gS rfl) rfl (OpV.shrN rfl rfl (by show k ≤ 64; omega)) ?_
  obtain ⟨z, hz⟩ : ∃ z, s >>> k = z := ⟨_, rfl⟩
  rw [hz]
  repeat' (first | refine zP ?_ | refine zA ?_ | (refine zM ?_; intro _ _) | refine zX ?_ | (refine zC ?_; intro _ _ _ _) | (refine zS ?_; intro _ _) | (apply Ws <;> intro hg))
  refine WC.condP rfl (fun hlt => ?_) (fun hlt => ?_)
  · have hk' : k < n := by
      rcases Nat.lt_or_ge k n with h | h
      · exact h
      · have : s >>> k = 0 := Nat.shiftRight_eq_zero _ _ (Nat.lt_of_lt_of_le hs (Nat.pow_le_pow_right (by omega) h))
        omega
    repeat' (first | refine zP ?_ | refine zA ?_ | (refine zM ?_; intro _ _) | refine zX ?_ | (refine zC ?_; intro _ _ _ _) | (refine zS ?_; intro _ _) | (apply Ws <;> intro hg))
    refine WR.call (by first | exact gN | exact gS rfl) rfl rfl (has_fs hs62 (by omega) _) ?_
    rintro _ H2 ⟨rfl, rfl⟩
    cases hb : s.testBit k with
    | true =>
      repeat' (first | refine zP ?_ | refine zA ?_ | (refine zM ?_; intro _ _) | refine zX ?_ | (refine zC ?_; intro _ _ _ _) | (refine zS ?_; intro _ _) | (apply Ws <;> intro hg))
      refine WR.append1F [] Mx M rfl rfl rfl rfl hO hH1 (new := [.int .i64 (k : Int)]) (by rfl) rfl rfl (Nat.le_refl _) (by omega) (by have := bits_len s k; simp; omega) fun v3 M3 n3 H3 hO3 hH3 hn3 => ?_
      repeat' (first | refine zP ?_ | refine zA ?_ | (refine zM ?_; intro _ _) | refine zX ?_ | (refine zC ?_; intro _ _ _ _) | (refine zS ?_; intro _ _) | (apply Ws <;> intro hg))
      refine Ends.loop ⟨k + 1, v3, [], M3, n3⟩ (by show n - (k + 1) < n - k; omega) (by repeat' (first | exact .nil | refine .cons rfl ?_)) rfl ⟨hk', by simp only; omega, ?_, hH3⟩
      simp only
      rw [bits_yes hb]
      simpa [nodes] using hO3
    | false =>
      repeat' (first | refine zP ?_ | refine zA ?_ | (refine zM ?_; intro _ _) | refine zX ?_ | (refine zC ?_; intro _ _ _ _) | (refine zS ?_; intro _ _) | (apply Ws <;> intro hg))
      refine Ends.loop ⟨k + 1, w, [], Mx, n1⟩ (by show n - (k + 1) < n - k; omega) (by repeat' (first | exact .nil | refine .cons rfl ?_)) rfl ⟨hk', hn1, ?_, hH1⟩
      simp only
      rw [bits_no hb]; exact hO
  · have hz0 : s >>> k = 0 := by omega
    have hsk : s < 2 ^ k := by
      rw [Nat.shiftRight_eq_div_pow] at hz0
      exact Nat.lt_of_div_eq_zero (Nat.two_pow_pos k) hz0
    rw [bits_same hsk hs] at hO
    repeat' (first | refine zP ?_ | refine zA ?_ | (refine zM ?_; intro _ _) | refine zX ?_ | (refine zC ?_; intro _ _ _ _) | (refine zS ?_; intro _ _) | (apply Ws <;> intro hg))
    exact Ends.ret1 rfl ⟨Mx, n1, hO, hn1, hH1⟩
end
end Go.Proofs.Ytblopbimchkneaa.Md

namespace Go.Proofs.Ytblopbimchkneaa.Md
open Go Go.Abs Go.Mth
set_option linter.unusedVariables false
set_option linter.unusedSimpArgs false
def leaveTo (ns : List Nat) (s k : Nat) : List Nat := ((List.range k).filter fun i => !s.testBit i).map fun i => ns.getD i 0
def leave (ns : List Nat) (s : Nat) : List Nat := leaveTo ns s ns.length
def wearL (ns : List Nat) (s : Nat) : List Nat := ns.map fun c => c ^^^ (c &&& s)
theorem leave_yes {ns : List Nat} {s k : Nat} (h : s.testBit k = false) : leaveTo ns s (k + 1) = leaveTo ns s k ++ [ns.getD k 0] := by
  rw [leaveTo, List.range_succ, List.filter_append, List.filter_cons_of_pos (by simp [h]), List.map_append]; rfl
theorem leave_no {ns : List Nat} {s k : Nat} (h : s.testBit k = true) : leaveTo ns s (k + 1) = leaveTo ns s k := by
  rw [leaveTo, List.range_succ, List.filter_append, List.filter_cons_of_neg (by simp [h]), List.filter_nil, List.append_nil]; rfl
theorem leave_len (ns : List Nat) (s k : Nat) : (leaveTo ns s k).length ≤ k := by
  rw [leaveTo, List.length_map]; exact Nat.le_trans (List.length_filter_le _ _) (by simp)
theorem leave_mem {ns : List Nat} {s x : Nat} (h : x ∈ leave ns s) : x ∈ ns := by
  obtain ⟨i, hi, rfl⟩ := List.mem_map.1 h
  exact getD_mem (List.mem_range.1 (List.mem_filter.1 hi).1)
theorem wear_lt {ns : List Nat} {s N : Nat} (h : ∀ x ∈ ns, x < 2 ^ N) : ∀ x ∈ wearL ns s, x < 2 ^ N := fun x hx => by
  obtain ⟨c, hc, rfl⟩ := List.mem_map.1 hx
  exact Nat.xor_lt_two_pow (h c hc) (Nat.lt_of_le_of_lt Nat.and_le_left (h c hc))
theorem full_bit {n i : Nat} (h : i < n) : (2 ^ n - 1).testBit i = true := by rw [Nat.testBit_two_pow_sub_one]; simpa using h
theorem leave_all (ns : List Nat) : leave ns (2 ^ ns.length - 1) = [] := by
  unfold leave leaveTo
  rw [List.map_eq_nil_iff, List.filter_eq_nil_iff]
  intro i hi
  rw [full_bit (List.mem_range.1 hi)]; simp
theorem hon_nil (N : Nat) : honB N [] = true := hon_iff.2 fun a b _ _ => rfl
theorem hon_zero {N : Nat} {l : List Nat} (h : ∀ x ∈ l, x = 0) : honB N l = true := hon_iff.2 fun a b _ _ => by
  cases hc : clashB l a b with
  | false => rfl
  | true =>
    obtain ⟨⟨c, hc, h1, _⟩, _⟩ := clash_iff.1 hc
    rw [h c hc, Nat.zero_testBit] at h1; cases h1
theorem wear_all {ns : List Nat} {N : Nat} (h : ∀ x ∈ ns, x < 2 ^ N) : honB N (wearL ns (2 ^ N - 1)) = true := hon_zero fun x hx => by
  obtain ⟨c, hc, rfl⟩ := List.mem_map.1 hx
  rw [Nat.and_two_pow_sub_one_of_lt_two_pow (h c hc), Nat.xor_self]
theorem leave_zero (ns : List Nat) : leave ns 0 = ns := by
  have e : (List.range ns.length).filter (fun i => !(0 : Nat).testBit i) = List.range ns.length := List.filter_eq_self.2 fun i _ => by simp
  rw [leave, leaveTo, e]
  refine List.ext_getElem (by simp) fun i h1 h2 => ?_
  rw [List.getElem_map, List.getElem_range, getD_eq h2]
theorem wear_zero (ns : List Nat) : wearL ns 0 = ns := by
  rw [wearL]
  have : ns.map (fun c => c ^^^ (c &&& 0)) = ns.map id := List.map_congr_left fun c _ => by simp
  rw [this, List.map_id]
def forgP (N : Nat) (ns : List Nat) (s : Nat) : Bool := honB N (leave ns s)
def wornP (N : Nat) (ns : List Nat) (s : Nat) : Bool := honB N (wearL ns s)
theorem forg_all (N : Nat) (ns : List Nat) : forgP N ns (2 ^ ns.length - 1) = true := by rw [forgP, leave_all, hon_nil]
theorem worn_all {N : Nat} {ns : List Nat} (h : ∀ x ∈ ns, x < 2 ^ N) : wornP N ns (2 ^ N - 1) = true := wear_all h
attribute [local irreducible] gOK WS WC WR WD Ends FS YS OpV seqK blockK loopK midK retK rdK asgK rangeEnd sat Cell

section
variable {M : HL} {n0 : Nat} {H : Heap} {v w : Value} {ns : List Nat}
set_option maxHeartbeats 1000000 in
theorem fewest_fs {g : FuncId} {vb : List Value} (hH : hasH M n0 H) {n : Nat} (hn : n ≤ 8) {P : Nat → Bool} (hall : P (2 ^ n - 1) = true)
    (hR : ∀ s M' n1 H1, s < 2 ^ n → (∀ p ∈ M, p ∈ M') → hasH M' n1 H1 → FS C g ([] ++ [.int .i64 (s : Int)] ++ vb) H1 (fun e H' => e = .bool (P s) ∧ ∃ n', n1 ≤ n' ∧ hasH M' n' H')) :
    FS C 69 [.int .i64 (n : Int), .func (.func g) #[] vb.toArray] H (fun e H' => ∃ r Mx n', LeastR n P r ∧ Own 3 1 e (nodes r) Mx ∧ n0 ≤ n' ∧ hasH (Mx ++ M) n' H') := by
  have hB1 : 1 ≤ 2 ^ n := Nat.two_pow_pos n
  have hB256 : 2 ^ n ≤ 256 := Nat.pow_le_pow_right (n := 2) (by omega) hn
  have hp63 := pow_lt_63 (N := n) (by omega)
  refine FS.intro (pf := pf69) rfl rfl rfl ?_
  repeat' (first | refine zP ?_ | refine zA ?_ | (refine zM ?_; intro _ _) | refine zX ?_ | (refine zC ?_; intro _ _ _ _) | (refine zS ?_; intro _ _) | (apply Ws <;> intro hg))
  refine WR.op (by first | exact gN | exact gS rfl) rfl (OpV.shl1 rfl rfl (by show n ≤ 64; omega) hp63) ?_
  obtain ⟨B, hB⟩ : ∃ B, 2 ^ n = B := ⟨_, rfl⟩
  have hlt : ∀ {s}, s < B → s < 2 ^ n := fun h => by omega
  rw [hB] at hall hB1 hB256 hp63 ⊢
  simp only [hB] at hR
  repeat' (first | refine zP ?_ | refine zA ?_ | (refine zM ?_; intro _ _) | refine zX ?_ | (refine zC ?_; intro _ _ _ _) | (refine zS ?_; intro _ _) | (apply Ws <;> intro hg))
  rw [show (B : Int) - 1 = ((B - 1 : Nat) : Int) by omega]
  refine WR.call (by first | exact gN | exact gS rfl) rfl rfl (numbersOf_fs hH (hlt (s := B - 1) (by omega)) (by omega)) ?_
  rintro v0 H1 ⟨Mx, n1, hO, hn1, hH1⟩
  repeat' (first | refine zP ?_ | refine zA ?_ | (refine zM ?_; intro _ _) | refine zX ?_ | (refine zC ?_; intro _ _ _ _) | (refine zS ?_; intro _ _) | (apply Ws <;> intro hg))
  refine WR.op (by first | exact gN | exact gS rfl) rfl (OpV.shl1 rfl rfl (by show n ≤ 64; omega) (by rw [hB]; exact hp63)) ?_
  rw [hB]
  repeat' (first | refine zP ?_ | refine zA ?_ | (refine zM ?_; intro _ _) | refine zX ?_ | (refine zC ?_; intro _ _ _ _) | (refine zS ?_; intro _ _) | (apply Ws <;> intro hg))
  refine WC.loopX [(0, _), (1, _), (14, _)] (fun s : FW => [(5, s.v), (15, .int .i64 (s.k : Int))]) []
    (fun z H' => z.k ≤ B ∧ n0 ≤ z.n ∧ z.s < B ∧ P z.s = true ∧ Own 3 1 z.v (nodes (bitsL z.s n)) z.Mx ∧ hasH (z.Mx ++ M) z.n H' ∧ ∀ t, t < z.k → P t = true → ¬ ordC (IL (bitsL t n)) (IL (bitsL z.s n)) < 0) (fun z => B - z.k) ⟨0, v0, B - 1, Mx, n1⟩ (by repeat' (first | exact .nil | refine .cons rfl ?_)) rfl
    ⟨Nat.zero_le _, hn1, by simp only; omega, hall, hO, hH1, fun t h => absurd h (Nat.not_lt_zero _)⟩ ?_
  clear hH1 hO hn1
  rintro ⟨k, bv, s, Mx, n1⟩ H1 ⟨hk, hn1, hs, hPs, hO, hH1, hmin⟩
  simp only at hk hn1 hs hPs hO hH1 hmin
  dsimp only [List.cons_append, List.nil_append]
  repeat' (first | refine zP ?_ | refine zA ?_ | (refine zM ?_; intro _ _) | refine zX ?_ | (refine zC ?_; intro _ _ _ _) | (refine zS ?_; intro _ _) | (apply Ws <;> intro hg))
  refine WC.condP rfl (fun hlt1 => ?_) (fun hlt1 => ?_)
  · have hk' : k < B := by omega
    repeat' (first | refine zP ?_ | refine zA ?_ | (refine zM ?_; intro _ _) | refine zX ?_ | (refine zC ?_; intro _ _ _ _) | (refine zS ?_; intro _ _) | (apply Ws <;> intro hg))
    refine WR.call (by first | exact gN | exact gS rfl) rfl rfl (numbersOf_fs hH1 (hlt hk') (by omega)) ?_
    rintro wv H2 ⟨Mn, n2, hOn, hn2, hH2⟩
    have hSn := hOn.sl (Mx ++ M)
    have hSb := (hO.sl M).mono (M' := Mn ++ (Mx ++ M)) fun p hp => List.mem_append_right _ hp
    have hl1 := bits_len k n
    have hl2 := bits_len s n
    repeat' (first | refine zP ?_ | refine zA ?_ | (refine zM ?_; intro _ _) | refine zX ?_ | (refine zC ?_; intro _ _ _ _) | (refine zS ?_; intro _ _) | (apply Ws <;> intro hg))
    refine WR.call (by first | exact gN | exact gS rfl) rfl rfl (cmpI_fs _ _ _) ?_
    rintro _ _ ⟨rfl, rfl⟩
    repeat' (first | refine zP ?_ | refine zA ?_ | (refine zM ?_; intro _ _) | refine zX ?_ | (refine zC ?_; intro _ _ _ _) | (refine zS ?_; intro _ _) | (apply Ws <;> intro hg))
    refine WR.call (by first | exact gN | exact gS rfl) rfl rfl (Compare_fs hH2 (xs := IL (bitsL k n)) (ys := IL (bitsL s n)) (by rw [← nodesI]; exact hSn) (by rw [← nodesI]; exact hSb) (by simp; omega) (by simp; omega)) ?_
    rintro _ _ ⟨rfl, rfl⟩
    have hord : ordC (IL (bitsL k n)) (IL (bitsL s n)) = if cmpI ((bitsL k n).length : Int) ((bitsL s n).length : Int) ≠ 0 then cmpI ((bitsL k n).length : Int) ((bitsL s n).length : Int) else lexC (IL (bitsL k n)) (IL (bitsL s n)) := by
      unfold ordC; rw [List.length_map, List.length_map]
    obtain ⟨x, hx⟩ : ∃ x, cmpI ((bitsL k n).length : Int) ((bitsL s n).length : Int) = x := ⟨_, rfl⟩
    obtain ⟨y, hy⟩ : ∃ y, lexC (IL (bitsL k n)) (IL (bitsL s n)) = y := ⟨_, rfl⟩
    rw [hx, hy] at hord ⊢
    refine WR.bldS (by first | exact gN | exact gS rfl) rfl hH2 (vs := [(0, .int .i64 x), (1, .int .i64 y)]) rfl (cs := [.int .i64 x, .int .i64 y]) (by rfl) rfl fun H3 hH3 => ?_
    refine WR.call (by first | exact gN | exact gS rfl) rfl rfl (Or_fs hH3 (x := x) (y := y) (.row (lo := 0) (cs := [.int .i64 x, .int .i64 y]) (.head _) (.row _ _ _ _) (Nat.zero_le _) rfl rfl (by simp) (.inr ⟨2, rfl, Nat.le_refl _⟩))) ?_
    rintro _ _ ⟨rfl, rfl⟩
    rw [← hord]
    replace hH3 := hH3.tail
    clear hH2 hx hy hord
    obtain ⟨o, ho⟩ : ∃ o, ordC (IL (bitsL k n)) (IL (bitsL s n)) = o := ⟨_, rfl⟩
    rw [ho]
    have hkeep : P k = false ∨ ¬ o < 0 → ∀ t, t < k + 1 → P t = true → ¬ ordC (IL (bitsL t n)) (IL (bitsL s n)) < 0 := fun h t ht hPt => by
      rcases Nat.lt_or_ge t k with h1 | h1
      · exact hmin t h1 hPt
      · have : t = k := by omega
        subst this
        rcases h with h | h
        · rw [h] at hPt; cases hPt
        · rw [ho]; exact h
    have hdrop := hH3.sub (List.sublist_append_right Mn (Mx ++ M))
    by_cases hbef : o < 0
    · repeat' (first | refine zP ?_ | refine zA ?_ | (refine zM ?_; intro _ _) | refine zX ?_ | (refine zC ?_; intro _ _ _ _) | (refine zS ?_; intro _ _) | refine zO ?_ | (apply Ws <;> intro hg))
      refine WR.callV (by first | exact gN | exact gS rfl) rfl rfl rfl (hR k _ _ _ hk' (fun p hp => List.mem_append_right _ (List.mem_append_right _ hp)) hH3) ?_
      rintro _ H4 ⟨rfl, n4, hn4, hH4⟩
      cases hPk : P k with
      | true =>
        repeat' (first | refine zP ?_ | refine zA ?_ | (refine zM ?_; intro _ _) | refine zX ?_ | (refine zC ?_; intro _ _ _ _) | (refine zS ?_; intro _ _) | (apply Ws <;> intro hg))
        refine Ends.loop ⟨k + 1, wv, k, Mn, n4⟩ (by show B - (k + 1) < B - k; omega) (by repeat' (first | exact .nil | refine .cons rfl ?_)) rfl ⟨hk', by simp only; omega, hk', hPk, hOn, hH4.sub (List.Sublist.append_left (List.sublist_append_right Mx M) Mn), fun t ht hPt h => ?_⟩
        replace ht : t < k + 1 := ht
        simp only at h
        rcases Nat.lt_or_ge t k with h1 | h1
        · exact hmin t h1 hPt (ord_trans h (by rw [ho]; exact hbef))
        · have : t = k := by omega
          subst this
          rw [(ord_zero _ _).2 rfl] at h; omega
      | false =>
        repeat' (first | refine zP ?_ | refine zA ?_ | (refine zM ?_; intro _ _) | refine zX ?_ | (refine zC ?_; intro _ _ _ _) | (refine zS ?_; intro _ _) | (apply Ws <;> intro hg))
        exact Ends.loop ⟨k + 1, bv, s, Mx, n4⟩ (by show B - (k + 1) < B - k; omega) (by repeat' (first | exact .nil | refine .cons rfl ?_)) rfl ⟨hk', by simp only; omega, hs, hPs, hO, hH4.sub (List.sublist_append_right Mn (Mx ++ M)), hkeep (.inl hPk)⟩
    · repeat' (first | refine zP ?_ | refine zA ?_ | (refine zM ?_; intro _ _) | refine zX ?_ | (refine zC ?_; intro _ _ _ _) | (refine zS ?_; intro _ _) | refine zO ?_ | (apply Ws <;> intro hg))
      exact Ends.loop ⟨k + 1, bv, s, Mx, n2 + 1⟩ (by show B - (k + 1) < B - k; omega) (by repeat' (first | exact .nil | refine .cons rfl ?_)) rfl ⟨hk', by simp only; omega, hs, hPs, hO, hdrop, hkeep (.inr hbef)⟩
  · have hkB : k = B := by omega
    repeat' (first | refine zP ?_ | refine zA ?_ | (refine zM ?_; intro _ _) | refine zX ?_ | (refine zC ?_; intro _ _ _ _) | (refine zS ?_; intro _ _) | (apply Ws <;> intro hg))
    exact Ends.ret1 rfl ⟨bitsL s n, Mx, n1, ⟨s, by omega, hPs, rfl, fun t ht => hmin t (by omega)⟩, hO, hn1, hH1⟩

theorem leaveOut_fs (hH : hasH M n0 H) (hS : Sl M 1 v (nodes ns)) (hl : ns.length ≤ 61) {s : Nat} (hs : s < 2 ^ 62) :
    FS C 71 [v, .int .i64 (s : Int)] H (fun e H' => ∃ Mx n', Own 3 1 e (nodes (leave ns s)) Mx ∧ n0 ≤ n' ∧ hasH (Mx ++ M) n' H') := by
  refine FS.intro (pf := pf71) rfl rfl rfl ?_
  repeat' (first | refine zP ?_ | refine zA ?_ | (refine zM ?_; intro _ _) | refine zX ?_ | (refine zC ?_; intro _ _ _ _) | (refine zS ?_; intro _ _) | (apply Ws <;> intro hg))
  refine WC.loopX [(1, _), (8, _), (9, _)] (fun s : NV => [(5, s.v), (10, .int .i64 (s.k : Int))]) []
    (fun z H' => z.k ≤ ns.length ∧ n0 ≤ z.n ∧ Own 3 1 z.v (nodes (leaveTo ns s z.k)) z.Mx ∧ hasH (z.Mx ++ M) z.n H') (fun z => ns.length - z.k) ⟨0, .slice none 0 0, [], [], n0⟩ (by repeat' (first | exact .nil | refine .cons rfl ?_)) rfl
    ⟨Nat.zero_le _, Nat.le_refl _, .nil, hH⟩ ?_
  clear hH
  rintro ⟨k, w, _, Mx, n1⟩ H1 ⟨hk, hn1, hO, hH1⟩
  simp only at hk hn1 hO hH1
  have hS1 := hS.mono (M' := Mx ++ M) fun p hp => List.mem_append_right _ hp
  dsimp only [List.cons_append, List.nil_append]
  repeat' (first | refine zP ?_ | refine zA ?_ | (refine zM ?_; intro _ _) | refine zX ?_ | (refine zC ?_; intro _ _ _ _) | (refine zS ?_; intro _ _) | (apply Ws <;> intro hg))
  refine WC.condP rfl (fun hlt => ?_) (fun hlt => ?_)
  · have hk' : k < ns.length := by omega
    repeat' (first | refine zP ?_ | refine zA ?_ | (refine zM ?_; intro _ _) | refine zX ?_ | (refine zC ?_; intro _ _ _ _) | (refine zS ?_; intro _ _) | (apply Ws <;> intro hg))
    refine WR.call (by first | exact gN | exact gS rfl) rfl rfl (has_fs hs (by omega) _) ?_
    rintro _ H2 ⟨rfl, rfl⟩
    cases hb : s.testBit k with
    | false =>
      repeat' (first | refine zP ?_ | refine zA ?_ | (refine zM ?_; intro _ _) | refine zX ?_ | (refine zC ?_; intro _ _ _ _) | (refine zS ?_; intro _ _) | (apply Ws <;> intro hg))
      refine WR.append1F [] Mx M rfl rfl rfl rfl hO hH1 (new := [.int .i64 ((ns.getD k 0 : Nat) : Int)]) (by rfl) rfl rfl (Nat.le_refl _) (by omega) (by have := leave_len ns s k; simp; omega) fun v3 M3 n3 H3 hO3 hH3 hn3 => ?_
      repeat' (first | refine zP ?_ | refine zA ?_ | (refine zM ?_; intro _ _) | refine zX ?_ | (refine zC ?_; intro _ _ _ _) | (refine zS ?_; intro _ _) | (apply Ws <;> intro hg))
      refine Ends.loop ⟨k + 1, v3, [], M3, n3⟩ (by show ns.length - (k + 1) < ns.length - k; omega) (by repeat' (first | exact .nil | refine .cons rfl ?_)) rfl ⟨hk', by simp only; omega, ?_, hH3⟩
      simp only
      rw [leave_yes hb]
      simpa [nodes] using hO3
    | true =>
      repeat' (first | refine zP ?_ | refine zA ?_ | (refine zM ?_; intro _ _) | refine zX ?_ | (refine zC ?_; intro _ _ _ _) | (refine zS ?_; intro _ _) | (apply Ws <;> intro hg))
      refine Ends.loop ⟨k + 1, w, [], Mx, n1⟩ (by show ns.length - (k + 1) < ns.length - k; omega) (by repeat' (first | exact .nil | refine .cons rfl ?_)) rfl ⟨hk', hn1, ?_, hH1⟩
      simp only
      rw [leave_no hb]; exact hO
  · have hkl : ns.length = k := by omega
    subst hkl
    repeat' (first | refine zP ?_ | refine zA ?_ | (refine zM ?_; intro _ _) | refine zX ?_ | (refine zC ?_; intro _ _ _ _) | (refine zS ?_; intro _ _) | (apply Ws <;> intro hg))
    exact Ends.ret1 rfl ⟨Mx, n1, hO, hn1, hH1⟩
theorem wear_fs (hH : hasH M n0 H) (hS : Sl M 1 v (nodes ns)) (hl : ns.length ≤ 1000) (hb : ∀ x ∈ ns, x < 2 ^ 62) {m : Nat} (hm : m < 2 ^ 62) :
    FS C 75 [v, .int .i64 (m : Int)] H (fun e H' => ∃ Mx n', Own 3 1 e (nodes (wearL ns m)) Mx ∧ n0 ≤ n' ∧ hasH (Mx ++ M) n' H') := by
  refine FS.intro (pf := pf75) rfl rfl rfl ?_
  repeat' (first | refine zP ?_ | refine zA ?_ | (refine zM ?_; intro _ _) | refine zX ?_ | (refine zC ?_; intro _ _ _ _) | (refine zS ?_; intro _ _) | (apply Ws <;> intro hg))
  refine WC.loopX [(1, _), (8, _), (9, _)] (fun s : NV => [(5, s.v), (10, .int .i64 (s.k : Int))]) []
    (fun s H' => s.k ≤ ns.length ∧ n0 ≤ s.n ∧ Own 3 1 s.v (nodes (wearL (ns.take s.k) m)) s.Mx ∧ hasH (s.Mx ++ M) s.n H') (fun s => ns.length - s.k) ⟨0, .slice none 0 0, [], [], n0⟩ (by repeat' (first | exact .nil | refine .cons rfl ?_)) rfl
    ⟨Nat.zero_le _, Nat.le_refl _, .nil, hH⟩ ?_
  clear hH
  rintro ⟨k, w, _, Mx, n1⟩ H1 ⟨hk, hn1, hO, hH1⟩
  simp only at hk hn1 hO hH1
  have hS1 := hS.mono (M' := Mx ++ M) fun p hp => List.mem_append_right _ hp
  dsimp only [List.cons_append, List.nil_append]
  repeat' (first | refine zP ?_ | refine zA ?_ | (refine zM ?_; intro _ _) | refine zX ?_ | (refine zC ?_; intro _ _ _ _) | (refine zS ?_; intro _ _) | (apply Ws <;> intro hg))
  refine WC.condP rfl (fun hlt => ?_) (fun hlt => ?_)
  · have hk' : k < ns.length := by omega
    have hx := hb _ (getD_mem (a := 0) hk')
    repeat' (first | refine zP ?_ | refine zA ?_ | (refine zM ?_; intro _ _) | refine zX ?_ | (refine zC ?_; intro _ _ _ _) | (refine zS ?_; intro _ _) | (apply Ws <;> intro hg))
    refine WR.op (by first | exact gN | exact gS rfl) rfl (OpV.andNotN rfl rfl (by show ns.getD k 0 < 2 ^ 63; omega) (by show m < 2 ^ 63; omega)) ?_
    refine WR.append1F [] Mx M rfl rfl rfl rfl hO hH1 (new := [.int .i64 ((ns.getD k 0 ^^^ (ns.getD k 0 &&& m) : Nat) : Int)]) (by rfl) rfl rfl (Nat.le_refl _) (by omega) (by simp [wearL]; omega) fun v3 M3 n3 H3 hO3 hH3 hn3 => ?_
    repeat' (first | refine zP ?_ | refine zA ?_ | (refine zM ?_; intro _ _) | refine zX ?_ | (refine zC ?_; intro _ _ _ _) | (refine zS ?_; intro _ _) | (apply Ws <;> intro hg))
    refine Ends.loop ⟨k + 1, v3, [], M3, n3⟩ (by show ns.length - (k + 1) < ns.length - k; omega) (by repeat' (first | exact .nil | refine .cons rfl ?_)) rfl ⟨hk', by simp only; omega, ?_, hH3⟩
    simp only
    rw [List.take_succ_eq_append_getElem hk', wearL, List.map_append, ← getD_eq (a := 0) hk']
    simpa [nodes, wearL] using hO3
  · have hkl : ns.length = k := by omega
    subst hkl
    rw [List.take_length] at hO
    repeat' (first | refine zP ?_ | refine zA ?_ | (refine zM ?_; intro _ _) | refine zX ?_ | (refine zC ?_; intro _ _ _ _) | (refine zS ?_; intro _ _) | (apply Ws <;> intro hg))
    exact Ends.ret1 rfl ⟨Mx, n1, hO, hn1, hH1⟩

theorem forgC_fs (hH : hasH M n0 H) (hS : Sl M 1 v (nodes ns)) (hl : ns.length ≤ 8) {N : Nat} (hN : N ≤ 6) (hb : ∀ x ∈ ns, x < 2 ^ N) {s b3 b4 : Nat} (hs : s < 2 ^ ns.length)
    (h3 : (b3, Ch.row 3 0 0 [.int .i64 (N : Int)]) ∈ M) (h4 : (b4, Ch.row 22 0 0 [v]) ∈ M) :
    FS C 70 [.int .i64 (s : Int), .pointer (some ⟨b3, 0, some 0⟩), .pointer (some ⟨b4, 0, some 0⟩)] H (fun e H' => e = .bool (forgP N ns s) ∧ ∃ n', n0 ≤ n' ∧ hasH M n' H') := by
  have hs62 : s < 2 ^ 62 := Nat.lt_of_lt_of_le hs (Nat.pow_le_pow_right (by omega) (by omega))
  refine FS.intro (pf := pf70) rfl rfl rfl ?_
  repeat' (first | refine zP ?_ | refine zA ?_ | (refine zM ?_; intro _ _) | refine zX ?_ | (refine zC ?_; intro _ _ _ _) | (refine zS ?_; intro _ _) | (apply Ws <;> intro hg))
  refine WC.regionD ?_
  repeat' (first | refine zD ?_ | (refine zE ?_; intro _ _ _ _))
  refine WD.call (by first | exact gN | exact gS rfl) rfl rfl (leaveOut_fs hH hS (by omega) hs62) ?_
  rintro w H1 ⟨Mx, n1, hO, hn1, hH1⟩
  have h3' := List.mem_append_right Mx h3
  have h4' := List.mem_append_right Mx h4
  refine ⟨zSt, ?_⟩
  refine WD.call (by first | exact gN | exact gS rfl) rfl rfl (honest_fs hH1 (hO.sl M) (by have := leave_len ns s ns.length; show (leaveTo ns s ns.length).length ≤ 61; omega) (lt_62 hN fun x hx => hb x (leave_mem hx)) (by omega)) ?_
  rintro _ H2 ⟨rfl, n2, hn2, hH2⟩
  refine ⟨zSt, ?_⟩
  repeat' (first | refine zD ?_ | (refine zE ?_; intro _ _ _ _))
  refine WD.nil ?_
  repeat' (first | refine zP ?_ | refine zA ?_ | (refine zM ?_; intro _ _) | refine zX ?_ | (refine zC ?_; intro _ _ _ _) | (refine zS ?_; intro _ _) | (apply Ws <;> intro hg))
  exact Ends.ret1 rfl ⟨rfl, n2, by omega, hH2.sub (List.sublist_append_right Mx M)⟩
theorem wornC_fs (hH : hasH M n0 H) (hS : Sl M 1 v (nodes ns)) (hl : ns.length ≤ 8) {N : Nat} (hN : N ≤ 6) (hb : ∀ x ∈ ns, x < 2 ^ N) {s b3 b4 : Nat} (hs : s < 2 ^ N)
    (h3 : (b3, Ch.row 3 0 0 [.int .i64 (N : Int)]) ∈ M) (h4 : (b4, Ch.row 22 0 0 [v]) ∈ M) :
    FS C 74 [.int .i64 (s : Int), .pointer (some ⟨b3, 0, some 0⟩), .pointer (some ⟨b4, 0, some 0⟩)] H (fun e H' => e = .bool (wornP N ns s) ∧ ∃ n', n0 ≤ n' ∧ hasH M n' H') := by
  have hs62 : s < 2 ^ 62 := Nat.lt_of_lt_of_le hs (Nat.pow_le_pow_right (by omega) (by omega))
  refine FS.intro (pf := pf74) rfl rfl rfl ?_
  repeat' (first | refine zP ?_ | refine zA ?_ | (refine zM ?_; intro _ _) | refine zX ?_ | (refine zC ?_; intro _ _ _ _) | (refine zS ?_; intro _ _) | (apply Ws <;> intro hg))
  refine WC.regionD ?_
  repeat' (first | refine zD ?_ | (refine zE ?_; intro _ _ _ _))
  refine WD.call (by first | exact gN | exact gS rfl) rfl rfl (wear_fs hH hS (by omega) (lt_62 hN hb) hs62) ?_
  rintro w H1 ⟨Mx, n1, hO, hn1, hH1⟩
  have h3' := List.mem_append_right Mx h3
  have h4' := List.mem_append_right Mx h4
  refine ⟨zSt, ?_⟩
  refine WD.call (by first | exact gN | exact gS rfl) rfl rfl (honest_fs hH1 (hO.sl M) (by simp [wearL]; omega) (lt_62 hN (wear_lt hb)) (by omega)) ?_
  rintro _ H2 ⟨rfl, n2, hn2, hH2⟩
  refine ⟨zSt, ?_⟩
  repeat' (first | refine zD ?_ | (refine zE ?_; intro _ _ _ _))
  refine WD.nil ?_
  repeat' (first | refine zP ?_ | refine zA ?_ | (refine zM ?_; intro _ _) | refine zX ?_ | (refine zC ?_; intro _ _ _ _) | (refine zS ?_; intro _ _) | (apply Ws <;> intro hg))
  exact Ends.ret1 rfl ⟨rfl, n2, by omega, hH2.sub (List.sublist_append_right Mx M)⟩
end
end Go.Proofs.Ytblopbimchkneaa.Md

namespace Go.Proofs.Ytblopbimchkneaa.Md
open Go Go.Abs Go.Mth
set_option linter.unusedVariables false
set_option linter.unusedSimpArgs false
attribute [local irreducible] gOK WS WC WR WD Ends FS YS OpV seqK blockK loopK midK retK rdK asgK rangeEnd sat Cell
section
variable {M : HL} {n0 : Nat} {H : Heap} {v w : Value} {ns : List Nat}
theorem same_fs (hH : hasH M n0 H) {xs ys : List Nat} (hS : Sl M 1 v (nodes xs)) (hU : Sl M 1 w (nodes ys)) (hx : xs.length ≤ 1000) (hy : ys.length ≤ 1000) :
    FS C 29 [v, w] H (fun e H' => e = .bool (decide (xs = ys)) ∧ H' = H) := by
  refine FS.intro (pf := pf29) rfl rfl rfl ?_
  repeat' (first | refine zP ?_ | refine zA ?_ | (refine zM ?_; intro _ _) | refine zX ?_ | (refine zC ?_; intro _ _ _ _) | (refine zS ?_; intro _ _) | (apply Ws <;> intro hg))
  refine WC.condP rfl (fun hne => ?_) (fun hne => ?_)
  · repeat' (first | refine zP ?_ | refine zA ?_ | (refine zM ?_; intro _ _) | refine zX ?_ | (refine zC ?_; intro _ _ _ _) | (refine zS ?_; intro _ _) | (apply Ws <;> intro hg))
    exact Ends.ret1 rfl ⟨by rw [decide_eq_false (fun h => hne (by rw [h]))], rfl⟩
  have hle : xs.length = ys.length := by omega
  repeat' (first | refine zP ?_ | refine zA ?_ | (refine zM ?_; intro _ _) | refine zX ?_ | (refine zC ?_; intro _ _ _ _) | (refine zS ?_; intro _ _) | (apply Ws <;> intro hg))
  refine WC.loopX [(0, _), (1, _)] (fun k : Nat => [(5, .int .i64 (k : Int))]) [] (fun k H' => H' = H ∧ k ≤ xs.length ∧ ∀ j, j < k → xs.getD j 0 = ys.getD j 0) (fun k => xs.length - k) 0 (by repeat' (first | exact .nil | refine .cons rfl ?_)) rfl ⟨rfl, Nat.zero_le _, fun j h => absurd h (Nat.not_lt_zero _)⟩ ?_
  rintro k H' ⟨rfl, hk, hno⟩
  dsimp only [List.cons_append, List.nil_append]
  repeat' (first | refine zP ?_ | refine zA ?_ | (refine zM ?_; intro _ _) | refine zX ?_ | (refine zC ?_; intro _ _ _ _) | (refine zS ?_; intro _ _) | (apply Ws <;> intro hg))
  refine WC.condP rfl (fun hlt => ?_) (fun hlt => ?_)
  · have hk' : k < xs.length := by omega
    have hk2 : k < ys.length := by omega
    repeat' (first | refine zP ?_ | refine zA ?_ | (refine zM ?_; intro _ _) | refine zX ?_ | (refine zC ?_; intro _ _ _ _) | (refine zS ?_; intro _ _) | (apply Ws <;> intro hg))
    refine WC.condP rfl (fun hd => ?_) (fun hd => ?_)
    · repeat' (first | refine zP ?_ | refine zA ?_ | (refine zM ?_; intro _ _) | refine zX ?_ | (refine zC ?_; intro _ _ _ _) | (refine zS ?_; intro _ _) | (apply Ws <;> intro hg))
      exact Ends.ret1 rfl ⟨by rw [decide_eq_false (fun h => hd (by rw [h]))], rfl⟩
    · repeat' (first | refine zP ?_ | refine zA ?_ | (refine zM ?_; intro _ _) | refine zX ?_ | (refine zC ?_; intro _ _ _ _) | (refine zS ?_; intro _ _) | (apply Ws <;> intro hg))
      refine Ends.loop (k + 1) (by omega) (by repeat' (first | exact .nil | refine .cons rfl ?_)) rfl ⟨rfl, hk', fun j hj => ?_⟩
      rcases Nat.lt_or_ge j k with h | h
      · exact hno j h
      · have : j = k := by omega
        subst this; omega
  · repeat' (first | refine zP ?_ | refine zA ?_ | (refine zM ?_; intro _ _) | refine zX ?_ | (refine zC ?_; intro _ _ _ _) | (refine zS ?_; intro _ _) | (apply Ws <;> intro hg))
    exact Ends.ret1 rfl ⟨by rw [decide_eq_true (ext_getD (a := 0) hle fun i hi => hno i (by omega))], rfl⟩

theorem Forged_fs (hH : hasH M n0 H) (hS : Sl M 1 v (nodes ns)) (hl : ns.length ≤ 8) {N : Nat} (hN1 : 1 ≤ N) (hN : N ≤ 6) (hb : ∀ x ∈ ns, x < 2 ^ N) :
    FS C 30 [.int .i64 (N : Int), v] H (fun e H' => ∃ r u Mx n', e = .tuple #[u, .int .i64 0] ∧ LeastR ns.length (forgP N ns) r ∧ Own 3 1 u (nodes r) Mx ∧ n0 ≤ n' ∧ hasH (Mx ++ M) n' H') := by
  obtain ⟨av, cv, hv⟩ := hS.len
  rw [List.length_map] at hv
  subst hv
  refine FS.intro (pf := pf30) rfl rfl rfl ?_
  repeat' (first | refine zP ?_ | refine zA ?_ | (refine zM ?_; intro _ _) | refine zX ?_ | (refine zC ?_; intro _ _ _ _) | (refine zS ?_; intro _ _) | (apply Ws <;> intro hg))
  rename_i Ha hHa Hb hHb
  have h3 : (n0, Ch.row 3 0 0 [.int .i64 (N : Int)]) ∈ (n0 + 1, Ch.row 22 0 0 [.slice av ns.length cv]) :: (n0, Ch.row 3 0 0 [.int .i64 (N : Int)]) :: M := .tail _ (.head _)
  have h4 : (n0 + 1, Ch.row 22 0 0 [.slice av ns.length cv]) ∈ (n0 + 1, Ch.row 22 0 0 [.slice av ns.length cv]) :: (n0, Ch.row 3 0 0 [.int .i64 (N : Int)]) :: M := .head _
  replace hS := (hS.cons (p := (n0, Ch.row 3 0 0 [.int .i64 (N : Int)]))).cons (p := (n0 + 1, Ch.row 22 0 0 [.slice av ns.length cv]))
  have hback : ∀ {Mx : HL} {n' : Nat} {H' : Heap}, hasH (Mx ++ ((n0 + 1, Ch.row 22 0 0 [.slice av ns.length cv]) :: (n0, Ch.row 3 0 0 [.int .i64 (N : Int)]) :: M)) n' H' → hasH (Mx ++ M) n' H' := fun h => h.sub (List.Sublist.append_left ((List.sublist_cons_self _ _).trans (List.sublist_cons_self _ _)) _)
  generalize (n0 + 1, Ch.row 22 0 0 [.slice av ns.length cv]) :: (n0, Ch.row 3 0 0 [.int .i64 (N : Int)]) :: M = U at hHb hS h3 h4 hback
  clear hHa hH
  have hSI : Unit → Sl U 1 (.slice av ns.length cv) (ints (IL ns)) := fun _ => by rw [← nodesI]; exact hS
  repeat' (first | refine zP ?_ | refine zA ?_ | (refine zM ?_; intro _ _) | refine zX ?_ | (refine zC ?_; intro _ _ _ _) | (refine zS ?_; intro _ _) | (apply Ws <;> intro hg))
  refine WR.call (by first | exact gN | exact gS rfl) rfl rfl (Check_fs hHb (hSI ()) (by simp; omega) _) ?_
  rintro _ H1 ⟨rfl, rfl⟩
  rw [casts_intro hN1 hN hl hb]
  repeat' (first | refine zP ?_ | refine zA ?_ | (refine zM ?_; intro _ _) | refine zX ?_ | (refine zC ?_; intro _ _ _ _) | (refine zS ?_; intro _ _) | (apply Ws <;> intro hg))
  refine WR.call (by first | exact gN | exact gS rfl) rfl rfl (fewest_fs (g := 70) (vb := [.pointer (some ⟨n0, 0, some 0⟩), .pointer (some ⟨n0 + 1, 0, some 0⟩)]) hHb hl (forg_all N ns) fun s M' n1 H1 hs hM hH1 => forgC_fs hH1 (hS.mono hM) hl hN hb hs (hM _ h3) (hM _ h4)) ?_
  rintro u H2 ⟨r, Mx, n2, hr, hO, hn2, hH2⟩
  repeat' (first | refine zP ?_ | refine zA ?_ | (refine zM ?_; intro _ _) | refine zX ?_ | (refine zC ?_; intro _ _ _ _) | (refine zS ?_; intro _ _) | (apply Ws <;> intro hg))
  exact Ends.ret2 rfl rfl ⟨r, u, Mx, n2, rfl, hr, hO, by omega, hback hH2⟩
theorem Worn_fs (hH : hasH M n0 H) (hS : Sl M 1 v (nodes ns)) (hl : ns.length ≤ 8) {N : Nat} (hN1 : 1 ≤ N) (hN : N ≤ 6) (hb : ∀ x ∈ ns, x < 2 ^ N) :
    FS C 32 [.int .i64 (N : Int), v] H (fun e H' => ∃ r u Mx n', e = .tuple #[u, .int .i64 0] ∧ LeastR N (wornP N ns) r ∧ Own 3 1 u (nodes r) Mx ∧ n0 ≤ n' ∧ hasH (Mx ++ M) n' H') := by
  obtain ⟨av, cv, hv⟩ := hS.len
  rw [List.length_map] at hv
  subst hv
  refine FS.intro (pf := pf32) rfl rfl rfl ?_
  repeat' (first | refine zP ?_ | refine zA ?_ | (refine zM ?_; intro _ _) | refine zX ?_ | (refine zC ?_; intro _ _ _ _) | (refine zS ?_; intro _ _) | (apply Ws <;> intro hg))
  rename_i Ha hHa Hb hHb
  have h3 : (n0, Ch.row 3 0 0 [.int .i64 (N : Int)]) ∈ (n0 + 1, Ch.row 22 0 0 [.slice av ns.length cv]) :: (n0, Ch.row 3 0 0 [.int .i64 (N : Int)]) :: M := .tail _ (.head _)
  have h4 : (n0 + 1, Ch.row 22 0 0 [.slice av ns.length cv]) ∈ (n0 + 1, Ch.row 22 0 0 [.slice av ns.length cv]) :: (n0, Ch.row 3 0 0 [.int .i64 (N : Int)]) :: M := .head _
  replace hS := (hS.cons (p := (n0, Ch.row 3 0 0 [.int .i64 (N : Int)]))).cons (p := (n0 + 1, Ch.row 22 0 0 [.slice av ns.length cv]))
  have hback : ∀ {Mx : HL} {n' : Nat} {H' : Heap}, hasH (Mx ++ ((n0 + 1, Ch.row 22 0 0 [.slice av ns.length cv]) :: (n0, Ch.row 3 0 0 [.int .i64 (N : Int)]) :: M)) n' H' → hasH (Mx ++ M) n' H' := fun h => h.sub (List.Sublist.append_left ((List.sublist_cons_self _ _).trans (List.sublist_cons_self _ _)) _)
  generalize (n0 + 1, Ch.row 22 0 0 [.slice av ns.length cv]) :: (n0, Ch.row 3 0 0 [.int .i64 (N : Int)]) :: M = U at hHb hS h3 h4 hback
  clear hHa hH
  have hSI : Unit → Sl U 1 (.slice av ns.length cv) (ints (IL ns)) := fun _ => by rw [← nodesI]; exact hS
  repeat' (first | refine zP ?_ | refine zA ?_ | (refine zM ?_; intro _ _) | refine zX ?_ | (refine zC ?_; intro _ _ _ _) | (refine zS ?_; intro _ _) | (apply Ws <;> intro hg))
  refine WR.call (by first | exact gN | exact gS rfl) rfl rfl (Check_fs hHb (hSI ()) (by simp; omega) _) ?_
  rintro _ H1 ⟨rfl, rfl⟩
  rw [casts_intro hN1 hN hl hb]
  repeat' (first | refine zP ?_ | refine zA ?_ | (refine zM ?_; intro _ _) | refine zX ?_ | (refine zC ?_; intro _ _ _ _) | (refine zS ?_; intro _ _) | (apply Ws <;> intro hg))
  refine WR.call (by first | exact gN | exact gS rfl) rfl rfl (fewest_fs (g := 74) (vb := [.pointer (some ⟨n0, 0, some 0⟩), .pointer (some ⟨n0 + 1, 0, some 0⟩)]) hHb (n := N) (by omega) (worn_all hb) fun s M' n1 H1 hs hM hH1 => wornC_fs hH1 (hS.mono hM) hl hN hb hs (hM _ h3) (hM _ h4)) ?_
  rintro u H2 ⟨r, Mx, n2, hr, hO, hn2, hH2⟩
  repeat' (first | refine zP ?_ | refine zA ?_ | (refine zM ?_; intro _ _) | refine zX ?_ | (refine zC ?_; intro _ _ _ _) | (refine zS ?_; intro _ _) | (apply Ws <;> intro hg))
  exact Ends.ret2 rfl rfl ⟨r, u, Mx, n2, rfl, hr, hO, by omega, hback hH2⟩
end
end Go.Proofs.Ytblopbimchkneaa.Md

namespace Go.Proofs.Ytblopbimchkneaa.Md
open Go Go.Abs Go.Mth
set_option linter.unusedVariables false
set_option linter.unusedSimpArgs false
def fourB (ns : List Nat) (a b : Nat) : Bool := metB ns a b ns.length 0 && metB ns a b ns.length 1 && metB ns a b ns.length 2 && metB ns a b ns.length 3
theorem LM.step {P : Nat → Bool} {k : Nat} {r : Int} (h : LM P k r) (hr : 0 ≤ r ∨ P k = false) : LM P (k + 1) r := by
  rcases h with ⟨w, h1, h2, h3, rfl⟩ | ⟨h1, rfl⟩
  · exact .inl ⟨w, by omega, h2, h3, rfl⟩
  · rcases hr with h | h
    · omega
    · refine .inr ⟨fun j hj => ?_, rfl⟩
      rcases Nat.lt_or_ge j k with h4 | h4
      · exact h1 j h4
      · have : j = k := by omega
        subst this; exact h
theorem LM.now {P : Nat → Bool} {k : Nat} {r : Int} (h : LM P k r) (hr : r < 0) (hk : P k = true) : LM P (k + 1) (k : Int) := by
  rcases h with ⟨w, h1, h2, h3, rfl⟩ | ⟨h1, rfl⟩
  · omega
  · exact .inl ⟨k, by omega, hk, h1, rfl⟩
theorem LM.some {P : Nat → Bool} {k j : Nat} {r : Int} (h : LM P k r) (hj : j < k) (hp : P j = true) : 0 ≤ r := by
  rcases h with ⟨w, h1, h2, h3, rfl⟩ | ⟨h1, rfl⟩
  · omega
  · rw [h1 j hj] at hp; cases hp
theorem LM.none {P : Nat → Bool} {k : Nat} {r : Int} (h : LM P k r) (hp : ∀ j, j < k → P j = false) : r = -1 := by
  rcases h with ⟨w, h1, h2, h3, rfl⟩ | ⟨h1, rfl⟩
  · rw [hp w h1] at h2; cases h2
  · rfl
theorem bit_eq1 (c a : Nat) : decide (((bitN c a : Nat) : Int) = 1) = c.testBit a := by unfold bitN; cases c.testBit a <;> rfl
theorem bit_eq0 (c a : Nat) : decide (((bitN c a : Nat) : Int) = 0) = !c.testBit a := by unfold bitN; cases c.testBit a <;> rfl
structure LS where
  k : Nat
  n : Nat
  f : Bool
structure LW where
  k : Nat
  n : Nat
  w : Int
attribute [local irreducible] gOK WS WC WR WD Ends FS YS OpV seqK blockK loopK midK retK rdK asgK rangeEnd sat Cell
section
variable {M : HL} {n0 : Nat} {H : Heap} {v : Value} {ns : List Nat}
end
end Go.Proofs.Ytblopbimchkneaa.Md

namespace Go.Proofs.Ytblopbimchkneaa.Md
open Go Go.Abs Go.Mth
set_option linter.unusedVariables false
set_option linter.unusedSimpArgs false
theorem ord_len_lt {a b : List Int} (h : a.length < b.length) : ordC a b < 0 := by
  have : cmpI (a.length : Int) (b.length : Int) = -1 := by unfold cmpI; rw [if_pos (by omega)]
  unfold ordC; rw [this, if_pos (by decide)]; decide
theorem ord_len_gt {a b : List Int} (h : b.length < a.length) : ¬ ordC a b < 0 := by
  have : cmpI (a.length : Int) (b.length : Int) = 1 := by unfold cmpI; rw [if_neg (by omega), if_pos (by omega)]
  unfold ordC; rw [this, if_pos (by decide)]; decide
theorem ord_len_eq {a b : List Int} (h : a.length = b.length) : ordC a b = lexC a b := by
  have : cmpI (a.length : Int) (b.length : Int) = 0 := cmp_zero.2 (by omega)
  unfold ordC; rw [this]; simp
structure GW where
  k : Nat
  v : Value
  s : Nat
  f : Bool
  b : List Nat
  Mx : HL
  n : Nat
attribute [local irreducible] gOK WS WC WR WD Ends FS YS OpV seqK blockK loopK midK retK rdK asgK rangeEnd sat Cell
section
variable {M : HL} {n0 : Nat} {H : Heap} {v w : Value} {ns : List Nat}
set_option maxHeartbeats 2000000 in
theorem least_fs {g : FuncId} {vb : List Value} (hH : hasH M n0 H) {n : Nat} (hn : n ≤ 8) {P : Nat → Bool} (hall : P (2 ^ n - 1) = true)
    (hR : ∀ s M' n1 H1, s < 2 ^ n → (∀ p ∈ M, p ∈ M') → hasH M' n1 H1 → FS C g ([] ++ [.int .i64 (s : Int)] ++ vb) H1 (fun e H' => e = .bool (P s) ∧ ∃ n', n1 ≤ n' ∧ hasH M' n' H')) :
    FS C 43 [.int .i64 (n : Int), .func (.func g) #[] vb.toArray] H (fun e H' => ∃ r Mx n', LeastR n P r ∧ Own 3 1 e (nodes r) Mx ∧ n0 ≤ n' ∧ hasH (Mx ++ M) n' H') := by
  have hB1 : 1 ≤ 2 ^ n := Nat.two_pow_pos n
  have hB256 : 2 ^ n ≤ 256 := Nat.pow_le_pow_right (n := 2) (by omega) hn
  have hp63 := pow_lt_63 (N := n) (by omega)
  refine FS.intro (pf := pf43) rfl rfl rfl ?_
  repeat' (first | refine zP ?_ | refine zA ?_ | (refine zM ?_; intro _ _) | refine zX ?_ | (refine zC ?_; intro _ _ _ _) | (refine zS ?_; intro _ _) | (apply Ws <;> intro hg))
  refine WR.op (by first | exact gN | exact gS rfl) rfl (OpV.shl1 rfl rfl (by show n ≤ 64; omega) hp63) ?_
  obtain ⟨B, hB⟩ : ∃ B, 2 ^ n = B := ⟨_, rfl⟩
  have hlt : ∀ {s}, s < B → s < 2 ^ n := fun h => by omega
  rw [hB] at hall hB1 hB256 hp63 ⊢
  simp only [hB] at hR
  repeat' (first | refine zP ?_ | refine zA ?_ | (refine zM ?_; intro _ _) | refine zX ?_ | (refine zC ?_; intro _ _ _ _) | (refine zS ?_; intro _ _) | (apply Ws <;> intro hg))
  refine WC.loopX [(0, _), (1, _), (11, _)] (fun s : GW => [(5, s.v), (6, .bool s.f), (12, .int .i64 (s.k : Int))]) []
    (fun z H' => z.k ≤ B ∧ n0 ≤ z.n ∧ Own 3 1 z.v (nodes z.b) z.Mx ∧ z.b.length ≤ n ∧ hasH (z.Mx ++ M) z.n H' ∧ (z.f = false → ∀ t, t < z.k → P t = false) ∧ (z.f = true → z.s < B ∧ P z.s = true ∧ z.b = bitsL z.s n ∧ ∀ t, t < z.k → P t = true → ¬ ordC (IL (bitsL t n)) (IL z.b) < 0)) (fun z => B - z.k) ⟨0, .slice none 0 0, 0, false, [], [], n0⟩ (by repeat' (first | exact .nil | refine .cons rfl ?_)) rfl
    ⟨Nat.zero_le _, Nat.le_refl _, .nil, Nat.zero_le _, hH, fun _ t h => absurd h (Nat.not_lt_zero _), fun h => (by cases h)⟩ ?_
  clear hH
  rintro ⟨k, bv, s, f, b, Mx, n1⟩ H1 ⟨hk, hn1, hO, hbl, hH1, hf0, hf1⟩
  simp only at hk hn1 hO hbl hH1 hf0 hf1
  dsimp only [List.cons_append, List.nil_append]
  repeat' (first | refine zP ?_ | refine zA ?_ | (refine zM ?_; intro _ _) | refine zX ?_ | (refine zC ?_; intro _ _ _ _) | (refine zS ?_; intro _ _) | (apply Ws <;> intro hg))
  refine WC.condP rfl (fun hlt1 => ?_) (fun hlt1 => ?_)
  · have hk' : k < B := by omega
    have hk62 : k < 2 ^ 62 := by omega
    repeat' (first | refine zP ?_ | refine zA ?_ | (refine zM ?_; intro _ _) | refine zX ?_ | (refine zC ?_; intro _ _ _ _) | (refine zS ?_; intro _ _) | (apply Ws <;> intro hg))
    refine WC.loopX [(0, _), (1, _), (5, _), (6, _), (7, _), (11, _), (12, _), (15, _)] (fun s : NV => [(8, s.v), (16, .int .i64 (s.k : Int))]) []
      (fun z H' => z.k ≤ n ∧ n0 ≤ z.n ∧ Own 3 1 z.v (nodes (bitsL k z.k)) z.Mx ∧ hasH (z.Mx ++ (Mx ++ M)) z.n H') (fun z => n - z.k) ⟨0, .slice none 0 0, [], [], n1⟩ (by repeat' (first | exact .nil | refine .cons rfl ?_)) rfl
      ⟨Nat.zero_le _, hn1, .nil, hH1⟩ ?_
    clear hH1
    rintro ⟨i, lv, _, Mn, n2⟩ H2 ⟨hi, hn2, hOn, hH2⟩
    simp only at hi hn2 hOn hH2
    dsimp only [List.cons_append, List.nil_append]
    repeat' (first | refine zP ?_ | refine zA ?_ | (refine zM ?_; intro _ _) | refine zX ?_ | (refine zC ?_; intro _ _ _ _) | (refine zS ?_; intro _ _) | (apply Ws <;> intro hg))
    refine WC.condP rfl (fun hlt2 => ?_) (fun hlt2 => ?_)
    · have hi' : i < n := by omega
      repeat' (first | refine zP ?_ | refine zA ?_ | (refine zM ?_; intro _ _) | refine zX ?_ | (refine zC ?_; intro _ _ _ _) | (refine zS ?_; intro _ _) | (apply Ws <;> intro hg))
      refine WR.op (by first | exact gN | exact gS rfl) rfl (OpV.shrN rfl rfl (by show i ≤ 64; omega)) ?_
      refine WR.op (by first | exact gN | exact gS rfl) rfl (OpV.andN (b := 1) rfl rfl (by show k >>> i < 2 ^ 63; exact Nat.lt_of_le_of_lt (Nat.shiftRight_le k i) (by omega)) (by decide)) ?_
      rw [shr_one]
      repeat' (first | refine zP ?_ | refine zA ?_ | (refine zM ?_; intro _ _) | refine zX ?_ | (refine zC ?_; intro _ _ _ _) | (refine zS ?_; intro _ _) | (apply Ws <;> intro hg))
      rw [bit_eq1]
      cases hb : k.testBit i with
      | true =>
        repeat' (first | refine zP ?_ | refine zA ?_ | (refine zM ?_; intro _ _) | refine zX ?_ | (refine zC ?_; intro _ _ _ _) | (refine zS ?_; intro _ _) | (apply Ws <;> intro hg))
        refine WR.append1F [] Mn (Mx ++ M) rfl rfl rfl rfl hOn hH2 (new := [.int .i64 (i : Int)]) (by rfl) rfl rfl (Nat.le_refl _) (by omega) (by have := bits_len k i; simp; omega) fun v3 M3 n3 H3 hO3 hH3 hn3 => ?_
        repeat' (first | refine zP ?_ | refine zA ?_ | (refine zM ?_; intro _ _) | refine zX ?_ | (refine zC ?_; intro _ _ _ _) | (refine zS ?_; intro _ _) | (apply Ws <;> intro hg))
        refine Ends.loop ⟨i + 1, v3, [], M3, n3⟩ (by show n - (i + 1) < n - i; omega) (by repeat' (first | exact .nil | refine .cons rfl ?_)) rfl ⟨hi', by simp only; omega, ?_, hH3⟩
        simp only
        rw [bits_yes hb]
        simpa [nodes] using hO3
      | false =>
        repeat' (first | refine zP ?_ | refine zA ?_ | (refine zM ?_; intro _ _) | refine zX ?_ | (refine zC ?_; intro _ _ _ _) | (refine zS ?_; intro _ _) | (apply Ws <;> intro hg))
        refine Ends.loop ⟨i + 1, lv, [], Mn, n2⟩ (by show n - (i + 1) < n - i; omega) (by repeat' (first | exact .nil | refine .cons rfl ?_)) rfl ⟨hi', hn2, ?_, hH2⟩
        simp only
        rw [bits_no hb]; exact hOn
    · have hin : n = i := by omega
      subst hin
      have hdrop : ∀ {n' H'}, hasH (Mn ++ (Mx ++ M)) n' H' → hasH (Mx ++ M) n' H' := fun h => h.sub (List.sublist_append_right Mn (Mx ++ M))
      have hnew : ∀ {n' H'}, hasH (Mn ++ (Mx ++ M)) n' H' → hasH (Mn ++ M) n' H' := fun h => h.sub (List.Sublist.append_left (List.sublist_append_right Mx M) Mn)
      have hSn := hOn.sl (Mx ++ M)
      have hSb := (hO.sl M).mono (M' := Mn ++ (Mx ++ M)) fun p hp => List.mem_append_right _ hp
      have hl1 := bits_len k n
      obtain ⟨l, hld⟩ : ∃ l, bitsL k n = l := ⟨_, rfl⟩
      have hone1 := hSn.one_
      rw [hld] at hSn hl1 hOn
      repeat' (first | refine zP ?_ | refine zA ?_ | (refine zM ?_; intro _ _) | refine zX ?_ | (refine zC ?_; intro _ _ _ _) | (refine zS ?_; intro _ _) | (apply Ws <;> intro hg))
      refine WR.callV (by first | exact gN | exact gS rfl) rfl rfl rfl (hR k _ _ _ hk' (fun p hp => List.mem_append_right _ (List.mem_append_right _ hp)) hH2) ?_
      rintro _ H4 ⟨rfl, n4, hn4, hH4⟩
      clear hH2
      have kept : ∀ {n5 H5}, n4 ≤ n5 → (P k = false ∨ ¬ ordC (IL l) (IL b) < 0) → (f = false → P k = false) → hasH (Mn ++ (Mx ++ M)) n5 H5 →
          (fun (z : GW) H' => z.k ≤ B ∧ n0 ≤ z.n ∧ Own 3 1 z.v (nodes z.b) z.Mx ∧ z.b.length ≤ n ∧ hasH (z.Mx ++ M) z.n H' ∧ (z.f = false → ∀ t, t < z.k → P t = false) ∧ (z.f = true → z.s < B ∧ P z.s = true ∧ z.b = bitsL z.s n ∧ ∀ t, t < z.k → P t = true → ¬ ordC (IL (bitsL t n)) (IL z.b) < 0)) ⟨k + 1, bv, s, f, b, Mx, n5⟩ H5 := by
        intro n5 H5 h5 hc hff hH5
        refine ⟨hk', by simp only; omega, hO, hbl, hdrop hH5, fun h t ht => ?_, fun h => ?_⟩
        · replace ht : t < k + 1 := ht
          rcases Nat.lt_or_ge t k with h1 | h1
          · exact hf0 h t h1
          · have : t = k := by omega
            subst this; exact hff h
        · obtain ⟨g1, g2, g3, g4⟩ := hf1 h
          refine ⟨g1, g2, g3, fun t ht hPt => ?_⟩
          replace ht : t < k + 1 := ht
          rcases Nat.lt_or_ge t k with h1 | h1
          · exact g4 t h1 hPt
          · have : t = k := by omega
            subst this
            rcases hc with hc | hc
            · rw [hc] at hPt; cases hPt
            · rw [hld]; exact hc
      have taken : ∀ {n5 H5}, n4 ≤ n5 → P k = true → (f = true → ordC (IL l) (IL b) < 0) → hasH (Mn ++ (Mx ++ M)) n5 H5 →
          (fun (z : GW) H' => z.k ≤ B ∧ n0 ≤ z.n ∧ Own 3 1 z.v (nodes z.b) z.Mx ∧ z.b.length ≤ n ∧ hasH (z.Mx ++ M) z.n H' ∧ (z.f = false → ∀ t, t < z.k → P t = false) ∧ (z.f = true → z.s < B ∧ P z.s = true ∧ z.b = bitsL z.s n ∧ ∀ t, t < z.k → P t = true → ¬ ordC (IL (bitsL t n)) (IL z.b) < 0)) ⟨k + 1, lv, k, true, l, Mn, n5⟩ H5 := by
        intro n5 H5 h5 hPk hc hH5
        refine ⟨hk', by simp only; omega, hOn, hl1, hnew hH5, fun h => (by cases h), fun _ => ⟨hk', hPk, hld.symm, fun t ht hPt h => ?_⟩⟩
        replace ht : t < k + 1 := ht
        simp only at h
        rcases Nat.lt_or_ge t k with h1 | h1
        · cases hfb : f with
          | false => rw [hf0 hfb t h1] at hPt; cases hPt
          | true => exact (hf1 hfb).2.2.2 t h1 hPt (ord_trans h (hc hfb))
        · have : t = k := by omega
          subst this
          rw [hld, (ord_zero _ _).2 rfl] at h; omega
      cases hPk : P k with
      | false =>
        repeat' (first | refine zP ?_ | refine zA ?_ | (refine zM ?_; intro _ _) | refine zX ?_ | (refine zC ?_; intro _ _ _ _) | (refine zS ?_; intro _ _) | (apply Ws <;> intro hg))
        exact Ends.loop ⟨k + 1, bv, s, f, b, Mx, n4⟩ (by show B - (k + 1) < B - k; omega) (by repeat' (first | exact .nil | refine .cons rfl ?_)) rfl (kept (Nat.le_refl _) (.inl hPk) (fun _ => hPk) hH4)
      | true =>
        cases f with
        | false =>
          repeat' (first | refine zP ?_ | refine zA ?_ | (refine zM ?_; intro _ _) | refine zX ?_ | (refine zC ?_; intro _ _ _ _) | (refine zS ?_; intro _ _) | (apply Ws <;> intro hg))
          exact Ends.loop ⟨k + 1, lv, k, true, l, Mn, n4⟩ (by show B - (k + 1) < B - k; omega) (by repeat' (first | exact .nil | refine .cons rfl ?_)) rfl (taken (Nat.le_refl _) hPk (fun h => (by cases h)) hH4)
        | true =>
          by_cases hl3 : l.length < b.length
          · repeat' (first | refine zP ?_ | refine zA ?_ | (refine zM ?_; intro _ _) | refine zX ?_ | (refine zC ?_; intro _ _ _ _) | (refine zS ?_; intro _ _) | refine zO ?_ | (apply Ws <;> intro hg))
            exact Ends.loop ⟨k + 1, lv, k, true, l, Mn, n4⟩ (by show B - (k + 1) < B - k; omega) (by repeat' (first | exact .nil | refine .cons rfl ?_)) rfl (taken (Nat.le_refl _) hPk (fun _ => ord_len_lt (by simpa using hl3)) hH4)
          · by_cases hl4 : l.length = b.length
            · repeat' (first | refine zP ?_ | refine zA ?_ | (refine zM ?_; intro _ _) | refine zX ?_ | (refine zC ?_; intro _ _ _ _) | (refine zS ?_; intro _ _) | refine zO ?_ | (apply Ws <;> intro hg))
              refine WR.call (by first | exact gN | exact gS rfl) rfl rfl (Compare_fs hH4 (xs := IL l) (ys := IL b) (by rw [← nodesI]; exact hSn) (by rw [← nodesI]; exact hSb) (by simp; omega) (by simp; omega)) ?_
              rintro _ H5 ⟨rfl, rfl⟩
              have ho : ordC (IL l) (IL b) = lexC (IL l) (IL b) := ord_len_eq (by simpa using hl4)
              rw [← ho]
              by_cases hlx : ordC (IL l) (IL b) < 0
              · repeat' (first | refine zP ?_ | refine zA ?_ | (refine zM ?_; intro _ _) | refine zX ?_ | (refine zC ?_; intro _ _ _ _) | (refine zS ?_; intro _ _) | refine zO ?_ | (apply Ws <;> intro hg))
                exact Ends.loop ⟨k + 1, lv, k, true, l, Mn, n4⟩ (by show B - (k + 1) < B - k; omega) (by repeat' (first | exact .nil | refine .cons rfl ?_)) rfl (taken (Nat.le_refl _) hPk (fun _ => hlx) hH4)
              · repeat' (first | refine zP ?_ | refine zA ?_ | (refine zM ?_; intro _ _) | refine zX ?_ | (refine zC ?_; intro _ _ _ _) | (refine zS ?_; intro _ _) | refine zO ?_ | (apply Ws <;> intro hg))
                exact Ends.loop ⟨k + 1, bv, s, true, b, Mx, n4⟩ (by show B - (k + 1) < B - k; omega) (by repeat' (first | exact .nil | refine .cons rfl ?_)) rfl (kept (Nat.le_refl _) (.inr hlx) (fun h => (by cases h)) hH4)
            · repeat' (first | refine zP ?_ | refine zA ?_ | (refine zM ?_; intro _ _) | refine zX ?_ | (refine zC ?_; intro _ _ _ _) | (refine zS ?_; intro _ _) | refine zO ?_ | (apply Ws <;> intro hg))
              exact Ends.loop ⟨k + 1, bv, s, true, b, Mx, n4⟩ (by show B - (k + 1) < B - k; omega) (by repeat' (first | exact .nil | refine .cons rfl ?_)) rfl (kept (Nat.le_refl _) (.inr (ord_len_gt (by simp; omega))) (fun h => (by cases h)) hH4)
  · have hkB : k = B := by omega
    cases f with
    | false => rw [hf0 rfl (B - 1) (by omega)] at hall; cases hall
    | true =>
      obtain ⟨g1, g2, g3, g4⟩ := hf1 rfl
      subst g3
      repeat' (first | refine zP ?_ | refine zA ?_ | (refine zM ?_; intro _ _) | refine zX ?_ | (refine zC ?_; intro _ _ _ _) | (refine zS ?_; intro _ _) | (apply Ws <;> intro hg))
      exact Ends.ret1 rfl ⟨bitsL s n, Mx, n1, ⟨s, by omega, g2, rfl, fun t ht => g4 t (by omega)⟩, hO, hn1, hH1⟩
end
end Go.Proofs.Ytblopbimchkneaa.Md
