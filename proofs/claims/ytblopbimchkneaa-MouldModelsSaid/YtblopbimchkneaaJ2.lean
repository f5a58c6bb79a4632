/- Texts of the law, joined. -/
import Derived.Test.YtblopbimchkneaaJ1
import Derived.Test.YtblopbimchkneaaSymK
import Derived.Test.YtblopbimchkneaaSymR
namespace Go.Proofs.Ytblopbimchkneaa.Md
open Go Go.Abs Go.Mth
set_option linter.unusedVariables false
set_option linter.unusedSimpArgs false
theorem u8k : C.c.P.underlying 5 = some (.int .u8) := by kernel_rfl
theorem i64k : C.c.P.underlying 3 = some (.int .i64) := by kernel_rfl
abbrev bytesV (hs : List Int) : List Value := hs.map (Value.int .u8)
theorem bytes_one (hs : List Int) : (bytesV hs).all one = true := by simp [bytesV, List.all_map]; exact fun x _ => rfl
theorem bytes_get {hs : List Int} {k : Nat} (h : k < hs.length) : (bytesV hs)[k]? = some (.int .u8 (hs.getD k 0)) := by
  rw [List.getElem?_map, List.getElem?_eq_getElem h, getD_eq h]; rfl
/-- A tray's cells: three bytes, then eight, then six. -/
def trayV (a b c : Int) (hs : List Int) : List Value := .int .u8 a :: .int .u8 b :: .int .u8 c :: bytesV hs
theorem tray_one (a b c : Int) (hs : List Int) : (trayV a b c hs).all one = true := by
  have := bytes_one hs
  simp only [trayV, List.all_cons, this, Bool.and_true]; rfl
theorem tray_get {a b c : Int} {hs : List Int} {k : Nat} (h : k < hs.length) : (trayV a b c hs)[k + 3]? = some (.int .u8 (hs.getD k 0)) := by
  simp only [trayV, List.getElem?_cons_succ]; exact bytes_get h
structure NV where
  k : Nat
  v : Value
  l : List Nat
  Mx : HL
  n : Nat
theorem pow_le_62 {N : Nat} (h : N ≤ 61) : 2 ^ N < 2 ^ 62 := Nat.pow_lt_pow_right (by omega) (by omega)
theorem pow_lt_63 {N : Nat} (h : N ≤ 61) : 2 ^ N < 2 ^ 63 := Nat.pow_lt_pow_right (by omega) (by omega)
attribute [local irreducible] gOK WS WC WR WD Ends FS YS OpV seqK blockK loopK midK retK rdK asgK rangeEnd sat Cell

section
variable {M : HL} {n0 : Nat} {H : Heap}
set_option maxHeartbeats 4000000 in
theorem made_fs (hH : hasH M n0 H) {a b c : Int} {hs : List Int} (ha : 0 ≤ a ∧ a ≤ 255) (hb : 0 ≤ b ∧ b ≤ 255) (hc : 0 ≤ c ∧ c ≤ 255) (hl : hs.length = 14) (hu : ∀ x ∈ hs, 0 ≤ x ∧ x ≤ 255) {most many : Nat} (hmo : 1 ≤ most ∧ most ≤ 6) (hma : many ≤ 8) :
    FS C 36 [.agg (trayV a b c hs).toArray, .int .i64 (most : Int), .int .i64 (many : Int)] H (fun e H' => ∃ (N : Nat) (ns : List Nat) (v : Value) (Mx : HL) (n' : Nat), e = .tuple #[.int .i64 (N : Int), v] ∧ 1 ≤ N ∧ N ≤ most ∧ ns.length ≤ many ∧ (∀ x ∈ ns, x < 2 ^ N) ∧ Own 3 1 v (nodes ns) Mx ∧ n0 ≤ n' ∧ hasH (Mx ++ M) n' H') := by
  have hone := tray_one a b c hs
  refine FS.intro (pf := pf36) rfl rfl rfl ?_
  repeat' (first | refine zP ?_ | refine zA ?_ | (refine zM ?_; intro _ _) | refine zX ?_ | (refine zC ?_; intro _ _ _ _) | (refine zS ?_; intro _ _))
  rename_i H1 hH1
  refine WR.op (by first | exact gN | exact gS rfl) rfl (OpV.conv u8k i64k rfl (c := a) (IntWalk.i64_in _ (by omega))) ?_
  obtain ⟨an, rfl⟩ : ∃ an : Nat, a = an := ⟨a.toNat, by omega⟩
  obtain ⟨bn, rfl⟩ : ∃ bn : Nat, b = bn := ⟨b.toNat, by omega⟩
  obtain ⟨cn, rfl⟩ : ∃ cn : Nat, c = cn := ⟨c.toNat, by omega⟩
  have hmod := Nat.mod_lt an (show 0 < most by omega)
  have hmodb := Nat.mod_lt bn (show 0 < many + 1 by omega)
  repeat' (first | refine zP ?_ | refine zA ?_ | (refine zM ?_; intro _ _) | refine zX ?_ | (refine zC ?_; intro _ _ _ _) | (refine zS ?_; intro _ _) | (apply Ws <;> intro hg))
  rw [show (an : Int) % (most : Int) = ((an % most : Nat) : Int) by simp]
  obtain ⟨r, hr⟩ : ∃ r, an % most = r := ⟨_, rfl⟩
  rw [hr] at hmod ⊢
  repeat' (first | refine zP ?_ | refine zA ?_ | (refine zM ?_; intro _ _) | refine zX ?_ | (refine zC ?_; intro _ _ _ _) | (refine zS ?_; intro _ _) | (apply Ws <;> intro hg))
  rw [show (1 : Int) + (r : Int) = ((1 + r : Nat) : Int) by omega]
  obtain ⟨N, hN⟩ : ∃ N, 1 + r = N := ⟨_, rfl⟩
  have hN6 : 1 ≤ N ∧ N ≤ most := by omega
  rw [hN]
  clear hN hr hmod
  repeat' (first | refine zP ?_ | refine zA ?_ | (refine zM ?_; intro _ _) | refine zX ?_ | (refine zC ?_; intro _ _ _ _) | (refine zS ?_; intro _ _) | (apply Ws <;> intro hg))
  refine WC.loopX [(1, _), (2, _), (3, _), (8, _), (23, _)] (fun s : NV => [(9, s.v), (24, .int .i64 (s.k : Int))]) []
    (fun s H' => s.k ≤ N ∧ n0 + 1 ≤ s.n ∧ s.l.length = s.k ∧ (∀ i, i < s.k → s.l.getD i 0 < 2 ^ (i + 1)) ∧ ((s.k = 0 ∧ s.v = .slice none 0 0 ∧ s.Mx = []) ∨ OwnR 3 1 s.v (nodes s.l) s.Mx) ∧ hasH ((n0, .row 44 0 0 (trayV an bn cn hs)) :: (s.Mx ++ M)) s.n H') (fun s => N - s.k) ⟨0, .slice none 0 0, [], [], n0 + 1⟩ (by repeat' (first | exact .nil | refine .cons rfl ?_)) rfl
    ⟨Nat.zero_le _, Nat.le_refl _, rfl, fun i h => absurd h (Nat.not_lt_zero _), .inl ⟨rfl, rfl, rfl⟩, hH1⟩ ?_
  clear hH1
  rintro ⟨k, v, ps, Mx, n1⟩ H2 ⟨hk, hn1, hpl, hpb, hO, hH2⟩
  simp only at hk hn1 hpl hpb hO hH2
  have hOwn : Own 3 1 v (nodes ps) Mx := by
    rcases hO with ⟨h1, rfl, rfl⟩ | h
    · rw [List.length_eq_zero_iff.1 (hpl.trans h1)]; exact .nil
    · exact h.own
  dsimp only [List.cons_append, List.nil_append]
  repeat' (first | refine zP ?_ | refine zA ?_ | (refine zM ?_; intro _ _) | refine zX ?_ | (refine zC ?_; intro _ _ _ _) | (refine zS ?_; intro _ _) | (apply Ws <;> intro hg))
  refine WC.condP rfl (fun hlt => ?_) (fun hlt => ?_)
  · have hk' : k < N := by omega
    have hkl : 8 + k < hs.length := by omega
    have hx0 := hu _ (getD_mem (a := 0) hkl)
    obtain ⟨x, hx⟩ : ∃ x : Nat, hs.getD (8 + k) 0 = x := ⟨(hs.getD (8 + k) 0).toNat, by omega⟩
    repeat' (first | refine zP ?_ | refine zA ?_ | (refine zM ?_; intro _ _) | refine zX ?_ | (refine zC ?_; intro _ _ _ _) | (refine zS ?_; intro _ _) | (apply Ws <;> intro hg))
    refine WR.op (by first | exact gN | exact gS rfl) rfl (OpV.load1 (v := .int .u8 (hs.getD (8 + k) 0)) rfl hH2 (.head _) (.row _ _ _ _) (Nat.zero_le _) (by rw [show 11 + k - 0 = 8 + k + 3 by omega]; exact tray_get hkl)) ?_
    rw [hx]
    refine WR.op (by first | exact gN | exact gS rfl) rfl (OpV.conv u8k i64k rfl (c := (x : Int)) (IntWalk.i64_in _ (by omega))) ?_
    repeat' (first | refine zP ?_ | refine zA ?_ | (refine zM ?_; intro _ _) | refine zX ?_ | (refine zC ?_; intro _ _ _ _) | (refine zS ?_; intro _ _) | (apply Ws <;> intro hg))
    rw [show (x : Int) % ((k : Int) + 1) = ((x % (k + 1) : Nat) : Int) by simp]
    have hp := Nat.mod_lt x (show 0 < k + 1 by omega)
    obtain ⟨p, hpp⟩ : ∃ p, x % (k + 1) = p := ⟨_, rfl⟩
    rw [hpp] at hp ⊢
    repeat' (first | refine zP ?_ | refine zA ?_ | (refine zM ?_; intro _ _) | refine zX ?_ | (refine zC ?_; intro _ _ _ _) | (refine zS ?_; intro _ _) | (apply Ws <;> intro hg))
    refine WR.op (by first | exact gN | exact gS rfl) rfl (OpV.shl1 rfl rfl (by show k ≤ 64; omega) (pow_lt_63 (by omega))) ?_
    repeat' (first | refine zP ?_ | refine zA ?_ | (refine zM ?_; intro _ _) | refine zX ?_ | (refine zC ?_; intro _ _ _ _) | (refine zS ?_; intro _ _) | (apply Ws <;> intro hg))
    refine WC.joinX [(1, _), (2, _), (3, _), (8, _), (9, _), (10, _), (23, _), (24, _)] (by repeat' (first | exact .nil | refine .cons rfl ?_)) (fun w : Nat => [(12, .int .i64 (w : Int))]) (fun w H' => H' = H2 ∧ w < 2 ^ (k + 1)) ?_ ?_
    · refine WC.condP rfl (fun h2 => ?_) (fun h2 => ?_)
      · have hSp : Sl ((n0, .row 44 0 0 (trayV an bn cn hs)) :: (Mx ++ M)) 1 v (nodes ps) := (hOwn.sl M).cons
        have hpb' := hpb p (by omega)
        have hle : ps.getD p 0 < 2 ^ (k + 1) := Nat.lt_of_lt_of_le hpb' (Nat.pow_le_pow_right (by omega) (by omega))
        have h63 := pow_lt_63 (N := k + 1) (by omega)
        repeat' (first | refine zP ?_ | refine zA ?_ | (refine zM ?_; intro _ _) | refine zX ?_ | (refine zC ?_; intro _ _ _ _) | (refine zS ?_; intro _ _) | (apply Ws <;> intro hg))
        refine WR.op (by first | exact gN | exact gS rfl) rfl (OpV.orN rfl rfl (by show 2 ^ k < 2 ^ 63; exact pow_lt_63 (by omega)) (by show ps.getD p 0 < 2 ^ 63; omega)) ?_
        repeat' (first | refine zP ?_ | refine zA ?_ | (refine zM ?_; intro _ _) | refine zX ?_ | (refine zC ?_; intro _ _ _ _) | (refine zS ?_; intro _ _) | (apply Ws <;> intro hg))
        exact Ends.midX (2 ^ k ||| ps.getD p 0) (by repeat' (first | exact .nil | refine .cons rfl ?_)) ⟨rfl, Nat.or_lt_two_pow (Nat.pow_lt_pow_right (by omega) (by omega)) hle⟩
      · repeat' (first | refine zP ?_ | refine zA ?_ | (refine zM ?_; intro _ _) | refine zX ?_ | (refine zC ?_; intro _ _ _ _) | (refine zS ?_; intro _ _) | (apply Ws <;> intro hg))
        exact Ends.midX (2 ^ k) (by repeat' (first | exact .nil | refine .cons rfl ?_)) ⟨rfl, Nat.pow_lt_pow_right (by omega) (by omega)⟩
    rintro w H3 ⟨rfl, hw⟩
    dsimp only [List.cons_append, List.nil_append]
    repeat' (first | refine zP ?_ | refine zA ?_ | (refine zM ?_; intro _ _) | refine zX ?_ | (refine zC ?_; intro _ _ _ _) | (refine zS ?_; intro _ _) | (apply Ws <;> intro hg))
    refine WR.append1RF [(n0, .row 44 0 0 (trayV an bn cn hs))] Mx M rfl rfl rfl rfl hOwn hH2 (new := [.int .i64 (w : Int)]) (by rfl) rfl rfl (Nat.le_refl _) (by omega) (by simp; omega) fun v3 M3 n3 H6 hO3 hH6 hn3 => ?_
    repeat' (first | refine zP ?_ | refine zA ?_ | (refine zM ?_; intro _ _) | refine zX ?_ | (refine zC ?_; intro _ _ _ _) | (refine zS ?_; intro _ _) | (apply Ws <;> intro hg))
    refine Ends.loop ⟨k + 1, v3, ps ++ [w], M3, n3⟩ (by show N - (k + 1) < N - k; omega) (by repeat' (first | exact .nil | refine .cons rfl ?_)) rfl ⟨hk', by simp only; omega, by simp [hpl], fun i hi => ?_, .inr ?_, hH6⟩
    · replace hi : i < k + 1 := hi
      simp only
      rcases Nat.lt_or_ge i k with h3 | h3
      · rw [getD_app_l (by omega)]; exact hpb i h3
      · have : i = ps.length := by omega
        subst this
        rw [getD_snoc, hpl]; exact hw
    · simp only
      simpa [nodes] using hO3
  have hkN : N = k := by omega
  subst hkN
  clear hOwn hlt hk
  rcases hO with ⟨h1, _⟩ | hO
  · omega
  have hPl : ∀ i, i < N → ps.getD i 0 < 2 ^ N := fun i hi => Nat.lt_of_lt_of_le (hpb i hi) (Nat.pow_le_pow_right (by omega) (by omega))
  clear hpb
  cases hO with
  | mk hlp =>
  rename_i pb pu po plen
  have hplen : N = plen := by simp [nodes] at hlp; omega
  subst hplen
  simp only [List.cons_append, List.nil_append] at hH2
  have hmP : (pb, Ch.row 3 pu po (nodes ps)) ∈ (pb, Ch.row 3 pu po (nodes ps)) :: M := .head _
  have hbackP : ∀ {M' : HL} {n' : Nat} {H' : Heap}, hasH (M' ++ (pb, Ch.row 3 pu po (nodes ps)) :: M) n' H' → hasH (M' ++ M) n' H' := fun h => h.sub (List.Sublist.append_left (List.sublist_cons_self _ _) _)
  generalize (pb, Ch.row 3 pu po (nodes ps)) :: M = T at hH2 hmP hbackP
  repeat' (first | refine zP ?_ | refine zA ?_ | (refine zM ?_; intro _ _) | refine zX ?_ | (refine zC ?_; intro _ _ _ _) | (refine zS ?_; intro _ _) | (apply Ws <;> intro hg))
  refine WR.op (by first | exact gN | exact gS rfl) rfl (OpV.conv u8k i64k rfl (c := (bn : Int)) (IntWalk.i64_in _ (by omega))) ?_
  repeat' (first | refine zP ?_ | refine zA ?_ | (refine zM ?_; intro _ _) | refine zX ?_ | (refine zC ?_; intro _ _ _ _) | (refine zS ?_; intro _ _) | (apply Ws <;> intro hg))
  rw [show (bn : Int) % ((many : Int) + 1) = ((bn % (many + 1) : Nat) : Int) by simp]
  obtain ⟨m, hm⟩ : ∃ m, bn % (many + 1) = m := ⟨_, rfl⟩
  rw [hm] at hmodb ⊢
  refine WR.op (by first | exact gN | exact gS rfl) rfl (OpV.slAh rfl rfl (by omega) (by decide)) ?_
  repeat' (first | refine zP ?_ | refine zA ?_ | (refine zM ?_; intro _ _) | refine zX ?_ | (refine zC ?_; intro _ _ _ _) | (refine zS ?_; intro _ _) | (apply Ws <;> intro hg))
  refine WC.loopX [(1, _), (2, _), (3, _), (8, _), (9, _), (58, _), (59, _)] (fun s : NV => [(13, s.v), (60, .int .i64 (s.k : Int))]) []
    (fun s H' => s.k ≤ m ∧ n0 + 1 ≤ s.n ∧ s.l.length = s.k ∧ (∀ x ∈ s.l, x < 2 ^ N) ∧ Own 3 1 s.v (nodes s.l) s.Mx ∧ hasH ((n0, .row 44 0 0 (trayV an bn cn hs)) :: (s.Mx ++ T)) s.n H') (fun s => m - s.k) ⟨0, .slice none 0 0, [], [], n1⟩ (by repeat' (first | exact .nil | refine .cons rfl ?_)) rfl
    ⟨Nat.zero_le _, hn1, rfl, fun x h => (by cases h), .nil, hH2⟩ ?_
  clear hH2 hn1
  rintro ⟨k, v, ns, Mx, n2⟩ H3 ⟨hk, hn2, hnl, hnb, hO, hH3⟩
  simp only at hk hn2 hnl hnb hO hH3
  have hmP3 := List.mem_cons_of_mem (n0, Ch.row 44 0 0 (trayV an bn cn hs)) (List.mem_append_right Mx hmP)
  dsimp only [List.cons_append, List.nil_append]
  repeat' (first | refine zP ?_ | refine zA ?_ | (refine zM ?_; intro _ _) | refine zX ?_ | (refine zC ?_; intro _ _ _ _) | (refine zS ?_; intro _ _) | (apply Ws <;> intro hg))
  refine WC.condP rfl (fun hlt => ?_) (fun hlt => ?_)
  · have hk' : k < m := by omega
    have hkl : k < hs.length := by omega
    have hx0 := hu _ (getD_mem (a := 0) hkl)
    obtain ⟨x, hx⟩ : ∃ x : Nat, hs.getD k 0 = x := ⟨(hs.getD k 0).toNat, by omega⟩
    repeat' (first | refine zP ?_ | refine zA ?_ | (refine zM ?_; intro _ _) | refine zX ?_ | (refine zC ?_; intro _ _ _ _) | (refine zS ?_; intro _ _) | (apply Ws <;> intro hg))
    refine WR.op (by first | exact gN | exact gS rfl) rfl (OpV.load1 (v := .int .u8 (hs.getD k 0)) rfl hH3 (.head _) (.row _ _ _ _) (Nat.zero_le _) (by rw [show 3 + k - 0 = k + 3 by omega]; exact tray_get hkl)) ?_
    rw [hx]
    repeat' (first | refine zP ?_ | refine zA ?_ | (refine zM ?_; intro _ _) | refine zX ?_ | (refine zC ?_; intro _ _ _ _) | (refine zS ?_; intro _ _) | (apply Ws <;> intro hg))
    refine WR.op (by first | exact gN | exact gS rfl) rfl (OpV.conv u8k i64k rfl (c := (x : Int)) (IntWalk.i64_in _ (by omega))) ?_
    repeat' (first | refine zP ?_ | refine zA ?_ | (refine zM ?_; intro _ _) | refine zX ?_ | (refine zC ?_; intro _ _ _ _) | (refine zS ?_; intro _ _) | (apply Ws <;> intro hg))
    refine WR.op (by first | exact gN | exact gS rfl) rfl (OpV.shl1 rfl rfl (by show N ≤ 64; omega) (pow_lt_63 (by omega))) ?_
    have hNp : 0 < 2 ^ N := Nat.two_pow_pos N
    have h62 := pow_le_62 (N := N) (by omega)
    have hxm := Nat.mod_lt x hNp
    repeat' (first | refine zP ?_ | refine zA ?_ | (refine zM ?_; intro _ _) | refine zX ?_ | (refine zC ?_; intro _ _ _ _) | (refine zS ?_; intro _ _) | (apply Ws <;> intro hg))
    rw [show (x : Int) % ((2 ^ N : Nat) : Int) = ((x % 2 ^ N : Nat) : Int) by simp]
    obtain ⟨y, hy⟩ : ∃ y, x % 2 ^ N = y := ⟨_, rfl⟩
    rw [hy] at hxm ⊢
    repeat' (first | refine zP ?_ | refine zA ?_ | (refine zM ?_; intro _ _) | refine zX ?_ | (refine zC ?_; intro _ _ _ _) | (refine zS ?_; intro _ _) | (apply Ws <;> intro hg))
    have hstep : ∀ {w : Nat}, w < 2 ^ N → w < 2 ^ 62 := fun h => by omega
    refine WC.joinX [(1, _), (2, _), (3, _), (8, _), (9, _), (13, _), (14, _), (15, _), (58, _), (59, _), (60, _)] (by repeat' (first | exact .nil | refine .cons rfl ?_)) (fun s : Nat × Nat => [(16, .int .i64 (s.1 : Int))]) (fun s H' => s.1 < 2 ^ N ∧ n0 + 1 ≤ s.2 ∧ hasH ((n0, .row 44 0 0 (trayV an bn cn hs)) :: (Mx ++ T)) s.2 H') ?_ ?_
    · refine WC.condP rfl (fun h2 => ?_) (fun h2 => ?_)
      · refine WC.regionD ?_
        repeat' (first | refine zD ?_ | (refine zE ?_; intro _ _ _ _))
        refine WD.op (by first | exact gN | exact gS rfl) rfl (OpV.conv u8k i64k rfl (c := (x : Int)) (IntWalk.i64_in _ (by omega))) rfl (stands_nil _ _) ?_
        repeat' (first | refine zD ?_ | (refine zE ?_; intro _ _ _ _))
        rw [show (x : Int) % ((N : Int) + 1) = ((x % (N + 1) : Nat) : Int) by simp]
        have hq := Nat.mod_lt x (show 0 < N + 1 by omega)
        obtain ⟨q, hqq⟩ : ∃ q, x % (N + 1) = q := ⟨_, rfl⟩
        rw [hqq] at hq ⊢
        refine WD.bldS (by first | exact gN | exact gS rfl) rfl hH3 (vs := [(0, .int .i64 0)]) rfl (cs := [.int .i64 0]) (by rfl) rfl (fun H8 hH8 => zSt) fun H8 hH8 => ?_
        refine WD.appendKeep (y := .int .i64 0) (by first | exact gN | exact gS rfl) rfl rfl rfl hH8 (List.mem_cons_of_mem _ hmP3) (by simpa [nodes] using hpl) rfl (by
          have := hH8.readN (b := n2) (u := 0) (lo := 0) (o := 0) (k := 1) (.head _) (.row _ _ _ _) (Nat.le_refl _) (by simp)
          simpa [srcCells] using this) rfl (by omega) fun tp H9 hH9 hrd => ⟨zSt, ?_⟩
        refine WD.op (by first | exact gN | exact gS rfl) rfl (OpV.idxS rfl rfl rfl (m := q) (by omega) rfl) rfl (stands_nil _ _) ?_
        obtain ⟨w, hw, hwq⟩ : ∃ w : Nat, w < 2 ^ N ∧ (nodes ps ++ [Value.int .i64 0])[q]? = some (.int .i64 (w : Int)) := by
          by_cases h : q < N
          · exact ⟨ps.getD q 0, hPl q h, by rw [List.getElem?_append_left (by simp; omega), List.getElem?_map, List.getElem?_eq_getElem (by omega), getD_eq (by omega)]; rfl⟩
          · have : q = (nodes ps).length := by simp; omega
            exact ⟨0, hNp, by rw [this, List.getElem?_append_right (Nat.le_refl _)]; simp⟩
        refine WD.load1 (v := .int .i64 (w : Int)) (by first | exact gN | exact gS rfl) rfl rfl (hrd (q * 1) _ (by rw [Nat.mul_one]; exact hwq)) ?_
        repeat' (first | refine zD ?_ | (refine zE ?_; intro _ _ _ _))
        refine WD.nil ?_
        repeat' (first | refine zP ?_ | refine zA ?_ | (refine zM ?_; intro _ _) | refine zX ?_ | (refine zC ?_; intro _ _ _ _) | (refine zS ?_; intro _ _) | (apply Ws <;> intro hg))
        exact Ends.midX (w, n2 + 1) (by repeat' (first | exact .nil | refine .cons rfl ?_)) ⟨hw, by simp only; omega, hH9.tail⟩
      · repeat' (first | refine zP ?_ | refine zA ?_ | (refine zM ?_; intro _ _) | refine zX ?_ | (refine zC ?_; intro _ _ _ _) | (refine zS ?_; intro _ _) | (apply Ws <;> intro hg))
        exact Ends.midX (y, n2) (by repeat' (first | exact .nil | refine .cons rfl ?_)) ⟨hxm, hn2, hH3⟩
    clear hH3 hn2
    rintro ⟨w, n3⟩ H4 ⟨hw, hn3, hH4⟩
    simp only at hw hn3 hH4
    have hmP4 := hmP3
    dsimp only [List.cons_append, List.nil_append]
    have happ : ∀ {z : Nat}, z < 2 ^ N → ∀ x ∈ ns ++ [z], x < 2 ^ N := fun hz x hx => by
      rcases List.mem_append.1 hx with h | h
      · exact hnb x h
      · obtain rfl := List.mem_singleton.1 h
        exact hz
    by_cases h4 : (cn : Int) % 4 = 3
    · by_cases hk0 : (k : Int) = 0
      · repeat' (first | refine zP ?_ | refine zA ?_ | (refine zM ?_; intro _ _) | refine zX ?_ | (refine zC ?_; intro _ _ _ _) | (refine zS ?_; intro _ _) | refine zO ?_ | (apply Ws <;> intro hg))
        refine WR.op (by first | exact gN | exact gS rfl) rfl (OpV.conv u8k i64k rfl (c := (x : Int)) (IntWalk.i64_in _ (by omega))) ?_
        repeat' (first | refine zP ?_ | refine zA ?_ | (refine zM ?_; intro _ _) | refine zX ?_ | (refine zC ?_; intro _ _ _ _) | (refine zS ?_; intro _ _) | refine zO ?_ | (apply Ws <;> intro hg))
        rw [show (x : Int) % (N : Int) = ((x % N : Nat) : Int) by simp]
        have hq := Nat.mod_lt x (show 0 < N by omega)
        obtain ⟨q, hqq⟩ : ∃ q, x % N = q := ⟨_, rfl⟩
        rw [hqq] at hq ⊢
        refine WR.op (by first | exact gN | exact gS rfl) rfl (OpV.shl1 rfl rfl (by show q ≤ 64; omega) (pow_lt_63 (by omega))) ?_
        refine WR.op (by first | exact gN | exact gS rfl) rfl (OpV.xorN rfl rfl (by show w < 2 ^ 63; omega) (by show 2 ^ q < 2 ^ 63; exact pow_lt_63 (by omega))) ?_
        have hw2 : w ^^^ 2 ^ q < 2 ^ N := Nat.xor_lt_two_pow hw (Nat.pow_lt_pow_right (by omega) hq)
        obtain ⟨w2, hww⟩ : ∃ w2, w ^^^ 2 ^ q = w2 := ⟨_, rfl⟩
        rw [hww] at hw2 ⊢
        repeat' (first | refine zP ?_ | refine zA ?_ | (refine zM ?_; intro _ _) | refine zX ?_ | (refine zC ?_; intro _ _ _ _) | (refine zS ?_; intro _ _) | (apply Ws <;> intro hg))
        refine WR.append1F [(n0, .row 44 0 0 (trayV an bn cn hs))] Mx T rfl rfl rfl rfl hO hH4 (new := [.int .i64 (w2 : Nat)]) (by rfl) rfl rfl (Nat.le_refl _) (by omega) (by simp; omega) fun v5 M5 n5 H5 hO5 hH5 hn5 => ?_
        repeat' (first | refine zP ?_ | refine zA ?_ | (refine zM ?_; intro _ _) | refine zX ?_ | (refine zC ?_; intro _ _ _ _) | (refine zS ?_; intro _ _) | (apply Ws <;> intro hg))
        exact Ends.loop ⟨k + 1, v5, ns ++ [w2], M5, n5⟩ (by show m - (k + 1) < m - k; omega) (by repeat' (first | exact .nil | refine .cons rfl ?_)) rfl ⟨hk', by simp only; omega, by simp [hnl], happ (by first | exact hw | exact hw2), by simpa [nodes] using hO5, hH5⟩
      · repeat' (first | refine zP ?_ | refine zA ?_ | (refine zM ?_; intro _ _) | refine zX ?_ | (refine zC ?_; intro _ _ _ _) | (refine zS ?_; intro _ _) | refine zO ?_ | (apply Ws <;> intro hg))
        refine WR.append1F [(n0, .row 44 0 0 (trayV an bn cn hs))] Mx T rfl rfl rfl rfl hO hH4 (new := [.int .i64 (w : Nat)]) (by rfl) rfl rfl (Nat.le_refl _) (by omega) (by simp; omega) fun v5 M5 n5 H5 hO5 hH5 hn5 => ?_
        repeat' (first | refine zP ?_ | refine zA ?_ | (refine zM ?_; intro _ _) | refine zX ?_ | (refine zC ?_; intro _ _ _ _) | (refine zS ?_; intro _ _) | (apply Ws <;> intro hg))
        exact Ends.loop ⟨k + 1, v5, ns ++ [w], M5, n5⟩ (by show m - (k + 1) < m - k; omega) (by repeat' (first | exact .nil | refine .cons rfl ?_)) rfl ⟨hk', by simp only; omega, by simp [hnl], happ (by first | exact hw | exact hw2), by simpa [nodes] using hO5, hH5⟩
    · repeat' (first | refine zP ?_ | refine zA ?_ | (refine zM ?_; intro _ _) | refine zX ?_ | (refine zC ?_; intro _ _ _ _) | (refine zS ?_; intro _ _) | refine zO ?_ | (apply Ws <;> intro hg))
      refine WR.append1F [(n0, .row 44 0 0 (trayV an bn cn hs))] Mx T rfl rfl rfl rfl hO hH4 (new := [.int .i64 (w : Nat)]) (by rfl) rfl rfl (Nat.le_refl _) (by omega) (by simp; omega) fun v5 M5 n5 H5 hO5 hH5 hn5 => ?_
      repeat' (first | refine zP ?_ | refine zA ?_ | (refine zM ?_; intro _ _) | refine zX ?_ | (refine zC ?_; intro _ _ _ _) | (refine zS ?_; intro _ _) | (apply Ws <;> intro hg))
      exact Ends.loop ⟨k + 1, v5, ns ++ [w], M5, n5⟩ (by show m - (k + 1) < m - k; omega) (by repeat' (first | exact .nil | refine .cons rfl ?_)) rfl ⟨hk', by simp only; omega, by simp [hnl], happ (by first | exact hw | exact hw2), by simpa [nodes] using hO5, hH5⟩
  · have hkm : m = k := by omega
    subst hkm
    repeat' (first | refine zP ?_ | refine zA ?_ | (refine zM ?_; intro _ _) | refine zX ?_ | (refine zC ?_; intro _ _ _ _) | (refine zS ?_; intro _ _) | (apply Ws <;> intro hg))
    exact Ends.ret2 rfl rfl ⟨N, ns, v, Mx, n2, rfl, by omega, by omega, by omega, hnb, hO, by omega, hbackP hH3.tail⟩
end
end Go.Proofs.Ytblopbimchkneaa.Md

namespace Go.Proofs.Ytblopbimchkneaa.Md
open Go Go.Abs Go.Mth
set_option linter.unusedVariables false
set_option linter.unusedSimpArgs false
def bitN (c a : Nat) : Nat := if c.testBit a = true then 1 else 0
theorem shr_one (c a : Nat) : (c >>> a) &&& 1 = bitN c a := by
  have h1 : (c >>> a) &&& 1 < 2 := by rw [Nat.and_one_is_mod]; exact Nat.mod_lt _ (by omega)
  have h2 := shr_and_one (a := c) (m := a)
  unfold bitN
  split
  · rename_i h; have := h2.2 h; omega
  · rename_i h
    have : ¬ (((c >>> a) &&& 1 : Nat) : Int) = 1 := fun e => h (h2.1 e)
    omega
def kd (c a b : Nat) : Nat := bitN c a + 2 * bitN c b
theorem bitN_lt (c a : Nat) : bitN c a < 2 := by unfold bitN; split <;> omega
theorem kd_lt (c a b : Nat) : kd c a b < 4 := by have := bitN_lt c a; have := bitN_lt c b; unfold kd; omega
/-- Which kinds of casts have been met. -/
def metB (ns : List Nat) (a b k i : Nat) : Bool := (ns.take k).any fun c => kd c a b == i
theorem metB_succ {ns : List Nat} {a b k i : Nat} (h : k < ns.length) : metB ns a b (k + 1) i = (metB ns a b k i || (kd (ns.getD k 0) a b == i)) := by
  unfold metB
  rw [List.take_succ_eq_append_getElem h, List.any_append, getD_eq h]; simp
theorem met_clash (ns : List Nat) (a b : Nat) : clashB ns a b = (metB ns a b ns.length 1 && metB ns a b ns.length 2 && metB ns a b ns.length 3) := by
  have e : ∀ i, metB ns a b ns.length i = ns.any fun c => kd c a b == i := fun i => by rw [metB, List.take_length]
  rw [e, e, e, clashB]
  have e1 : (fun c => kd c a b == 1) = fun c => c.testBit a && !c.testBit b := by
    funext c; unfold kd bitN; cases c.testBit a <;> cases c.testBit b <;> rfl
  have e2 : (fun c => kd c a b == 2) = fun c => !c.testBit a && c.testBit b := by
    funext c; unfold kd bitN; cases c.testBit a <;> cases c.testBit b <;> rfl
  have e3 : (fun c => kd c a b == 3) = fun c => c.testBit a && c.testBit b := by
    funext c; unfold kd bitN; cases c.testBit a <;> cases c.testBit b <;> rfl
  rw [e1, e2, e3]
  cases ns.any (fun c => c.testBit a && c.testBit b) <;> cases ns.any (fun c => c.testBit a && !c.testBit b) <;> cases ns.any (fun c => !c.testBit a && c.testBit b) <;> rfl
structure BL where
  k : Nat
  l : List Bool
attribute [local irreducible] gOK WS WC WR WD Ends FS YS OpV seqK blockK loopK midK retK rdK asgK rangeEnd sat Cell
section
variable {M : HL} {n0 : Nat} {H : Heap} {v : Value} {ns : List Nat}
set_option maxHeartbeats 1000000 in
theorem lclash_fs (hH : hasH M n0 H) (hS : Sl M 1 v (nodes ns)) (hl : ns.length ≤ 1000) (hb : ∀ x ∈ ns, x < 2 ^ 62) {a b : Nat} (ha : a ≤ 61) (hbb : b ≤ 61) :
    FS C 41 [v, .int .i64 (a : Int), .int .i64 (b : Int)] H (fun e H' => e = .bool (clashB ns a b) ∧ ∃ n', n0 ≤ n' ∧ hasH M n' H') := by
  refine FS.intro (pf := pf41) rfl rfl rfl ?_
  repeat' (first | refine zP ?_ | refine zA ?_ | (refine zM ?_; intro _ _) | refine zX ?_ | (refine zC ?_; intro _ _ _ _) | (refine zS ?_; intro _ _) | (apply Ws <;> intro hg))
  rename_i H1 hH1
  have hSc : ∀ {ch : Ch}, Sl ((n0, ch) :: M) 1 v (nodes ns) := hS.cons
  have hS1 := hSc (ch := .row 56 0 0 (bools [false, false, false, false]))
  replace hH1 : hasH ((n0, .row 56 0 0 (bools [false, false, false, false])) :: M) (n0 + 1) H1 := hH1
  repeat' (first | refine zP ?_ | refine zA ?_ | (refine zM ?_; intro _ _) | refine zX ?_ | (refine zC ?_; intro _ _ _ _) | (refine zS ?_; intro _ _) | (apply Ws <;> intro hg))
  refine WC.loopX [(0, _), (1, _), (2, _), (7, _), (10, _), (11, _)] (fun s : BL => [(12, .int .i64 (s.k : Int))]) []
    (fun s H' => s.k ≤ ns.length ∧ s.l.length = 4 ∧ (∀ i, i < 4 → s.l.getD i false = metB ns a b s.k i) ∧ hasH ((n0, .row 56 0 0 (bools s.l)) :: M) (n0 + 1) H') (fun s => ns.length - s.k) ⟨0, [false, false, false, false]⟩ (by repeat' (first | exact .nil | refine .cons rfl ?_)) rfl
    ⟨Nat.zero_le _, rfl, fun i hi => by match i, hi with | 0, _ | 1, _ | 2, _ | 3, _ => rfl, hH1⟩ ?_
  rintro ⟨k, l⟩ H2 ⟨hk, hll, hm, hH2⟩
  simp only at hk hll hm hH2
  have hS2 := hSc (ch := .row 56 0 0 (bools l))
  clear hH1 hS1
  dsimp only [List.cons_append, List.nil_append]
  repeat' (first | refine zP ?_ | refine zA ?_ | (refine zM ?_; intro _ _) | refine zX ?_ | (refine zC ?_; intro _ _ _ _) | (refine zS ?_; intro _ _) | (apply Ws <;> intro hg))
  refine WC.condP rfl (fun hlt => ?_) (fun hlt => ?_)
  · have hk' : k < ns.length := by omega
    have hx := hb _ (getD_mem (a := 0) hk')
    repeat' (first | refine zP ?_ | refine zA ?_ | (refine zM ?_; intro _ _) | refine zX ?_ | (refine zC ?_; intro _ _ _ _) | (refine zS ?_; intro _ _) | (apply Ws <;> intro hg))
    obtain ⟨c, hc⟩ : ∃ c, ns.getD k 0 = c := ⟨_, rfl⟩
    rw [hc] at hx ⊢
    have hsh : ∀ m, c >>> m < 2 ^ 63 := fun m => Nat.lt_of_le_of_lt (Nat.shiftRight_le c m) (by omega)
    refine WR.op (by first | exact gN | exact gS rfl) rfl (OpV.shrN rfl rfl (by show a ≤ 64; omega)) ?_
    refine WR.op (by first | exact gN | exact gS rfl) rfl (OpV.andN (b := 1) rfl rfl (hsh a) (by decide)) ?_
    repeat' (first | refine zP ?_ | refine zA ?_ | (refine zM ?_; intro _ _) | refine zX ?_ | (refine zC ?_; intro _ _ _ _) | (refine zS ?_; intro _ _) | (apply Ws <;> intro hg))
    refine WR.op (by first | exact gN | exact gS rfl) rfl (OpV.shrN rfl rfl (by show b ≤ 64; omega)) ?_
    refine WR.op (by first | exact gN | exact gS rfl) rfl (OpV.andN (b := 1) rfl rfl (hsh b) (by decide)) ?_
    rw [shr_one, shr_one]
    have h1 := bitN_lt c a
    have h2 := bitN_lt c b
    have h4 := kd_lt c a b
    have hkd : kd c a b = bitN c a + 2 * bitN c b := rfl
    obtain ⟨x, hx1⟩ : ∃ x, bitN c a = x := ⟨_, rfl⟩
    obtain ⟨y, hy1⟩ : ∃ y, bitN c b = y := ⟨_, rfl⟩
    obtain ⟨z, hz1⟩ : ∃ z, kd c a b = z := ⟨_, rfl⟩
    rw [hz1] at h4 hkd
    rw [hx1, hy1] at hkd
    rw [hx1] at h1 ⊢
    rw [hy1] at h2 ⊢
    repeat' (first | refine zP ?_ | refine zA ?_ | (refine zM ?_; intro _ _) | refine zX ?_ | (refine zC ?_; intro _ _ _ _) | (refine zS ?_; intro _ _) | (apply Ws <;> intro hg))
    rw [show (x : Int) + 2 * (y : Int) = ((z : Nat) : Int) by omega]
    repeat' (first | refine zP ?_ | refine zA ?_ | (refine zM ?_; intro _ _) | refine zX ?_ | (refine zC ?_; intro _ _ _ _) | (refine zS ?_; intro _ _) | (apply Ws <;> intro hg))
    rename_i H3 hH3
    refine Ends.loop ⟨k + 1, l.set z true⟩ (by show ns.length - (k + 1) < ns.length - k; omega) (by repeat' (first | exact .nil | refine .cons rfl ?_)) rfl ⟨hk', by simpa using hll, fun i hi => ?_, hH3⟩
    simp only
    rw [getD_set' (by omega), metB_succ hk', hc, hz1, ← hm i hi]
    by_cases h : i = z
    · rw [if_pos h, h]; simp
    · rw [if_neg h]; simp [show ¬ z = i from fun e => h e.symm]
  · have hkl : k = ns.length := by omega
    subst hkl
    rw [met_clash, ← hm 1 (by omega), ← hm 2 (by omega), ← hm 3 (by omega)]
    obtain ⟨b0, b1, b2, b3, rfl⟩ : ∃ b0 b1 b2 b3, l = [b0, b1, b2, b3] := by
      match l, hll with
      | [b0, b1, b2, b3], _ => exact ⟨b0, b1, b2, b3, rfl⟩
    have hback := hH2.tail
    cases b1 with
    | false =>
      repeat' (first | refine zP ?_ | refine zA ?_ | (refine zM ?_; intro _ _) | refine zX ?_ | (refine zC ?_; intro _ _ _ _) | (refine zS ?_; intro _ _) | (apply Ws <;> intro hg))
      exact Ends.ret1 rfl ⟨rfl, n0 + 1, by omega, hback⟩
    | true =>
      cases b2 with
      | false =>
        repeat' (first | refine zP ?_ | refine zA ?_ | (refine zM ?_; intro _ _) | refine zX ?_ | (refine zC ?_; intro _ _ _ _) | (refine zS ?_; intro _ _) | (apply Ws <;> intro hg))
        exact Ends.ret1 rfl ⟨rfl, n0 + 1, by omega, hback⟩
      | true =>
        repeat' (first | refine zP ?_ | refine zA ?_ | (refine zM ?_; intro _ _) | refine zX ?_ | (refine zC ?_; intro _ _ _ _) | (refine zS ?_; intro _ _) | (apply Ws <;> intro hg))
        exact Ends.ret1 rfl ⟨by cases b3 <;> rfl, n0 + 1, by omega, hback⟩
theorem lhonest_fs (hH : hasH M n0 H) (hS : Sl M 1 v (nodes ns)) (hl : ns.length ≤ 1000) (hb : ∀ x ∈ ns, x < 2 ^ 62) {N : Nat} (hN : N ≤ 61) :
    FS C 40 [.int .i64 (N : Int), v] H (fun e H' => e = .bool (honB N ns) ∧ ∃ n', n0 ≤ n' ∧ hasH M n' H') := by
  refine FS.intro (pf := pf40) rfl rfl rfl ?_
  repeat' (first | refine zP ?_ | refine zA ?_ | (refine zM ?_; intro _ _) | refine zX ?_ | (refine zC ?_; intro _ _ _ _) | (refine zS ?_; intro _ _) | (apply Ws <;> intro hg))
  refine WC.loopX [(0, _), (1, _), (7, _)] (fun s : Nat × Nat => [(8, .int .i64 (s.1 : Int))]) [] (fun s H' => s.1 ≤ N ∧ n0 ≤ s.2 ∧ hasH M s.2 H' ∧ ∀ x y, x < s.1 → y < x → clashB ns x y = false) (fun s => N - s.1) (0, n0) (by repeat' (first | exact .nil | refine .cons rfl ?_)) rfl ⟨Nat.zero_le _, Nat.le_refl _, hH, fun x y h => absurd h (Nat.not_lt_zero _)⟩ ?_
  clear hH
  rintro ⟨k, n1⟩ H1 ⟨hk, hn1, hH1, hno⟩
  simp only at hk hn1 hH1 hno
  dsimp only [List.cons_append, List.nil_append]
  repeat' (first | refine zP ?_ | refine zA ?_ | (refine zM ?_; intro _ _) | refine zX ?_ | (refine zC ?_; intro _ _ _ _) | (refine zS ?_; intro _ _) | (apply Ws <;> intro hg))
  refine WC.condP rfl (fun hlt => ?_) (fun hlt => ?_)
  · have hk' : k < N := by omega
    repeat' (first | refine zP ?_ | refine zA ?_ | (refine zM ?_; intro _ _) | refine zX ?_ | (refine zC ?_; intro _ _ _ _) | (refine zS ?_; intro _ _) | (apply Ws <;> intro hg))
    refine WC.loopX [(0, _), (1, _), (5, _), (7, _), (8, _), (11, _)] (fun s : Nat × Nat => [(12, .int .i64 (s.1 : Int))]) [] (fun s H' => s.1 ≤ k ∧ n0 ≤ s.2 ∧ hasH M s.2 H' ∧ ∀ y, y < s.1 → clashB ns k y = false) (fun s => k - s.1) (0, n1) (by repeat' (first | exact .nil | refine .cons rfl ?_)) rfl ⟨Nat.zero_le _, hn1, hH1, fun x h => absurd h (Nat.not_lt_zero _)⟩ ?_
    clear hH1
    rintro ⟨j, n2⟩ H2 ⟨hj, hn2, hH2, hno2⟩
    simp only at hj hn2 hH2 hno2
    dsimp only [List.cons_append, List.nil_append]
    repeat' (first | refine zP ?_ | refine zA ?_ | (refine zM ?_; intro _ _) | refine zX ?_ | (refine zC ?_; intro _ _ _ _) | (refine zS ?_; intro _ _) | (apply Ws <;> intro hg))
    refine WC.condP rfl (fun hlt2 => ?_) (fun hlt2 => ?_)
    · have hj' : j < k := by omega
      repeat' (first | refine zP ?_ | refine zA ?_ | (refine zM ?_; intro _ _) | refine zX ?_ | (refine zC ?_; intro _ _ _ _) | (refine zS ?_; intro _ _) | (apply Ws <;> intro hg))
      refine WR.call (by first | exact gN | exact gS rfl) rfl rfl (lclash_fs hH2 hS hl hb (a := k) (b := j) (by omega) (by omega)) ?_
      rintro _ H3 ⟨rfl, n3, hn3, hH3⟩
      cases h1 : clashB ns k j with
      | true =>
        repeat' (first | refine zP ?_ | refine zA ?_ | (refine zM ?_; intro _ _) | refine zX ?_ | (refine zC ?_; intro _ _ _ _) | (refine zS ?_; intro _ _) | (apply Ws <;> intro hg))
        refine Ends.ret1 rfl ⟨?_, n3, by omega, hH3⟩
        cases hh : honB N ns with
        | false => rfl
        | true => have := hon_iff.1 hh j k hj' hk'; rw [clash_comm, h1] at this; cases this
      | false =>
        repeat' (first | refine zP ?_ | refine zA ?_ | (refine zM ?_; intro _ _) | refine zX ?_ | (refine zC ?_; intro _ _ _ _) | (refine zS ?_; intro _ _) | (apply Ws <;> intro hg))
        refine Ends.loop (j + 1, n3) (by show k - (j + 1) < k - j; omega) (by repeat' (first | exact .nil | refine .cons rfl ?_)) rfl ⟨hj', by simp only; omega, hH3, fun y h2 => ?_⟩
        replace h2 : y < j + 1 := h2
        rcases Nat.lt_or_ge y j with h4 | h4
        · exact hno2 y h4
        · have : y = j := by omega
          subst this; exact h1
    · repeat' (first | refine zP ?_ | refine zA ?_ | (refine zM ?_; intro _ _) | refine zX ?_ | (refine zC ?_; intro _ _ _ _) | (refine zS ?_; intro _ _) | (apply Ws <;> intro hg))
      refine Ends.loop (k + 1, n2) (by show N - (k + 1) < N - k; omega) (by repeat' (first | exact .nil | refine .cons rfl ?_)) rfl ⟨hk', hn2, hH2, fun x y h1 h2 => ?_⟩
      replace h1 : x < k + 1 := h1
      rcases Nat.lt_or_ge x k with h4 | h4
      · exact hno x y h4 h2
      · have : x = k := by omega
        subst this; exact hno2 y (by omega)
  · repeat' (first | refine zP ?_ | refine zA ?_ | (refine zM ?_; intro _ _) | refine zX ?_ | (refine zC ?_; intro _ _ _ _) | (refine zS ?_; intro _ _) | (apply Ws <;> intro hg))
    refine Ends.ret1 rfl ⟨?_, n1, hn1, hH1⟩
    have : honB N ns = true := hon_iff.2 fun a b h1 h2 => by rw [clash_comm]; exact hno b a (by omega) h1
    rw [this]
end
end Go.Proofs.Ytblopbimchkneaa.Md

namespace Go.Proofs.Ytblopbimchkneaa.Md
open Go Go.Abs Go.Mth
set_option linter.unusedVariables false
set_option linter.unusedSimpArgs false
/-! Models. -/
def xorL (ns : List Nat) (m : Nat) : List Nat := ns.map fun c => c ^^^ m
def fourP (ns : List Nat) (a b : Nat) : Prop := ∀ p q : Bool, ∃ c ∈ ns, c.testBit a = p ∧ c.testBit b = q
theorem xorL_mem {ns : List Nat} {m x : Nat} : x ∈ xorL ns m ↔ ∃ c ∈ ns, c ^^^ m = x := by simp [xorL]
theorem xorL_lt {ns : List Nat} {m N : Nat} (h : ∀ x ∈ ns, x < 2 ^ N) (hm : m < 2 ^ N) : ∀ x ∈ xorL ns m, x < 2 ^ N := fun x hx => by
  obtain ⟨c, hc, rfl⟩ := xorL_mem.1 hx
  exact Nat.xor_lt_two_pow (h c hc) hm
theorem four_none {ns : List Nat} {N a b : Nat} (hab : a < b) (hb : b < N) (h : fourP ns a b) (m : Nat) : honB N (xorL ns m) = false := by
  cases hh : honB N (xorL ns m) with
  | false => rfl
  | true =>
    have h0 := hon_iff.1 hh a b hab hb
    have h1 : ∀ p q : Bool, ∃ c ∈ xorL ns m, c.testBit a = p ∧ c.testBit b = q := fun p q => by
      obtain ⟨c, hc, e1, e2⟩ := h (p ^^ m.testBit a) (q ^^ m.testBit b)
      refine ⟨c ^^^ m, xorL_mem.2 ⟨c, hc, rfl⟩, ?_, ?_⟩
      · rw [Nat.testBit_xor, e1]; cases p <;> cases m.testBit a <;> rfl
      · rw [Nat.testBit_xor, e2]; cases q <;> cases m.testBit b <;> rfl
    rw [clash_iff.2 ⟨h1 true true, h1 true false, h1 false true⟩] at h0
    cases h0
theorem no_four {ns : List Nat} {N : Nat} (h : ∀ a b, a < b → b < N → ¬ fourP ns a b) {c : Nat} (hc : c ∈ ns) : honB N (xorL ns c) = true := by
  rw [hon_iff]
  intro a b hab hb
  cases hcl : clashB (xorL ns c) a b with
  | false => rfl
  | true =>
    refine absurd (fun p q => ?_) (h a b hab hb)
    obtain ⟨⟨x, hx, x1, x2⟩, ⟨y, hy, y1, y2⟩, ⟨z, hz, z1, z2⟩⟩ := clash_iff.1 hcl
    obtain ⟨x, hx', rfl⟩ := xorL_mem.1 hx
    obtain ⟨y, hy', rfl⟩ := xorL_mem.1 hy
    obtain ⟨z, hz', rfl⟩ := xorL_mem.1 hz
    rw [Nat.testBit_xor] at x1 x2 y1 y2 z1 z2
    by_cases h1 : p = c.testBit a <;> by_cases h2 : q = c.testBit b
    · exact ⟨c, hc, h1.symm, h2.symm⟩
    · refine ⟨z, hz', ?_, ?_⟩
      · revert z1 h1; cases p <;> cases z.testBit a <;> cases c.testBit a <;> simp
      · revert z2 h2; cases q <;> cases z.testBit b <;> cases c.testBit b <;> simp
    · refine ⟨y, hy', ?_, ?_⟩
      · revert y1 h1; cases p <;> cases y.testBit a <;> cases c.testBit a <;> simp
      · revert y2 h2; cases q <;> cases y.testBit b <;> cases c.testBit b <;> simp
    · refine ⟨x, hx', ?_, ?_⟩
      · revert x1 h1; cases p <;> cases x.testBit a <;> cases c.testBit a <;> simp
      · revert x2 h2; cases q <;> cases x.testBit b <;> cases c.testBit b <;> simp
/-- The first number of which something holds. -/
def LM (P : Nat → Bool) (B : Nat) (r : Int) : Prop := (∃ k : Nat, k < B ∧ P k = true ∧ (∀ j, j < k → P j = false) ∧ r = k) ∨ ((∀ j, j < B → P j = false) ∧ r = -1)
theorem LM.unique {P : Nat → Bool} {B : Nat} {r s : Int} (h : LM P B r) (h' : LM P B s) : r = s := by
  rcases h with ⟨k, h1, h2, h3, rfl⟩ | ⟨h1, rfl⟩ <;> rcases h' with ⟨k', g1, g2, g3, rfl⟩ | ⟨g1, rfl⟩
  · rcases Nat.lt_trichotomy k k' with h | h | h
    · rw [g3 k h] at h2; cases h2
    · rw [h]
    · rw [h3 k' h] at g2; cases g2
  · rw [g1 k h1] at h2; cases h2
  · rw [h1 k' g1] at g2; cases g2
  · rfl
def ModR (N : Nat) (ns : List Nat) (k e : Int) : Prop := ∃ r, LM (fun m => honB N (xorL ns m)) (2 ^ N) r ∧ k = (if r < 0 then 0 else r) ∧ e = if r < 0 then 12 else 0
attribute [local irreducible] gOK WS WC WR WD Ends FS YS OpV seqK blockK loopK midK retK rdK asgK rangeEnd sat Cell
section
variable {M : HL} {n0 : Nat} {H : Heap} {v : Value} {ns : List Nat}
theorem diffs_fs (hH : hasH M n0 H) (hS : Sl M 1 v (nodes ns)) (hl : ns.length ≤ 1000) (hb : ∀ x ∈ ns, x < 2 ^ 62) {m : Nat} (hm : m < 2 ^ 62) :
    FS C 77 [v, .int .i64 (m : Int)] H (fun e H' => ∃ Mx n', Own 3 1 e (nodes (xorL ns m)) Mx ∧ n0 ≤ n' ∧ hasH (Mx ++ M) n' H') := by
  refine FS.intro (pf := pf77) rfl rfl rfl ?_
  repeat' (first | refine zP ?_ | refine zA ?_ | (refine zM ?_; intro _ _) | refine zX ?_ | (refine zC ?_; intro _ _ _ _) | (refine zS ?_; intro _ _) | (apply Ws <;> intro hg))
  refine WC.loopX [(1, _), (8, _), (9, _)] (fun s : NV => [(5, s.v), (10, .int .i64 (s.k : Int))]) []
    (fun s H' => s.k ≤ ns.length ∧ n0 ≤ s.n ∧ Own 3 1 s.v (nodes (xorL (ns.take s.k) m)) s.Mx ∧ hasH (s.Mx ++ M) s.n H') (fun s => ns.length - s.k) ⟨0, .slice none 0 0, [], [], n0⟩ (by repeat' (first | exact .nil | refine .cons rfl ?_)) rfl
    ⟨Nat.zero_le _, Nat.le_refl _, .nil, hH⟩ ?_
  clear hH
  rintro ⟨k, w, _, Mx, n1⟩ H1 ⟨hk, hn1, hO, hH1⟩
  simp only at hk hn1 hO hH1
  have hS1 := hS.mono (M' := Mx ++ M) fun p hp => List.mem_append_right _ hp
  dsimp only [List.cons_append, List.nil_append]
  repeat' (first | refine zP ?_ | refine zA ?_ | (refine zM ?_; intro _ _) | refine zX ?_ | (refine zC ?_; intro _ _ _ _) | (refine zS ?_; intro _ _) | (apply Ws <;> intro hg))
  refine WC.condP rfl (fun hlt => ?_) (fun hlt => ?_)
  · have hk' : k < ns.length := by omega
    have hx := hb _ (getD_mem (a := 0) hk')
    repeat' (first | refine zP ?_ | refine zA ?_ | (refine zM ?_; intro _ _) | refine zX ?_ | (refine zC ?_; intro _ _ _ _) | (refine zS ?_; intro _ _) | (apply Ws <;> intro hg))
    refine WR.op (by first | exact gN | exact gS rfl) rfl (OpV.xorN rfl rfl (by show ns.getD k 0 < 2 ^ 63; omega) (by show m < 2 ^ 63; omega)) ?_
    refine WR.append1F [] Mx M rfl rfl rfl rfl hO hH1 (new := [.int .i64 ((ns.getD k 0 ^^^ m : Nat) : Int)]) (by rfl) rfl rfl (Nat.le_refl _) (by omega) (by simp [xorL]; omega) fun v3 M3 n3 H3 hO3 hH3 hn3 => ?_
    repeat' (first | refine zP ?_ | refine zA ?_ | (refine zM ?_; intro _ _) | refine zX ?_ | (refine zC ?_; intro _ _ _ _) | (refine zS ?_; intro _ _) | (apply Ws <;> intro hg))
    refine Ends.loop ⟨k + 1, v3, [], M3, n3⟩ (by show ns.length - (k + 1) < ns.length - k; omega) (by repeat' (first | exact .nil | refine .cons rfl ?_)) rfl ⟨hk', by simp only; omega, ?_, hH3⟩
    simp only
    rw [List.take_succ_eq_append_getElem hk', xorL, List.map_append, ← getD_eq (a := 0) hk']
    simpa [nodes, xorL] using hO3
  · have hkl : ns.length = k := by omega
    subst hkl
    rw [List.take_length] at hO
    repeat' (first | refine zP ?_ | refine zA ?_ | (refine zM ?_; intro _ _) | refine zX ?_ | (refine zC ?_; intro _ _ _ _) | (refine zS ?_; intro _ _) | (apply Ws <;> intro hg))
    exact Ends.ret1 rfl ⟨Mx, n1, hO, hn1, hH1⟩

theorem Model_fs (hH : hasH M n0 H) (hS : Sl M 1 v (nodes ns)) (hl : ns.length ≤ 8) {N : Nat} (hN1 : 1 ≤ N) (hN : N ≤ 6) (hb : ∀ x ∈ ns, x < 2 ^ N) :
    FS C 34 [.int .i64 (N : Int), v] H (fun e H' => ∃ k f, e = .tuple #[.int .i64 k, .int .i64 f] ∧ ModR N ns k f ∧ ∃ n', n0 ≤ n' ∧ hasH M n' H') := by
  have hSI : Sl M 1 v (ints (ns.map fun (x : Nat) => (x : Int))) := by rw [← nodesI]; exact hS
  have hb62 := lt_62 hN hb
  have hp62 := pow_le_62 (N := N) (by omega)
  have hp64 := pow_64 hN
  refine FS.intro (pf := pf34) rfl rfl rfl ?_
  repeat' (first | refine zP ?_ | refine zA ?_ | (refine zM ?_; intro _ _) | refine zX ?_ | (refine zC ?_; intro _ _ _ _) | (refine zS ?_; intro _ _) | (apply Ws <;> intro hg))
  refine WR.call (by first | exact gN | exact gS rfl) rfl rfl (Check_fs hH hSI (by simp; omega) _) ?_
  rintro _ H1 ⟨rfl, rfl⟩
  rw [casts_intro hN1 hN hl hb]
  clear hSI
  repeat' (first | refine zP ?_ | refine zA ?_ | (refine zM ?_; intro _ _) | refine zX ?_ | (refine zC ?_; intro _ _ _ _) | (refine zS ?_; intro _ _) | refine zO ?_ | (apply Ws <;> intro hg))
  refine WR.op (by first | exact gN | exact gS rfl) rfl (OpV.shl1 rfl rfl (by show N ≤ 64; omega) (pow_lt_63 (by omega))) ?_
  obtain ⟨B, hB⟩ : ∃ B, 2 ^ N = B := ⟨_, rfl⟩
  rw [hB] at hp62 hp64 ⊢
  repeat' (first | refine zP ?_ | refine zA ?_ | (refine zM ?_; intro _ _) | refine zX ?_ | (refine zC ?_; intro _ _ _ _) | (refine zS ?_; intro _ _) | (apply Ws <;> intro hg))
  refine WC.loopX [(0, _), (1, _), (15, _)] (fun s : Nat × Nat => [(16, .int .i64 (s.1 : Int))]) [] (fun s H' => s.1 ≤ B ∧ n0 ≤ s.2 ∧ hasH M s.2 H' ∧ ∀ j, j < s.1 → honB N (xorL ns j) = false) (fun s => B - s.1) (0, n0) (by repeat' (first | exact .nil | refine .cons rfl ?_)) rfl ⟨Nat.zero_le _, Nat.le_refl _, hH, fun x h => absurd h (Nat.not_lt_zero _)⟩ ?_
  clear hH
  rintro ⟨k, n1⟩ H2 ⟨hk, hn1, hH2, hno⟩
  simp only at hk hn1 hH2 hno
  dsimp only [List.cons_append, List.nil_append]
  repeat' (first | refine zP ?_ | refine zA ?_ | (refine zM ?_; intro _ _) | refine zX ?_ | (refine zC ?_; intro _ _ _ _) | (refine zS ?_; intro _ _) | (apply Ws <;> intro hg))
  refine WC.condP rfl (fun hlt => ?_) (fun hlt => ?_)
  · have hk' : k < B := by omega
    repeat' (first | refine zP ?_ | refine zA ?_ | (refine zM ?_; intro _ _) | refine zX ?_ | (refine zC ?_; intro _ _ _ _) | (refine zS ?_; intro _ _) | (apply Ws <;> intro hg))
    refine WR.call (by first | exact gN | exact gS rfl) rfl rfl (diffs_fs hH2 hS (by omega) hb62 (m := k) (by omega)) ?_
    rintro w H3 ⟨Mx, n3, hO, hn3, hH3⟩
    refine WR.call (by first | exact gN | exact gS rfl) rfl rfl (honest_fs hH3 (hO.sl M) (by simp [xorL]; omega) (lt_62 hN (xorL_lt hb (by omega))) (by omega)) ?_
    rintro _ H4 ⟨rfl, n4, hn4, hH4⟩
    have hH5 := hH4.sub (List.sublist_append_right Mx M)
    cases hh : honB N (xorL ns k) with
    | true =>
      repeat' (first | refine zP ?_ | refine zA ?_ | (refine zM ?_; intro _ _) | refine zX ?_ | (refine zC ?_; intro _ _ _ _) | (refine zS ?_; intro _ _) | (apply Ws <;> intro hg))
      exact Ends.ret2 rfl rfl ⟨_, _, rfl, ⟨(k : Int), .inl ⟨k, by omega, hh, hno, rfl⟩, by rw [if_neg (by omega)], by rw [if_neg (by omega)]⟩, n4, by omega, hH5⟩
    | false =>
      repeat' (first | refine zP ?_ | refine zA ?_ | (refine zM ?_; intro _ _) | refine zX ?_ | (refine zC ?_; intro _ _ _ _) | (refine zS ?_; intro _ _) | (apply Ws <;> intro hg))
      refine Ends.loop (k + 1, n4) (by show B - (k + 1) < B - k; omega) (by repeat' (first | exact .nil | refine .cons rfl ?_)) rfl ⟨hk', by simp only; omega, hH5, fun j hj => ?_⟩
      replace hj : j < k + 1 := hj
      rcases Nat.lt_or_ge j k with h | h
      · exact hno j h
      · have : j = k := by omega
        subst this; exact hh
  · have hkB : k = B := by omega
    repeat' (first | refine zP ?_ | refine zA ?_ | (refine zM ?_; intro _ _) | refine zX ?_ | (refine zC ?_; intro _ _ _ _) | (refine zS ?_; intro _ _) | (apply Ws <;> intro hg))
    exact Ends.ret2 rfl rfl ⟨_, _, rfl, ⟨-1, .inr ⟨fun j hj => hno j (by omega), rfl⟩, rfl, rfl⟩, n1, hn1, hH2⟩
end
end Go.Proofs.Ytblopbimchkneaa.Md

namespace Go.Proofs.Ytblopbimchkneaa.Md
open Go Go.Abs Go.Mth
set_option linter.unusedVariables false
set_option linter.unusedSimpArgs false
def fourB (ns : List Nat) (a b : Nat) : Bool := metB ns a b ns.length 0 && metB ns a b ns.length 1 && metB ns a b ns.length 2 && metB ns a b ns.length 3
theorem metB_iff {ns : List Nat} {a b i : Nat} : metB ns a b ns.length i = true ↔ ∃ c ∈ ns, kd c a b = i := by
  rw [metB, List.take_length, List.any_eq_true]; simp
theorem kd_val (c a b : Nat) (p q : Bool) : kd c a b = (if p = true then 1 else 0) + 2 * (if q = true then 1 else 0) ↔ c.testBit a = p ∧ c.testBit b = q := by
  unfold kd bitN; cases c.testBit a <;> cases c.testBit b <;> cases p <;> cases q <;> simp
theorem four_iff {ns : List Nat} {a b : Nat} : fourB ns a b = true ↔ fourP ns a b := by
  unfold fourB fourP
  simp only [Bool.and_eq_true, metB_iff]
  constructor
  · rintro ⟨⟨⟨h0, h1⟩, h2⟩, h3⟩ p q
    have : ∃ c ∈ ns, kd c a b = (if p = true then 1 else 0) + 2 * (if q = true then 1 else 0) := by
      cases p <;> cases q
      · exact h0
      · exact h2
      · exact h1
      · exact h3
    obtain ⟨c, hc, h⟩ := this
    exact ⟨c, hc, (kd_val c a b p q).1 h⟩
  · intro h
    have g : ∀ p q : Bool, ∃ c ∈ ns, kd c a b = (if p = true then 1 else 0) + 2 * (if q = true then 1 else 0) := fun p q => by
      obtain ⟨c, hc, h⟩ := h p q
      exact ⟨c, hc, (kd_val c a b p q).2 h⟩
    exact ⟨⟨⟨g false false, g true false⟩, g false true⟩, g true true⟩
theorem fourP_comm {ns : List Nat} {a b : Nat} (h : fourP ns a b) : fourP ns b a := fun p q => by
  obtain ⟨c, hc, h1, h2⟩ := h q p
  exact ⟨c, hc, h2, h1⟩
theorem LM.step {P : Nat → Bool} {k : Nat} {r : Int} (h : LM P k r) (hr : 0 ≤ r ∨ P k = false) : LM P (k + 1) r := by
  rcases h with ⟨w, h1, h2, h3, rfl⟩ | ⟨h1, rfl⟩
  · exact .inl ⟨w, by omega, h2, h3, rfl⟩
  · rcases hr with h | h
    · omega
    · refine .inr ⟨fun j hj => ?_, rfl⟩
      rcases Nat.lt_or_ge j k with h4 | h4
      · exact h1 j h4
      · have : j = k := by omega
        subst this; exact h
theorem LM.now {P : Nat → Bool} {k : Nat} {r : Int} (h : LM P k r) (hr : r < 0) (hk : P k = true) : LM P (k + 1) (k : Int) := by
  rcases h with ⟨w, h1, h2, h3, rfl⟩ | ⟨h1, rfl⟩
  · omega
  · exact .inl ⟨k, by omega, hk, h1, rfl⟩
theorem LM.ge {P : Nat → Bool} {k : Nat} {r : Int} (h : LM P k r) : -1 ≤ r ∧ r < k := by
  rcases h with ⟨w, h1, h2, h3, rfl⟩ | ⟨h1, rfl⟩ <;> omega
theorem LM.some {P : Nat → Bool} {k j : Nat} {r : Int} (h : LM P k r) (hj : j < k) (hp : P j = true) : 0 ≤ r := by
  rcases h with ⟨w, h1, h2, h3, rfl⟩ | ⟨h1, rfl⟩
  · omega
  · rw [h1 j hj] at hp; cases hp
theorem LM.none {P : Nat → Bool} {k : Nat} {r : Int} (h : LM P k r) (hp : ∀ j, j < k → P j = false) : r = -1 := by
  rcases h with ⟨w, h1, h2, h3, rfl⟩ | ⟨h1, rfl⟩
  · rw [hp w h1] at h2; cases h2
  · rfl
theorem nq4 : ∀ a b : Bool, pureRun C.c.P (binOp .neq 4 (.bool a) (.bool b)) = some (.bool (a != b)) := by
  intro a b
  cases a <;> cases b <;> kernel_rfl
theorem eq4 : ∀ b0 b1 b2 b3 : Bool, pureRun C.c.P (binOp .eql 56 (.agg #[.bool b0, .bool b1, .bool b2, .bool b3]) (.agg #[.bool true, .bool true, .bool true, .bool true])) = some (.bool (b0 && b1 && b2 && b3)) := by
  intro b0 b1 b2 b3
  cases b0 <;> cases b1 <;> cases b2 <;> cases b3 <;> kernel_rfl
theorem eq4g : ∀ (x y : Operand) (b0 b1 b2 b3 : Bool), pureRun C.c.P (eqGuard .eql 56 x y (.agg #[.bool b0, .bool b1, .bool b2, .bool b3]) (.agg #[.bool true, .bool true, .bool true, .bool true])) = some () := by
  intro x y b0 b1 b2 b3
  kernel_rfl
theorem OpV.eqAgg {L : Env} {H : Heap} {dst : Option Tmp} {x y : Operand} {ty ty2 ty3 : TypeId} {pos : String} {af : Array Edge} {g : Option (Nat × Bool)} {A B : Array Value} {r : Bool} (e1 : pureRun C.c.P (eqGuard .eql ty x y (.agg A) (.agg B)) = some ()) (e2 : pureRun C.c.P (binOp .eql ty (.agg A) (.agg B)) = some (.bool r))
    (hx : ev L x = some (.agg A)) (hy : ev L y = some (.agg B)) (hA : plainV (.agg A) = true) (hB : plainV (.agg B) = true) :
    OpV C (.plain ⟨dst, .binOp .eql ty x y ty2, ty3, pos, af, g⟩) L H (.bool r) H := by
  refine OpV.plain (fun t ht => ?_) (fun t ht => by simp [Op.operands, ev_ok ht hx, ev_ok ht hy, hA, hB]) rfl
  simp only [pureNext, execOp, ev_ok ht hx, ev_ok ht hy, pureRun_bind, e1, e2, Option.bind_some]
  rfl
structure LS where
  k : Nat
  n : Nat
  f : Bool
structure LW where
  k : Nat
  n : Nat
  w : Int
attribute [local irreducible] gOK WS WC WR WD Ends FS YS OpV seqK blockK loopK midK retK rdK asgK rangeEnd sat Cell
section
variable {M : HL} {n0 : Nat} {H : Heap} {v : Value} {ns : List Nat}
theorem from_fs (hH : hasH M n0 H) (hS : Sl M 1 v (nodes ns)) (hl : ns.length ≤ 1000) (hb : ∀ x ∈ ns, x < 2 ^ 62) {m N b3 b4 : Nat} (hN : N ≤ 61) (hm : m < 2 ^ 62) (hx : ∀ x ∈ xorL ns m, x < 2 ^ 62)
    (h3 : (b3, Ch.row 3 0 0 [.int .i64 (N : Int)]) ∈ M) (h4 : (b4, Ch.row 22 0 0 [v]) ∈ M) :
    FS C 47 [.int .i64 (m : Int), .pointer (some ⟨b4, 0, some 0⟩), .pointer (some ⟨b3, 0, some 0⟩)] H (fun e H' => e = .bool (honB N (xorL ns m)) ∧ ∃ n', n0 ≤ n' ∧ hasH M n' H') := by
  refine FS.intro (pf := pf47) rfl rfl rfl ?_
  repeat' (first | refine zP ?_ | refine zA ?_ | (refine zM ?_; intro _ _) | refine zX ?_ | (refine zC ?_; intro _ _ _ _) | (refine zS ?_; intro _ _) | (apply Ws <;> intro hg))
  refine WC.loopX [(0, _), (1, _), (2, _), (8, _), (9, _)] (fun s : NV => [(5, s.v), (10, .int .i64 (s.k : Int))]) []
    (fun s H' => s.k ≤ ns.length ∧ n0 ≤ s.n ∧ Own 3 1 s.v (nodes (xorL (ns.take s.k) m)) s.Mx ∧ hasH (s.Mx ++ M) s.n H') (fun s => ns.length - s.k) ⟨0, .slice none 0 0, [], [], n0⟩ (by repeat' (first | exact .nil | refine .cons rfl ?_)) rfl
    ⟨Nat.zero_le _, Nat.le_refl _, .nil, hH⟩ ?_
  clear hH
  rintro ⟨k, w, _, Mx, n1⟩ H1 ⟨hk, hn1, hO, hH1⟩
  simp only at hk hn1 hO hH1
  have hS1 := hS.mono (M' := Mx ++ M) fun p hp => List.mem_append_right _ hp
  have h3' := List.mem_append_right Mx h3
  dsimp only [List.cons_append, List.nil_append]
  repeat' (first | refine zP ?_ | refine zA ?_ | (refine zM ?_; intro _ _) | refine zX ?_ | (refine zC ?_; intro _ _ _ _) | (refine zS ?_; intro _ _) | (apply Ws <;> intro hg))
  refine WC.condP rfl (fun hlt => ?_) (fun hlt => ?_)
  · have hk' : k < ns.length := by omega
    have hx := hb _ (getD_mem (a := 0) hk')
    repeat' (first | refine zP ?_ | refine zA ?_ | (refine zM ?_; intro _ _) | refine zX ?_ | (refine zC ?_; intro _ _ _ _) | (refine zS ?_; intro _ _) | (apply Ws <;> intro hg))
    refine WR.op (by first | exact gN | exact gS rfl) rfl (OpV.xorN rfl rfl (by show ns.getD k 0 < 2 ^ 63; omega) (by show m < 2 ^ 63; omega)) ?_
    refine WR.append1F [] Mx M rfl rfl rfl rfl hO hH1 (new := [.int .i64 ((ns.getD k 0 ^^^ m : Nat) : Int)]) (by rfl) rfl rfl (Nat.le_refl _) (by omega) (by simp [xorL]; omega) fun v3 M3 n3 H3 hO3 hH3 hn3 => ?_
    repeat' (first | refine zP ?_ | refine zA ?_ | (refine zM ?_; intro _ _) | refine zX ?_ | (refine zC ?_; intro _ _ _ _) | (refine zS ?_; intro _ _) | (apply Ws <;> intro hg))
    refine Ends.loop ⟨k + 1, v3, [], M3, n3⟩ (by show ns.length - (k + 1) < ns.length - k; omega) (by repeat' (first | exact .nil | refine .cons rfl ?_)) rfl ⟨hk', by simp only; omega, ?_, hH3⟩
    simp only
    rw [List.take_succ_eq_append_getElem hk', xorL, List.map_append, ← getD_eq (a := 0) hk']
    simpa [nodes, xorL] using hO3
  · have hkl : ns.length = k := by omega
    subst hkl
    rw [List.take_length] at hO
    repeat' (first | refine zP ?_ | refine zA ?_ | (refine zM ?_; intro _ _) | refine zX ?_ | (refine zC ?_; intro _ _ _ _) | (refine zS ?_; intro _ _) | (apply Ws <;> intro hg))
    refine WR.call (by first | exact gN | exact gS rfl) rfl rfl (lhonest_fs hH1 (hO.sl M) (by simp [xorL]; omega) hx hN) ?_
    rintro _ H2 ⟨rfl, n2, hn2, hH2⟩
    repeat' (first | refine zP ?_ | refine zA ?_ | (refine zM ?_; intro _ _) | refine zX ?_ | (refine zC ?_; intro _ _ _ _) | (refine zS ?_; intro _ _) | (apply Ws <;> intro hg))
    exact Ends.ret1 rfl ⟨rfl, n2, by omega, hH2.sub (List.sublist_append_right Mx M)⟩

set_option maxHeartbeats 4000000 in
theorem MouldModels_fs (hH : hasH M n0 H) {a b c : Int} {hs : List Int} (ha : 0 ≤ a ∧ a ≤ 255) (hb : 0 ≤ b ∧ b ≤ 255) (hc : 0 ≤ c ∧ c ≤ 255) (hl : hs.length = 14) (hu : ∀ x ∈ hs, 0 ≤ x ∧ x ≤ 255) :
    FS C 10 [.agg (trayV a b c hs).toArray] H (fun e H' => e = .bool true) := by
  have hone := tray_one a b c hs
  refine FS.intro (pf := pf10) rfl rfl rfl ?_
  repeat' (first | refine zP ?_ | refine zA ?_ | (refine zM ?_; intro _ _) | refine zX ?_ | (refine zC ?_; intro _ _ _ _) | (refine zS ?_; intro _ _))
  rename_i H1 hH1
  refine WR.op (by first | exact gN | exact gS rfl) rfl (OpV.loadAll (k := 17) rfl hH1 (.head _) (.row _ _ _ _) (by simp [trayV, hl])) ?_
  refine WR.call (by first | exact gN | exact gS rfl) rfl rfl (made_fs hH1.tail ha hb hc hl hu (most := 5) (many := 8) (by omega) (by omega)) ?_
  rintro _ H2 ⟨N, ns, v, Mx, n2, rfl, hN1, hN5, hnl, hnb, hO, hn2, hH2⟩
  clear hH1
  have hS := hO.sl M
  have hv1 := hS.one_
  clear hO hone
  generalize Mx ++ M = T at hH2 hS
  have hN6 : N ≤ 6 := by omega
  have hb62 := lt_62 hN6 hnb
  have hp62 := pow_le_62 (N := N) (by omega)
  have hp64 := pow_64 hN6
  repeat' (first | refine zP ?_ | refine zA ?_ | (refine zM ?_; intro _ _) | refine zX ?_ | (refine zC ?_; intro _ _ _ _) | (refine zS ?_; intro _ _) | (apply Ws <;> intro hg))
  rename_i Ha hHa Hb hHb Hc hHc Hd hHd
  clear hHa hHb hHc hH2
  have h3 : (n2, Ch.row 3 0 0 [.int .i64 (N : Int)]) ∈ (n2 + 1, Ch.row 22 0 0 [v]) :: (n2, Ch.row 3 0 0 [.int .i64 (N : Int)]) :: T := .tail _ (.head _)
  have h4 : (n2 + 1, Ch.row 22 0 0 [v]) ∈ (n2 + 1, Ch.row 22 0 0 [v]) :: (n2, Ch.row 3 0 0 [.int .i64 (N : Int)]) :: T := .head _
  replace hS := (hS.cons (p := (n2, Ch.row 3 0 0 [.int .i64 (N : Int)]))).cons (p := (n2 + 1, Ch.row 22 0 0 [v]))
  generalize (n2 + 1, Ch.row 22 0 0 [v]) :: (n2, Ch.row 3 0 0 [.int .i64 (N : Int)]) :: T = U at hHd hS h3 h4
  -- all pairs of marks
  refine WC.loopX [(3, _), (4, _), (28, _)] (fun s : LS => [(5, .bool s.f), (29, .int .i64 (s.k : Int))]) [] (fun s H' => s.k ≤ N ∧ n2 + 2 ≤ s.n ∧ hasH U s.n H' ∧ (s.f = true ↔ ∃ x y, x < s.k ∧ y < x ∧ fourB ns x y = true)) (fun s => N - s.k) ⟨0, n2 + 2, false⟩ (by repeat' (first | exact .nil | refine .cons rfl ?_)) rfl
    ⟨Nat.zero_le _, by simp only; omega, hHd, by simp⟩ ?_
  clear hHd
  rintro ⟨i, n3, f⟩ H3 ⟨hi, hn3, hH3, hf⟩
  simp only at hi hn3 hH3 hf
  dsimp only [List.cons_append, List.nil_append]
  repeat' (first | refine zP ?_ | refine zA ?_ | (refine zM ?_; intro _ _) | refine zX ?_ | (refine zC ?_; intro _ _ _ _) | (refine zS ?_; intro _ _) | (apply Ws <;> intro hg))
  refine WC.condP rfl (fun hlt => ?_) (fun hlt => ?_)
  · have hi' : i < N := by omega
    repeat' (first | refine zP ?_ | refine zA ?_ | (refine zM ?_; intro _ _) | refine zX ?_ | (refine zC ?_; intro _ _ _ _) | (refine zS ?_; intro _ _) | (apply Ws <;> intro hg))
    refine WC.loopX [(3, _), (4, _), (6, _), (28, _), (29, _), (32, _)] (fun s : LS => [(5, .bool s.f), (33, .int .i64 (s.k : Int))]) [] (fun s H' => s.k ≤ i ∧ n2 + 2 ≤ s.n ∧ hasH U s.n H' ∧ (s.f = true ↔ f = true ∨ ∃ y, y < s.k ∧ fourB ns i y = true)) (fun s => i - s.k) ⟨0, n3, f⟩ (by repeat' (first | exact .nil | refine .cons rfl ?_)) rfl
      ⟨Nat.zero_le _, hn3, hH3, by simp⟩ ?_
    clear hH3
    rintro ⟨j, n4, f2⟩ H4 ⟨hj, hn4, hH4, hf2⟩
    simp only at hj hn4 hH4 hf2
    dsimp only [List.cons_append, List.nil_append]
    repeat' (first | refine zP ?_ | refine zA ?_ | (refine zM ?_; intro _ _) | refine zX ?_ | (refine zC ?_; intro _ _ _ _) | (refine zS ?_; intro _ _) | (apply Ws <;> intro hg))
    refine WC.condP rfl (fun hlt2 => ?_) (fun hlt2 => ?_)
    · have hj' : j < i := by omega
      repeat' (first | refine zP ?_ | refine zA ?_ | (refine zM ?_; intro _ _) | refine zX ?_ | (refine zC ?_; intro _ _ _ _) | (refine zS ?_; intro _ _) | (apply Ws <;> intro hg))
      rename_i H5 hH5
      have hSc : ∀ {ch : Ch}, Sl ((n4, ch) :: U) 1 v (nodes ns) := hS.cons
      have hS5 := hSc (ch := .row 56 0 0 (bools [false, false, false, false]))
      replace hH5 : hasH ((n4, .row 56 0 0 (bools [false, false, false, false])) :: U) (n4 + 1) H5 := hH5
      have h4c : ∀ {ch : Ch}, (n2 + 1, Ch.row 22 0 0 [v]) ∈ (n4, ch) :: U := List.mem_cons_of_mem _ h4
      have h45 := h4c (ch := .row 56 0 0 (bools [false, false, false, false]))
      clear hH4
      repeat' (first | refine zP ?_ | refine zA ?_ | (refine zM ?_; intro _ _) | refine zX ?_ | (refine zC ?_; intro _ _ _ _) | (refine zS ?_; intro _ _) | (apply Ws <;> intro hg))
      refine WC.loopX [(3, _), (4, _), (5, _), (6, _), (7, _), (8, _), (28, _), (29, _), (32, _), (33, _), (36, _), (37, _)] (fun s : BL => [(38, .int .i64 (s.k : Int))]) []
        (fun s H' => s.k ≤ ns.length ∧ s.l.length = 4 ∧ (∀ z, z < 4 → s.l.getD z false = metB ns i j s.k z) ∧ hasH ((n4, .row 56 0 0 (bools s.l)) :: U) (n4 + 1) H') (fun s => ns.length - s.k) ⟨0, [false, false, false, false]⟩ (by repeat' (first | exact .nil | refine .cons rfl ?_)) rfl
        ⟨Nat.zero_le _, rfl, fun i hi => by match i, hi with | 0, _ | 1, _ | 2, _ | 3, _ => rfl, hH5⟩ ?_
      rintro ⟨k, l⟩ H6 ⟨hk, hll, hm, hH6⟩
      simp only at hk hll hm hH6
      have hS6 := hSc (ch := .row 56 0 0 (bools l))
      clear hH5 hS5 h45
      dsimp only [List.cons_append, List.nil_append]
      repeat' (first | refine zP ?_ | refine zA ?_ | (refine zM ?_; intro _ _) | refine zX ?_ | (refine zC ?_; intro _ _ _ _) | (refine zS ?_; intro _ _) | (apply Ws <;> intro hg))
      refine WC.condP rfl (fun hlt3 => ?_) (fun hlt3 => ?_)
      · have hk' : k < ns.length := by omega
        have hx := hb62 _ (getD_mem (a := 0) hk')
        repeat' (first | refine zP ?_ | refine zA ?_ | (refine zM ?_; intro _ _) | refine zX ?_ | (refine zC ?_; intro _ _ _ _) | (refine zS ?_; intro _ _) | (apply Ws <;> intro hg))
        obtain ⟨c, hc⟩ : ∃ c, ns.getD k 0 = c := ⟨_, rfl⟩
        rw [hc] at hx ⊢
        have hsh : ∀ m, c >>> m < 2 ^ 63 := fun m => Nat.lt_of_le_of_lt (Nat.shiftRight_le c m) (by omega)
        refine WR.op (by first | exact gN | exact gS rfl) rfl (OpV.shrN rfl rfl (by show i ≤ 64; omega)) ?_
        refine WR.op (by first | exact gN | exact gS rfl) rfl (OpV.andN (b := 1) rfl rfl (hsh i) (by decide)) ?_
        repeat' (first | refine zP ?_ | refine zA ?_ | (refine zM ?_; intro _ _) | refine zX ?_ | (refine zC ?_; intro _ _ _ _) | (refine zS ?_; intro _ _) | (apply Ws <;> intro hg))
        refine WR.op (by first | exact gN | exact gS rfl) rfl (OpV.shrN rfl rfl (by show j ≤ 64; omega)) ?_
        refine WR.op (by first | exact gN | exact gS rfl) rfl (OpV.andN (b := 1) rfl rfl (hsh j) (by decide)) ?_
        rw [shr_one, shr_one]
        have h1 := bitN_lt c i
        have h2 := bitN_lt c j
        have h4' := kd_lt c i j
        have hkd : kd c i j = bitN c i + 2 * bitN c j := rfl
        obtain ⟨x, hx1⟩ : ∃ x, bitN c i = x := ⟨_, rfl⟩
        obtain ⟨y, hy1⟩ : ∃ y, bitN c j = y := ⟨_, rfl⟩
        obtain ⟨z, hz1⟩ : ∃ z, kd c i j = z := ⟨_, rfl⟩
        rw [hz1] at h4' hkd
        rw [hx1, hy1] at hkd
        rw [hx1] at h1 ⊢
        rw [hy1] at h2 ⊢
        repeat' (first | refine zP ?_ | refine zA ?_ | (refine zM ?_; intro _ _) | refine zX ?_ | (refine zC ?_; intro _ _ _ _) | (refine zS ?_; intro _ _) | (apply Ws <;> intro hg))
        rw [show (x : Int) + 2 * (y : Int) = ((z : Nat) : Int) by omega]
        repeat' (first | refine zP ?_ | refine zA ?_ | (refine zM ?_; intro _ _) | refine zX ?_ | (refine zC ?_; intro _ _ _ _) | (refine zS ?_; intro _ _) | (apply Ws <;> intro hg))
        rename_i H7 hH7
        refine Ends.loop ⟨k + 1, l.set z true⟩ (by show ns.length - (k + 1) < ns.length - k; omega) (by repeat' (first | exact .nil | refine .cons rfl ?_)) rfl ⟨hk', by simpa using hll, fun i' hi' => ?_, hH7⟩
        simp only
        rw [getD_set' (by omega), metB_succ hk', hc, hz1, ← hm i' hi']
        by_cases h : i' = z
        · rw [if_pos h, h]; simp
        · rw [if_neg h]; simp [show ¬ z = i' from fun e => h e.symm]
      · have hkl : ns.length = k := by omega
        subst hkl
        have hfb : fourB ns i j = (l.getD 0 false && l.getD 1 false && l.getD 2 false && l.getD 3 false) := by
          rw [fourB, ← hm 0 (by omega), ← hm 1 (by omega), ← hm 2 (by omega), ← hm 3 (by omega)]
        obtain ⟨b0, b1, b2, b3, rfl⟩ : ∃ b0 b1 b2 b3, l = [b0, b1, b2, b3] := by
          match l, hll with
          | [b0, b1, b2, b3], _ => exact ⟨b0, b1, b2, b3, rfl⟩
        replace hfb : fourB ns i j = (b0 && b1 && b2 && b3) := hfb
        have hstep : (∃ y, y < j + 1 ∧ fourB ns i y = true) ↔ (∃ y, y < j ∧ fourB ns i y = true) ∨ fourB ns i j = true := by
          constructor
          · rintro ⟨y, h1, h2⟩
            by_cases h : y = j
            · subst h; exact .inr h2
            · exact .inl ⟨y, by omega, h2⟩
          · rintro (⟨y, h1, h2⟩ | h)
            · exact ⟨y, by omega, h2⟩
            · exact ⟨j, by omega, h⟩
        have hback := hH6.tail
        cases f2 with
        | true =>
          repeat' (first | refine zP ?_ | refine zA ?_ | (refine zM ?_; intro _ _) | refine zX ?_ | (refine zC ?_; intro _ _ _ _) | (refine zS ?_; intro _ _) | (apply Ws <;> intro hg))
          refine Ends.loop ⟨j + 1, n4 + 1, true⟩ (by show i - (j + 1) < i - j; omega) (by repeat' (first | exact .nil | refine .cons rfl ?_)) rfl ⟨hj', by simp only; omega, hback, ?_⟩
          simp only
          rw [hstep, ← or_assoc, ← hf2]; simp
        | false =>
          repeat' (first | refine zP ?_ | refine zA ?_ | (refine zM ?_; intro _ _) | refine zX ?_ | (refine zC ?_; intro _ _ _ _) | (refine zS ?_; intro _ _) | (apply Ws <;> intro hg))
          refine WR.op (by first | exact gN | exact gS rfl) rfl (OpV.loadAll (k := 4) (cs := bools [b0, b1, b2, b3]) rfl hH6 (.head _) (.row _ _ _ _) rfl) ?_
          repeat' (first | refine zP ?_ | refine zA ?_ | (refine zM ?_; intro _ _) | refine zX ?_ | (refine zC ?_; intro _ _ _ _) | (refine zS ?_; intro _ _) | (apply Ws <;> intro hg))
          refine WR.op (by first | exact gN | exact gS rfl) rfl (OpV.bldA (vs := [(0, .bool true), (1, .bool true), (2, .bool true), (3, .bool true)]) rfl (cs := #[.bool true, .bool true, .bool true, .bool true]) (by rfl)) ?_
          refine WR.op (by first | exact gN | exact gS rfl) rfl (OpV.eqAgg (eq4g _ _ b0 b1 b2 b3) (eq4 b0 b1 b2 b3) rfl rfl rfl rfl) ?_
          rw [← hfb]
          repeat' (first | refine zP ?_ | refine zA ?_ | (refine zM ?_; intro _ _) | refine zX ?_ | (refine zC ?_; intro _ _ _ _) | (refine zS ?_; intro _ _) | (apply Ws <;> intro hg))
          refine Ends.loop ⟨j + 1, n4 + 1, fourB ns i j⟩ (by show i - (j + 1) < i - j; omega) (by repeat' (first | exact .nil | refine .cons rfl ?_)) rfl ⟨hj', by simp only; omega, hback, ?_⟩
          simp only
          rw [hstep, ← or_assoc, ← hf2]; simp
    · repeat' (first | refine zP ?_ | refine zA ?_ | (refine zM ?_; intro _ _) | refine zX ?_ | (refine zC ?_; intro _ _ _ _) | (refine zS ?_; intro _ _) | (apply Ws <;> intro hg))
      refine Ends.loop ⟨i + 1, n4, f2⟩ (by show N - (i + 1) < N - i; omega) (by repeat' (first | exact .nil | refine .cons rfl ?_)) rfl ⟨hi', hn4, hH4, ?_⟩
      simp only
      rw [hf2, hf]
      constructor
      · rintro (⟨x, y, h1, h2⟩ | ⟨y, h1, h2⟩)
        · exact ⟨x, y, by omega, h2⟩
        · exact ⟨i, y, by omega, by omega, h2⟩
      · rintro ⟨x, y, h1, h2, h3⟩
        by_cases h : x = i
        · subst h; exact .inr ⟨y, by omega, h3⟩
        · exact .inl ⟨x, y, by omega, h2, h3⟩
  have hiN : N = i := by omega
  subst hiN
  have hf4 : f = true ↔ ∃ x y, y < x ∧ x < N ∧ fourP ns y x := by
    rw [hf]
    constructor
    · rintro ⟨x, y, h1, h2, h3⟩; exact ⟨x, y, h2, h1, fourP_comm (four_iff.1 h3)⟩
    · rintro ⟨x, y, h1, h2, h3⟩; exact ⟨x, y, h2, h1, four_iff.2 (fourP_comm h3)⟩
  clear hf
  repeat' (first | refine zP ?_ | refine zA ?_ | (refine zM ?_; intro _ _) | refine zX ?_ | (refine zC ?_; intro _ _ _ _) | (refine zS ?_; intro _ _) | (apply Ws <;> intro hg))
  refine WR.op (by first | exact gN | exact gS rfl) rfl (OpV.shl1 rfl rfl (by show N ≤ 64; omega) (pow_lt_63 (by omega))) ?_
  have hxl : ∀ {m}, m < 2 ^ N → ∀ x ∈ xorL ns m, x < 2 ^ 62 := fun h => lt_62 hN6 (xorL_lt hnb h)
  have hxc : ∀ {m}, m < 2 ^ N → castsE (N : Int) ((xorL ns m).map fun (x : Nat) => (x : Int)) = 0 := fun h => casts_intro hN1 hN6 (by simp [xorL]; omega) (xorL_lt hnb h)
  have hPN : 0 < 2 ^ N := Nat.two_pow_pos N
  obtain ⟨B, hB⟩ : ∃ B, 2 ^ N = B := ⟨_, rfl⟩
  rw [hB] at hp62 hp64 hPN ⊢
  rw [hB] at hnb
  simp only [hB] at hxl hxc
  repeat' (first | refine zP ?_ | refine zA ?_ | (refine zM ?_; intro _ _) | refine zX ?_ | (refine zC ?_; intro _ _ _ _) | (refine zS ?_; intro _ _) | (apply Ws <;> intro hg))
  refine WC.loopX [(3, _), (4, _), (5, _), (11, _), (64, _)] (fun s : LW => [(12, .int .i64 s.w), (65, .int .i64 (s.k : Int))]) [] (fun s H' => s.k ≤ B ∧ n2 + 2 ≤ s.n ∧ hasH U s.n H' ∧ LM (fun m => honB N (xorL ns m)) s.k s.w) (fun s => B - s.k) ⟨0, n3, -1⟩ (by repeat' (first | exact .nil | refine .cons rfl ?_)) rfl
    ⟨Nat.zero_le _, hn3, hH3, .inr ⟨fun j h => absurd h (Nat.not_lt_zero _), rfl⟩⟩ ?_
  clear hH3
  rintro ⟨k, n4, want⟩ H4 ⟨hk, hn4, hH4, hw⟩
  simp only at hk hn4 hH4 hw
  dsimp only [List.cons_append, List.nil_append]
  repeat' (first | refine zP ?_ | refine zA ?_ | (refine zM ?_; intro _ _) | refine zX ?_ | (refine zC ?_; intro _ _ _ _) | (refine zS ?_; intro _ _) | (apply Ws <;> intro hg))
  refine WC.condP rfl (fun hlt => ?_) (fun hlt => ?_)
  · have hk' : k < B := by omega
    by_cases hw0 : want < 0
    · repeat' (first | refine zP ?_ | refine zA ?_ | (refine zM ?_; intro _ _) | refine zX ?_ | (refine zC ?_; intro _ _ _ _) | (refine zS ?_; intro _ _) | refine zO ?_ | (apply Ws <;> intro hg))
      refine WR.callV (by first | exact gN | exact gS rfl) rfl rfl rfl (from_fs hH4 hS (by omega) hb62 (m := k) (N := N) (by omega) (by omega) (hxl hk') h3 h4) ?_
      rintro _ H5 ⟨rfl, n5, hn5, hH5⟩
      cases hh : honB N (xorL ns k) with
      | true =>
        repeat' (first | refine zP ?_ | refine zA ?_ | (refine zM ?_; intro _ _) | refine zX ?_ | (refine zC ?_; intro _ _ _ _) | (refine zS ?_; intro _ _) | (apply Ws <;> intro hg))
        exact Ends.loop ⟨k + 1, n5, (k : Int)⟩ (by show B - (k + 1) < B - k; omega) (by repeat' (first | exact .nil | refine .cons rfl ?_)) rfl ⟨hk', by simp only; omega, hH5, hw.now hw0 hh⟩
      | false =>
        repeat' (first | refine zP ?_ | refine zA ?_ | (refine zM ?_; intro _ _) | refine zX ?_ | (refine zC ?_; intro _ _ _ _) | (refine zS ?_; intro _ _) | (apply Ws <;> intro hg))
        exact Ends.loop ⟨k + 1, n5, want⟩ (by show B - (k + 1) < B - k; omega) (by repeat' (first | exact .nil | refine .cons rfl ?_)) rfl ⟨hk', by simp only; omega, hH5, hw.step (.inr hh)⟩
    · repeat' (first | refine zP ?_ | refine zA ?_ | (refine zM ?_; intro _ _) | refine zX ?_ | (refine zC ?_; intro _ _ _ _) | (refine zS ?_; intro _ _) | refine zO ?_ | (apply Ws <;> intro hg))
      exact Ends.loop ⟨k + 1, n4, want⟩ (by show B - (k + 1) < B - k; omega) (by repeat' (first | exact .nil | refine .cons rfl ?_)) rfl ⟨hk', hn4, hH4, hw.step (.inl (by omega))⟩
  have hkB : B = k := by omega
  subst hkB
  have hwg := hw.ge
  have hfw : f = decide (want < 0) := by
    rw [Bool.eq_iff_iff, hf4, decide_eq_true_eq]
    constructor
    · rintro ⟨x, y, h1, h2, h3⟩
      have := hw.none fun j _ => four_none h1 h2 h3 j
      omega
    · intro h
      refine Classical.byContradiction fun hn => ?_
      have h5 : ∀ a b, a < b → b < N → ¬ fourP ns a b := fun a b h1 h2 h3 => hn ⟨b, a, h1, h2, h3⟩
      cases hns : ns with
      | nil =>
        have : honB N (xorL ns 0) = true := by rw [hns, hon_iff]; intro a b _ _; rfl
        have := hw.some hPN this
        omega
      | cons c l =>
        have hc : c ∈ ns := by rw [hns]; simp
        have := hw.some (hnb c hc) (no_four h5 hc)
        omega
  repeat' (first | refine zP ?_ | refine zA ?_ | (refine zM ?_; intro _ _) | refine zX ?_ | (refine zC ?_; intro _ _ _ _) | (refine zS ?_; intro _ _) | (apply Ws <;> intro hg))
  refine WR.call (by first | exact gN | exact gS rfl) rfl rfl (Model_fs hH4 hS (by omega) hN1 hN6 (by rw [hB]; exact hnb)) ?_
  rintro _ H5 ⟨kk, ee, rfl, ⟨r, hr, hk1, hk2⟩, n5, hn5, hH5⟩
  rw [hB] at hr
  obtain rfl := hw.unique hr
  clear hH4
  repeat' (first | refine zP ?_ | refine zA ?_ | (refine zM ?_; intro _ _) | refine zX ?_ | (refine zC ?_; intro _ _ _ _) | (refine zS ?_; intro _ _) | (apply Ws <;> intro hg))
  refine WR.op (by first | exact gN | exact gS rfl) rfl (OpV.neB (nq4 _ _) rfl rfl) ?_
  rw [← hfw, bne_self_eq_false]
  repeat' (first | refine zP ?_ | refine zA ?_ | (refine zM ?_; intro _ _) | refine zX ?_ | (refine zC ?_; intro _ _ _ _) | (refine zS ?_; intro _ _) | (apply Ws <;> intro hg))
  cases f with
  | true =>
    have hw0 : want < 0 := of_decide_eq_true hfw.symm
    rw [if_pos hw0] at hk1 hk2
    subst hk1; subst hk2
    repeat' (first | refine zP ?_ | refine zA ?_ | (refine zM ?_; intro _ _) | refine zX ?_ | (refine zC ?_; intro _ _ _ _) | (refine zS ?_; intro _ _) | refine zO ?_ | (apply Ws <;> intro hg))
    refine WR.call (by first | exact gN | exact gS rfl) rfl rfl (FS.works (C := C) (R := fun v H' => v = .bool true) rfl) ?_
    rintro _ _ rfl
    repeat' (first | refine zP ?_ | refine zA ?_ | (refine zM ?_; intro _ _) | refine zX ?_ | (refine zC ?_; intro _ _ _ _) | (refine zS ?_; intro _ _) | (apply Ws <;> intro hg))
    exact Ends.ret1 rfl rfl
  | false =>
    have hw0 : ¬ want < 0 := of_decide_eq_false hfw.symm
    rw [if_neg hw0] at hk1 hk2
    subst hk1; subst hk2
    have h5 : ∀ a b, a < b → b < N → ¬ fourP ns a b := fun a b h1 h2 h3 => by
      have := hf4.2 ⟨b, a, h1, h2, h3⟩
      cases this
    repeat' (first | refine zP ?_ | refine zA ?_ | (refine zM ?_; intro _ _) | refine zX ?_ | (refine zC ?_; intro _ _ _ _) | (refine zS ?_; intro _ _) | (apply Ws <;> intro hg))
    refine WC.loopX [(3, _), (4, _), (11, _), (12, _), (14, _), (15, _), (97, _), (98, _)] (fun s : Nat × Nat => [(99, .int .i64 (s.1 : Int))]) [] (fun s H' => s.1 ≤ ns.length ∧ n2 + 2 ≤ s.2 ∧ hasH U s.2 H') (fun s => ns.length - s.1) (0, n5) (by repeat' (first | exact .nil | refine .cons rfl ?_)) rfl ⟨Nat.zero_le _, by simp only; omega, hH5⟩ ?_
    clear hH5
    rintro ⟨i, n6⟩ H6 ⟨hi, hn6, hH6⟩
    simp only at hi hn6 hH6
    dsimp only [List.cons_append, List.nil_append]
    repeat' (first | refine zP ?_ | refine zA ?_ | (refine zM ?_; intro _ _) | refine zX ?_ | (refine zC ?_; intro _ _ _ _) | (refine zS ?_; intro _ _) | (apply Ws <;> intro hg))
    refine WC.condP rfl (fun hlt3 => ?_) (fun hlt3 => ?_)
    · have hi' : i < ns.length := by omega
      have hcm := getD_mem (a := 0) hi'
      have hcB := hnb _ hcm
      have hyes := no_four h5 hcm
      repeat' (first | refine zP ?_ | refine zA ?_ | (refine zM ?_; intro _ _) | refine zX ?_ | (refine zC ?_; intro _ _ _ _) | (refine zS ?_; intro _ _) | (apply Ws <;> intro hg))
      obtain ⟨c, hc⟩ : ∃ c, ns.getD i 0 = c := ⟨_, rfl⟩
      rw [hc] at hcB hyes ⊢
      refine WR.callV (by first | exact gN | exact gS rfl) rfl rfl rfl (from_fs hH6 hS (by omega) hb62 (m := c) (N := N) (by omega) (by omega) (hxl hcB) h3 h4) ?_
      rintro _ H7 ⟨rfl, n7, hn7, hH7⟩
      clear hH6
      rw [hyes]
      repeat' (first | refine zP ?_ | refine zA ?_ | (refine zM ?_; intro _ _) | refine zX ?_ | (refine zC ?_; intro _ _ _ _) | (refine zS ?_; intro _ _) | (apply Ws <;> intro hg))
      refine WC.loopX [(3, _), (4, _), (11, _), (12, _), (14, _), (15, _), (17, _), (97, _), (98, _), (99, _), (107, _), (108, _)] (fun s : NV => [(18, s.v), (109, .int .i64 (s.k : Int))]) []
        (fun s H' => s.k ≤ ns.length ∧ n2 + 2 ≤ s.n ∧ Own 3 1 s.v (nodes (xorL (ns.take s.k) c)) s.Mx ∧ hasH (s.Mx ++ U) s.n H') (fun s => ns.length - s.k) ⟨0, .slice none 0 0, [], [], n7⟩ (by repeat' (first | exact .nil | refine .cons rfl ?_)) rfl
        ⟨Nat.zero_le _, by simp only; omega, .nil, hH7⟩ ?_
      clear hH7
      rintro ⟨k, w, _, Mx, n8⟩ H8 ⟨hk, hn8, hO, hH8⟩
      simp only at hk hn8 hO hH8
      have hS8 := hS.mono (M' := Mx ++ U) fun p hp => List.mem_append_right _ hp
      have h38 := List.mem_append_right Mx h3
      dsimp only [List.cons_append, List.nil_append]
      repeat' (first | refine zP ?_ | refine zA ?_ | (refine zM ?_; intro _ _) | refine zX ?_ | (refine zC ?_; intro _ _ _ _) | (refine zS ?_; intro _ _) | (apply Ws <;> intro hg))
      refine WC.condP rfl (fun hlt4 => ?_) (fun hlt4 => ?_)
      · have hk' : k < ns.length := by omega
        have hx := hb62 _ (getD_mem (a := 0) hk')
        repeat' (first | refine zP ?_ | refine zA ?_ | (refine zM ?_; intro _ _) | refine zX ?_ | (refine zC ?_; intro _ _ _ _) | (refine zS ?_; intro _ _) | (apply Ws <;> intro hg))
        refine WR.op (by first | exact gN | exact gS rfl) rfl (OpV.xorN rfl rfl (by show c < 2 ^ 63; omega) (by show ns.getD k 0 < 2 ^ 63; omega)) ?_
        rw [Nat.xor_comm]
        refine WR.append1F [] Mx U rfl rfl rfl rfl hO hH8 (new := [.int .i64 ((ns.getD k 0 ^^^ c : Nat) : Int)]) (by rfl) rfl rfl (Nat.le_refl _) (by omega) (by simp [xorL]; omega) fun v3 M3 n9 H9 hO3 hH9 hn9 => ?_
        repeat' (first | refine zP ?_ | refine zA ?_ | (refine zM ?_; intro _ _) | refine zX ?_ | (refine zC ?_; intro _ _ _ _) | (refine zS ?_; intro _ _) | (apply Ws <;> intro hg))
        refine Ends.loop ⟨k + 1, v3, [], M3, n9⟩ (by show ns.length - (k + 1) < ns.length - k; omega) (by repeat' (first | exact .nil | refine .cons rfl ?_)) rfl ⟨hk', by simp only; omega, ?_, hH9⟩
        simp only
        rw [List.take_succ_eq_append_getElem hk', xorL, List.map_append, ← getD_eq (a := 0) hk']
        simpa [nodes, xorL] using hO3
      · have hkl : ns.length = k := by omega
        subst hkl
        rw [List.take_length] at hO
        have hSl := hO.sl U
        rw [nodesI] at hSl
        repeat' (first | refine zP ?_ | refine zA ?_ | (refine zM ?_; intro _ _) | refine zX ?_ | (refine zC ?_; intro _ _ _ _) | (refine zS ?_; intro _ _) | (apply Ws <;> intro hg))
        refine WR.call (by first | exact gN | exact gS rfl) rfl rfl (Honest_fs hH8 hSl (by simp [xorL]; omega)) ?_
        rintro _ H9 ⟨rfl, n9, hn9, hH9⟩
        have hH10 := hH9.sub (List.sublist_append_right Mx U)
        rw [hxc hcB, if_pos rfl, cast_toNat, Int.toNat_natCast, hyes]
        repeat' (first | refine zP ?_ | refine zA ?_ | (refine zM ?_; intro _ _) | refine zX ?_ | (refine zC ?_; intro _ _ _ _) | (refine zS ?_; intro _ _) | refine zO ?_ | (apply Ws <;> intro hg))
        exact Ends.loop (i + 1, n9) (by show ns.length - (i + 1) < ns.length - i; omega) (by repeat' (first | exact .nil | refine .cons rfl ?_)) rfl ⟨hi', by simp only; omega, hH10⟩
    · repeat' (first | refine zP ?_ | refine zA ?_ | (refine zM ?_; intro _ _) | refine zX ?_ | (refine zC ?_; intro _ _ _ _) | (refine zS ?_; intro _ _) | refine zO ?_ | (apply Ws <;> intro hg))
      refine WR.call (by first | exact gN | exact gS rfl) rfl rfl (FS.works (C := C) (R := fun v H' => v = .bool true) rfl) ?_
      rintro _ _ rfl
      repeat' (first | refine zP ?_ | refine zA ?_ | (refine zM ?_; intro _ _) | refine zX ?_ | (refine zC ?_; intro _ _ _ _) | (refine zS ?_; intro _ _) | (apply Ws <;> intro hg))
      exact Ends.ret1 rfl rfl
end
end Go.Proofs.Ytblopbimchkneaa.Md
