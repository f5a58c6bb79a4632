/- Texts of the law, joined. -/
import Derived.Test.YtblopbimchkneaaJ1
import Derived.Test.YtblopbimchkneaaSymK
import Derived.Test.YtblopbimchkneaaSymR
namespace Go.Proofs.Ytblopbimchkneaa.Md
open Go Go.Abs Go.Mth
set_option linter.unusedVariables false
set_option linter.unusedSimpArgs false
theorem u8k : C.c.P.underlying 5 = some (.int .u8) := by kernel_rfl
theorem i64k : C.c.P.underlying 3 = some (.int .i64) := by kernel_rfl
abbrev bytesV (hs : List Int) : List Value := hs.map (Value.int .u8)
theorem bytes_one (hs : List Int) : (bytesV hs).all one = true := by simp [bytesV, List.all_map]; exact fun x _ => rfl
theorem bytes_get {hs : List Int} {k : Nat} (h : k < hs.length) : (bytesV hs)[k]? = some (.int .u8 (hs.getD k 0)) := by
  rw [List.getElem?_map, List.getElem?_eq_getElem h, getD_eq h]; rfl
/-- A tray's cells: three bytes, then eight, then six. -/
def trayV (a b c : Int) (hs : List Int) : List Value := .int .u8 a :: .int .u8 b :: .int .u8 c :: bytesV hs
theorem tray_one (a b c : Int) (hs : List Int) : (trayV a b c hs).all one = true := by
  have := bytes_one hs
  simp only [trayV, List.all_cons, this, Bool.and_true]; rfl
theorem tray_get {a b c : Int} {hs : List Int} {k : Nat} (h : k < hs.length) : (trayV a b c hs)[k + 3]? = some (.int .u8 (hs.getD k 0)) := by
  simp only [trayV, List.getElem?_cons_succ]; exact bytes_get h
structure NV where
  k : Nat
  v : Value
  l : List Nat
  Mx : HL
  n : Nat
theorem pow_le_62 {N : Nat} (h : N ≤ 61) : 2 ^ N < 2 ^ 62 := Nat.pow_lt_pow_right (by omega) (by omega)
theorem pow_lt_63 {N : Nat} (h : N ≤ 61) : 2 ^ N < 2 ^ 63 := Nat.pow_lt_pow_right (by omega) (by omega)
attribute [local irreducible] gOK WS WC WR WD Ends FS YS OpV seqK blockK loopK midK retK rdK asgK rangeEnd sat Cell

section
variable {M : HL} {n0 : Nat} {H : Heap}
end
end Go.Proofs.Ytblopbimchkneaa.Md

namespace Go.Proofs.Ytblopbimchkneaa.Md
open Go Go.Abs Go.Mth
set_option linter.unusedVariables false
set_option linter.unusedSimpArgs false
attribute [local irreducible] gOK WS WC WR WD Ends FS YS OpV seqK blockK loopK midK retK rdK asgK rangeEnd sat Cell
section
variable {M : HL} {n0 : Nat} {H : Heap}
set_option maxHeartbeats 4000000 in
theorem made0_fs (hH : hasH M n0 H) {a b c : Int} {hs : List Int} (ha : 0 ≤ a ∧ a ≤ 255) (hb : 0 ≤ b ∧ b ≤ 255) (hc : 0 ≤ c ∧ c ≤ 255) (hl : hs.length = 14) (hu : ∀ x ∈ hs, 0 ≤ x ∧ x ≤ 255) {most many : Nat} (hmo : 1 ≤ most ∧ most ≤ 6) (hma : many ≤ 8) :
    FS C 36 [.agg (trayV a b c hs).toArray, .int .i64 (most : Int), .int .i64 (many : Int)] H (fun e H' => ∃ (N : Nat) (ns : List Nat) (v : Value) (Mx : HL) (n' : Nat), e = .tuple #[.int .i64 (N : Int), v] ∧ 1 ≤ N ∧ N ≤ most ∧ ns.length ≤ many ∧ (∀ x ∈ ns, x < 2 ^ N) ∧ Own 3 1 v (nodes ns) Mx ∧ n0 ≤ n' ∧ hasH (Mx ++ M) n' H' ∧ (ns = [] → v = .slice none 0 0)) := by
  have hone := tray_one a b c hs
  refine FS.intro (pf := pf36) rfl rfl rfl ?_
  repeat' (first | refine zP ?_ | refine zA ?_ | (refine zM ?_; intro _ _) | refine zX ?_ | (refine zC ?_; intro _ _ _ _) | (refine zS ?_; intro _ _))
  rename_i H1 hH1
  refine WR.op (by first | exact gN | exact gS rfl) rfl (OpV.conv u8k i64k rfl (c := a) (IntWalk.i64_in _ (by omega))) ?_
  obtain ⟨an, rfl⟩ : ∃ an : Nat, a = an := ⟨a.toNat, by omega⟩
  obtain ⟨bn, rfl⟩ : ∃ bn : Nat, b = bn := ⟨b.toNat, by omega⟩
  obtain ⟨cn, rfl⟩ : ∃ cn : Nat, c = cn := ⟨c.toNat, by omega⟩
  have hmod := Nat.mod_lt an (show 0 < most by omega)
  have hmodb := Nat.mod_lt bn (show 0 < many + 1 by omega)
  repeat' (first | refine zP ?_ | refine zA ?_ | (refine zM ?_; intro _ _) | refine zX ?_ | (refine zC ?_; intro _ _ _ _) | (refine zS ?_; intro _ _) | (apply Ws <;> intro hg))
  rw [show (an : Int) % (most : Int) = ((an % most : Nat) : Int) by simp]
  obtain ⟨r, hr⟩ : ∃ r, an % most = r := ⟨_, rfl⟩
  rw [hr] at hmod ⊢
  repeat' (first | refine zP ?_ | refine zA ?_ | (refine zM ?_; intro _ _) | refine zX ?_ | (refine zC ?_; intro _ _ _ _) | (refine zS ?_; intro _ _) | (apply Ws <;> intro hg))
  rw [show (1 : Int) + (r : Int) = ((1 + r : Nat) : Int) by omega]
  obtain ⟨N, hN⟩ : ∃ N, 1 + r = N := ⟨_, rfl⟩
  have hN6 : 1 ≤ N ∧ N ≤ most := by omega
  rw [hN]
  clear hN hr hmod
  repeat' (first | refine zP ?_ | refine zA ?_ | (refine zM ?_; intro _ _) | refine zX ?_ | (refine zC ?_; intro _ _ _ _) | (refine zS ?_; intro _ _) | (apply Ws <;> intro hg))
  refine WC.loopX [(1, _), (2, _), (3, _), (8, _), (23, _)] (fun s : NV => [(9, s.v), (24, .int .i64 (s.k : Int))]) []
    (fun s H' => s.k ≤ N ∧ n0 + 1 ≤ s.n ∧ s.l.length = s.k ∧ (∀ i, i < s.k → s.l.getD i 0 < 2 ^ (i + 1)) ∧ ((s.k = 0 ∧ s.v = .slice none 0 0 ∧ s.Mx = []) ∨ OwnR 3 1 s.v (nodes s.l) s.Mx) ∧ hasH ((n0, .row 44 0 0 (trayV an bn cn hs)) :: (s.Mx ++ M)) s.n H') (fun s => N - s.k) ⟨0, .slice none 0 0, [], [], n0 + 1⟩ (by repeat' (first | exact .nil | refine .cons rfl ?_)) rfl
    ⟨Nat.zero_le _, Nat.le_refl _, rfl, fun i h => absurd h (Nat.not_lt_zero _), .inl ⟨rfl, rfl, rfl⟩, hH1⟩ ?_
  clear hH1
  rintro ⟨k, v, ps, Mx, n1⟩ H2 ⟨hk, hn1, hpl, hpb, hO, hH2⟩
  simp only at hk hn1 hpl hpb hO hH2
  have hOwn : Own 3 1 v (nodes ps) Mx := by
    rcases hO with ⟨h1, rfl, rfl⟩ | h
    · rw [List.length_eq_zero_iff.1 (hpl.trans h1)]; exact .nil
    · exact h.own
  dsimp only [List.cons_append, List.nil_append]
  repeat' (first | refine zP ?_ | refine zA ?_ | (refine zM ?_; intro _ _) | refine zX ?_ | (refine zC ?_; intro _ _ _ _) | (refine zS ?_; intro _ _) | (apply Ws <;> intro hg))
  refine WC.condP rfl (fun hlt => ?_) (fun hlt => ?_)
  · have hk' : k < N := by omega
    have hkl : 8 + k < hs.length := by omega
    have hx0 := hu _ (getD_mem (a := 0) hkl)
    obtain ⟨x, hx⟩ : ∃ x : Nat, hs.getD (8 + k) 0 = x := ⟨(hs.getD (8 + k) 0).toNat, by omega⟩
    repeat' (first | refine zP ?_ | refine zA ?_ | (refine zM ?_; intro _ _) | refine zX ?_ | (refine zC ?_; intro _ _ _ _) | (refine zS ?_; intro _ _) | (apply Ws <;> intro hg))
    refine WR.op (by first | exact gN | exact gS rfl) rfl (OpV.load1 (v := .int .u8 (hs.getD (8 + k) 0)) rfl hH2 (.head _) (.row _ _ _ _) (Nat.zero_le _) (by rw [show 11 + k - 0 = 8 + k + 3 by omega]; exact tray_get hkl)) ?_
    rw [hx]
    refine WR.op (by first | exact gN | exact gS rfl) rfl (OpV.conv u8k i64k rfl (c := (x : Int)) (IntWalk.i64_in _ (by omega))) ?_
    repeat' (first | refine zP ?_ | refine zA ?_ | (refine zM ?_; intro _ _) | refine zX ?_ | (refine zC ?_; intro _ _ _ _) | (refine zS ?_; intro _ _) | (apply Ws <;> intro hg))
    rw [show (x : Int) % ((k : Int) + 1) = ((x % (k + 1) : Nat) : Int) by simp]
    have hp := Nat.mod_lt x (show 0 < k + 1 by omega)
    obtain ⟨p, hpp⟩ : ∃ p, x % (k + 1) = p := ⟨_, rfl⟩
    rw [hpp] at hp ⊢
    repeat' (first | refine zP ?_ | refine zA ?_ | (refine zM ?_; intro _ _) | refine zX ?_ | (refine zC ?_; intro _ _ _ _) | (refine zS ?_; intro _ _) | (apply Ws <;> intro hg))
    refine WR.op (by first | exact gN | exact gS rfl) rfl (OpV.shl1 rfl rfl (by show k ≤ 64; omega) (pow_lt_63 (by omega))) ?_
    repeat' (first | refine zP ?_ | refine zA ?_ | (refine zM ?_; intro _ _) | refine zX ?_ | (refine zC ?_; intro _ _ _ _) | (refine zS ?_; intro _ _) | (apply Ws <;> intro hg))
    refine WC.joinX [(1, _), (2, _), (3, _), (8, _), (9, _), (10, _), (23, _), (24, _)] (by repeat' (first | exact .nil | refine .cons rfl ?_)) (fun w : Nat => [(12, .int .i64 (w : Int))]) (fun w H' => H' = H2 ∧ w < 2 ^ (k + 1)) ?_ ?_
    · refine WC.condP rfl (fun h2 => ?_) (fun h2 => ?_)
      · have hSp : Sl ((n0, .row 44 0 0 (trayV an bn cn hs)) :: (Mx ++ M)) 1 v (nodes ps) := (hOwn.sl M).cons
        have hpb' := hpb p (by omega)
        have hle : ps.getD p 0 < 2 ^ (k + 1) := Nat.lt_of_lt_of_le hpb' (Nat.pow_le_pow_right (by omega) (by omega))
        have h63 := pow_lt_63 (N := k + 1) (by omega)
        repeat' (first | refine zP ?_ | refine zA ?_ | (refine zM ?_; intro _ _) | refine zX ?_ | (refine zC ?_; intro _ _ _ _) | (refine zS ?_; intro _ _) | (apply Ws <;> intro hg))
        refine WR.op (by first | exact gN | exact gS rfl) rfl (OpV.orN rfl rfl (by show 2 ^ k < 2 ^ 63; exact pow_lt_63 (by omega)) (by show ps.getD p 0 < 2 ^ 63; omega)) ?_
        repeat' (first | refine zP ?_ | refine zA ?_ | (refine zM ?_; intro _ _) | refine zX ?_ | (refine zC ?_; intro _ _ _ _) | (refine zS ?_; intro _ _) | (apply Ws <;> intro hg))
        exact Ends.midX (2 ^ k ||| ps.getD p 0) (by repeat' (first | exact .nil | refine .cons rfl ?_)) ⟨rfl, Nat.or_lt_two_pow (Nat.pow_lt_pow_right (by omega) (by omega)) hle⟩
      · repeat' (first | refine zP ?_ | refine zA ?_ | (refine zM ?_; intro _ _) | refine zX ?_ | (refine zC ?_; intro _ _ _ _) | (refine zS ?_; intro _ _) | (apply Ws <;> intro hg))
        exact Ends.midX (2 ^ k) (by repeat' (first | exact .nil | refine .cons rfl ?_)) ⟨rfl, Nat.pow_lt_pow_right (by omega) (by omega)⟩
    rintro w H3 ⟨rfl, hw⟩
    dsimp only [List.cons_append, List.nil_append]
    repeat' (first | refine zP ?_ | refine zA ?_ | (refine zM ?_; intro _ _) | refine zX ?_ | (refine zC ?_; intro _ _ _ _) | (refine zS ?_; intro _ _) | (apply Ws <;> intro hg))
    refine WR.append1RF [(n0, .row 44 0 0 (trayV an bn cn hs))] Mx M rfl rfl rfl rfl hOwn hH2 (new := [.int .i64 (w : Int)]) (by rfl) rfl rfl (Nat.le_refl _) (by omega) (by simp; omega) fun v3 M3 n3 H6 hO3 hH6 hn3 => ?_
    repeat' (first | refine zP ?_ | refine zA ?_ | (refine zM ?_; intro _ _) | refine zX ?_ | (refine zC ?_; intro _ _ _ _) | (refine zS ?_; intro _ _) | (apply Ws <;> intro hg))
    refine Ends.loop ⟨k + 1, v3, ps ++ [w], M3, n3⟩ (by show N - (k + 1) < N - k; omega) (by repeat' (first | exact .nil | refine .cons rfl ?_)) rfl ⟨hk', by simp only; omega, by simp [hpl], fun i hi => ?_, .inr ?_, hH6⟩
    · replace hi : i < k + 1 := hi
      simp only
      rcases Nat.lt_or_ge i k with h3 | h3
      · rw [getD_app_l (by omega)]; exact hpb i h3
      · have : i = ps.length := by omega
        subst this
        rw [getD_snoc, hpl]; exact hw
    · simp only
      simpa [nodes] using hO3
  have hkN : N = k := by omega
  subst hkN
  clear hOwn hlt hk
  rcases hO with ⟨h1, _⟩ | hO
  · omega
  have hPl : ∀ i, i < N → ps.getD i 0 < 2 ^ N := fun i hi => Nat.lt_of_lt_of_le (hpb i hi) (Nat.pow_le_pow_right (by omega) (by omega))
  clear hpb
  cases hO with
  | mk hlp =>
  rename_i pb pu po plen
  have hplen : N = plen := by simp [nodes] at hlp; omega
  subst hplen
  simp only [List.cons_append, List.nil_append] at hH2
  have hmP : (pb, Ch.row 3 pu po (nodes ps)) ∈ (pb, Ch.row 3 pu po (nodes ps)) :: M := .head _
  have hbackP : ∀ {M' : HL} {n' : Nat} {H' : Heap}, hasH (M' ++ (pb, Ch.row 3 pu po (nodes ps)) :: M) n' H' → hasH (M' ++ M) n' H' := fun h => h.sub (List.Sublist.append_left (List.sublist_cons_self _ _) _)
  generalize (pb, Ch.row 3 pu po (nodes ps)) :: M = T at hH2 hmP hbackP
  repeat' (first | refine zP ?_ | refine zA ?_ | (refine zM ?_; intro _ _) | refine zX ?_ | (refine zC ?_; intro _ _ _ _) | (refine zS ?_; intro _ _) | (apply Ws <;> intro hg))
  refine WR.op (by first | exact gN | exact gS rfl) rfl (OpV.conv u8k i64k rfl (c := (bn : Int)) (IntWalk.i64_in _ (by omega))) ?_
  repeat' (first | refine zP ?_ | refine zA ?_ | (refine zM ?_; intro _ _) | refine zX ?_ | (refine zC ?_; intro _ _ _ _) | (refine zS ?_; intro _ _) | (apply Ws <;> intro hg))
  rw [show (bn : Int) % ((many : Int) + 1) = ((bn % (many + 1) : Nat) : Int) by simp]
  obtain ⟨m, hm⟩ : ∃ m, bn % (many + 1) = m := ⟨_, rfl⟩
  rw [hm] at hmodb ⊢
  refine WR.op (by first | exact gN | exact gS rfl) rfl (OpV.slAh rfl rfl (by omega) (by decide)) ?_
  repeat' (first | refine zP ?_ | refine zA ?_ | (refine zM ?_; intro _ _) | refine zX ?_ | (refine zC ?_; intro _ _ _ _) | (refine zS ?_; intro _ _) | (apply Ws <;> intro hg))
  refine WC.loopX [(1, _), (2, _), (3, _), (8, _), (9, _), (58, _), (59, _)] (fun s : NV => [(13, s.v), (60, .int .i64 (s.k : Int))]) []
    (fun s H' => s.k ≤ m ∧ n0 + 1 ≤ s.n ∧ s.l.length = s.k ∧ (∀ x ∈ s.l, x < 2 ^ N) ∧ Own 3 1 s.v (nodes s.l) s.Mx ∧ hasH ((n0, .row 44 0 0 (trayV an bn cn hs)) :: (s.Mx ++ T)) s.n H' ∧ (s.l = [] → s.v = .slice none 0 0)) (fun s => m - s.k) ⟨0, .slice none 0 0, [], [], n1⟩ (by repeat' (first | exact .nil | refine .cons rfl ?_)) rfl
    ⟨Nat.zero_le _, hn1, rfl, fun x h => (by cases h), .nil, hH2, fun _ => rfl⟩ ?_
  clear hH2 hn1
  rintro ⟨k, v, ns, Mx, n2⟩ H3 ⟨hk, hn2, hnl, hnb, hO, hH3, hz⟩
  simp only at hk hn2 hnl hnb hO hH3 hz
  have hmP3 := List.mem_cons_of_mem (n0, Ch.row 44 0 0 (trayV an bn cn hs)) (List.mem_append_right Mx hmP)
  dsimp only [List.cons_append, List.nil_append]
  repeat' (first | refine zP ?_ | refine zA ?_ | (refine zM ?_; intro _ _) | refine zX ?_ | (refine zC ?_; intro _ _ _ _) | (refine zS ?_; intro _ _) | (apply Ws <;> intro hg))
  refine WC.condP rfl (fun hlt => ?_) (fun hlt => ?_)
  · have hk' : k < m := by omega
    have hkl : k < hs.length := by omega
    have hx0 := hu _ (getD_mem (a := 0) hkl)
    obtain ⟨x, hx⟩ : ∃ x : Nat, hs.getD k 0 = x := ⟨(hs.getD k 0).toNat, by omega⟩
    repeat' (first | refine zP ?_ | refine zA ?_ | (refine zM ?_; intro _ _) | refine zX ?_ | (refine zC ?_; intro _ _ _ _) | (refine zS ?_; intro _ _) | (apply Ws <;> intro hg))
    refine WR.op (by first | exact gN | exact gS rfl) rfl (OpV.load1 (v := .int .u8 (hs.getD k 0)) rfl hH3 (.head _) (.row _ _ _ _) (Nat.zero_le _) (by rw [show 3 + k - 0 = k + 3 by omega]; exact tray_get hkl)) ?_
    rw [hx]
    repeat' (first | refine zP ?_ | refine zA ?_ | (refine zM ?_; intro _ _) | refine zX ?_ | (refine zC ?_; intro _ _ _ _) | (refine zS ?_; intro _ _) | (apply Ws <;> intro hg))
    refine WR.op (by first | exact gN | exact gS rfl) rfl (OpV.conv u8k i64k rfl (c := (x : Int)) (IntWalk.i64_in _ (by omega))) ?_
    repeat' (first | refine zP ?_ | refine zA ?_ | (refine zM ?_; intro _ _) | refine zX ?_ | (refine zC ?_; intro _ _ _ _) | (refine zS ?_; intro _ _) | (apply Ws <;> intro hg))
    refine WR.op (by first | exact gN | exact gS rfl) rfl (OpV.shl1 rfl rfl (by show N ≤ 64; omega) (pow_lt_63 (by omega))) ?_
    have hNp : 0 < 2 ^ N := Nat.two_pow_pos N
    have h62 := pow_le_62 (N := N) (by omega)
    have hxm := Nat.mod_lt x hNp
    repeat' (first | refine zP ?_ | refine zA ?_ | (refine zM ?_; intro _ _) | refine zX ?_ | (refine zC ?_; intro _ _ _ _) | (refine zS ?_; intro _ _) | (apply Ws <;> intro hg))
    rw [show (x : Int) % ((2 ^ N : Nat) : Int) = ((x % 2 ^ N : Nat) : Int) by simp]
    obtain ⟨y, hy⟩ : ∃ y, x % 2 ^ N = y := ⟨_, rfl⟩
    rw [hy] at hxm ⊢
    repeat' (first | refine zP ?_ | refine zA ?_ | (refine zM ?_; intro _ _) | refine zX ?_ | (refine zC ?_; intro _ _ _ _) | (refine zS ?_; intro _ _) | (apply Ws <;> intro hg))
    have hstep : ∀ {w : Nat}, w < 2 ^ N → w < 2 ^ 62 := fun h => by omega
    refine WC.joinX [(1, _), (2, _), (3, _), (8, _), (9, _), (13, _), (14, _), (15, _), (58, _), (59, _), (60, _)] (by repeat' (first | exact .nil | refine .cons rfl ?_)) (fun s : Nat × Nat => [(16, .int .i64 (s.1 : Int))]) (fun s H' => s.1 < 2 ^ N ∧ n0 + 1 ≤ s.2 ∧ hasH ((n0, .row 44 0 0 (trayV an bn cn hs)) :: (Mx ++ T)) s.2 H') ?_ ?_
    · refine WC.condP rfl (fun h2 => ?_) (fun h2 => ?_)
      · refine WC.regionD ?_
        repeat' (first | refine zD ?_ | (refine zE ?_; intro _ _ _ _))
        refine WD.op (by first | exact gN | exact gS rfl) rfl (OpV.conv u8k i64k rfl (c := (x : Int)) (IntWalk.i64_in _ (by omega))) rfl (stands_nil _ _) ?_
        repeat' (first | refine zD ?_ | (refine zE ?_; intro _ _ _ _))
        rw [show (x : Int) % ((N : Int) + 1) = ((x % (N + 1) : Nat) : Int) by simp]
        have hq := Nat.mod_lt x (show 0 < N + 1 by omega)
        obtain ⟨q, hqq⟩ : ∃ q, x % (N + 1) = q := ⟨_, rfl⟩
        rw [hqq] at hq ⊢
        refine WD.bldS (by first | exact gN | exact gS rfl) rfl hH3 (vs := [(0, .int .i64 0)]) rfl (cs := [.int .i64 0]) (by rfl) rfl (fun H8 hH8 => zSt) fun H8 hH8 => ?_
        refine WD.appendKeep (y := .int .i64 0) (by first | exact gN | exact gS rfl) rfl rfl rfl hH8 (List.mem_cons_of_mem _ hmP3) (by simpa [nodes] using hpl) rfl (by
          have := hH8.readN (b := n2) (u := 0) (lo := 0) (o := 0) (k := 1) (.head _) (.row _ _ _ _) (Nat.le_refl _) (by simp)
          simpa [srcCells] using this) rfl (by omega) fun tp H9 hH9 hrd => ⟨zSt, ?_⟩
        refine WD.op (by first | exact gN | exact gS rfl) rfl (OpV.idxS rfl rfl rfl (m := q) (by omega) rfl) rfl (stands_nil _ _) ?_
        obtain ⟨w, hw, hwq⟩ : ∃ w : Nat, w < 2 ^ N ∧ (nodes ps ++ [Value.int .i64 0])[q]? = some (.int .i64 (w : Int)) := by
          by_cases h : q < N
          · exact ⟨ps.getD q 0, hPl q h, by rw [List.getElem?_append_left (by simp; omega), List.getElem?_map, List.getElem?_eq_getElem (by omega), getD_eq (by omega)]; rfl⟩
          · have : q = (nodes ps).length := by simp; omega
            exact ⟨0, hNp, by rw [this, List.getElem?_append_right (Nat.le_refl _)]; simp⟩
        refine WD.load1 (v := .int .i64 (w : Int)) (by first | exact gN | exact gS rfl) rfl rfl (hrd (q * 1) _ (by rw [Nat.mul_one]; exact hwq)) ?_
        repeat' (first | refine zD ?_ | (refine zE ?_; intro _ _ _ _))
        refine WD.nil ?_
        repeat' (first | refine zP ?_ | refine zA ?_ | (refine zM ?_; intro _ _) | refine zX ?_ | (refine zC ?_; intro _ _ _ _) | (refine zS ?_; intro _ _) | (apply Ws <;> intro hg))
        exact Ends.midX (w, n2 + 1) (by repeat' (first | exact .nil | refine .cons rfl ?_)) ⟨hw, by simp only; omega, hH9.tail⟩
      · repeat' (first | refine zP ?_ | refine zA ?_ | (refine zM ?_; intro _ _) | refine zX ?_ | (refine zC ?_; intro _ _ _ _) | (refine zS ?_; intro _ _) | (apply Ws <;> intro hg))
        exact Ends.midX (y, n2) (by repeat' (first | exact .nil | refine .cons rfl ?_)) ⟨hxm, hn2, hH3⟩
    clear hH3 hn2
    rintro ⟨w, n3⟩ H4 ⟨hw, hn3, hH4⟩
    simp only at hw hn3 hH4
    have hmP4 := hmP3
    dsimp only [List.cons_append, List.nil_append]
    have happ : ∀ {z : Nat}, z < 2 ^ N → ∀ x ∈ ns ++ [z], x < 2 ^ N := fun hz x hx => by
      rcases List.mem_append.1 hx with h | h
      · exact hnb x h
      · obtain rfl := List.mem_singleton.1 h
        exact hz
    by_cases h4 : (cn : Int) % 4 = 3
    · by_cases hk0 : (k : Int) = 0
      · repeat' (first | refine zP ?_ | refine zA ?_ | (refine zM ?_; intro _ _) | refine zX ?_ | (refine zC ?_; intro _ _ _ _) | (refine zS ?_; intro _ _) | refine zO ?_ | (apply Ws <;> intro hg))
        refine WR.op (by first | exact gN | exact gS rfl) rfl (OpV.conv u8k i64k rfl (c := (x : Int)) (IntWalk.i64_in _ (by omega))) ?_
        repeat' (first | refine zP ?_ | refine zA ?_ | (refine zM ?_; intro _ _) | refine zX ?_ | (refine zC ?_; intro _ _ _ _) | (refine zS ?_; intro _ _) | refine zO ?_ | (apply Ws <;> intro hg))
        rw [show (x : Int) % (N : Int) = ((x % N : Nat) : Int) by simp]
        have hq := Nat.mod_lt x (show 0 < N by omega)
        obtain ⟨q, hqq⟩ : ∃ q, x % N = q := ⟨_, rfl⟩
        rw [hqq] at hq ⊢
        refine WR.op (by first | exact gN | exact gS rfl) rfl (OpV.shl1 rfl rfl (by show q ≤ 64; omega) (pow_lt_63 (by omega))) ?_
        refine WR.op (by first | exact gN | exact gS rfl) rfl (OpV.xorN rfl rfl (by show w < 2 ^ 63; omega) (by show 2 ^ q < 2 ^ 63; exact pow_lt_63 (by omega))) ?_
        have hw2 : w ^^^ 2 ^ q < 2 ^ N := Nat.xor_lt_two_pow hw (Nat.pow_lt_pow_right (by omega) hq)
        obtain ⟨w2, hww⟩ : ∃ w2, w ^^^ 2 ^ q = w2 := ⟨_, rfl⟩
        rw [hww] at hw2 ⊢
        repeat' (first | refine zP ?_ | refine zA ?_ | (refine zM ?_; intro _ _) | refine zX ?_ | (refine zC ?_; intro _ _ _ _) | (refine zS ?_; intro _ _) | (apply Ws <;> intro hg))
        refine WR.append1F [(n0, .row 44 0 0 (trayV an bn cn hs))] Mx T rfl rfl rfl rfl hO hH4 (new := [.int .i64 (w2 : Nat)]) (by rfl) rfl rfl (Nat.le_refl _) (by omega) (by simp; omega) fun v5 M5 n5 H5 hO5 hH5 hn5 => ?_
        repeat' (first | refine zP ?_ | refine zA ?_ | (refine zM ?_; intro _ _) | refine zX ?_ | (refine zC ?_; intro _ _ _ _) | (refine zS ?_; intro _ _) | (apply Ws <;> intro hg))
        exact Ends.loop ⟨k + 1, v5, ns ++ [w2], M5, n5⟩ (by show m - (k + 1) < m - k; omega) (by repeat' (first | exact .nil | refine .cons rfl ?_)) rfl ⟨hk', by simp only; omega, by simp [hnl], happ (by first | exact hw | exact hw2), by simpa [nodes] using hO5, hH5, fun h => absurd h (by simp)⟩
      · repeat' (first | refine zP ?_ | refine zA ?_ | (refine zM ?_; intro _ _) | refine zX ?_ | (refine zC ?_; intro _ _ _ _) | (refine zS ?_; intro _ _) | refine zO ?_ | (apply Ws <;> intro hg))
        refine WR.append1F [(n0, .row 44 0 0 (trayV an bn cn hs))] Mx T rfl rfl rfl rfl hO hH4 (new := [.int .i64 (w : Nat)]) (by rfl) rfl rfl (Nat.le_refl _) (by omega) (by simp; omega) fun v5 M5 n5 H5 hO5 hH5 hn5 => ?_
        repeat' (first | refine zP ?_ | refine zA ?_ | (refine zM ?_; intro _ _) | refine zX ?_ | (refine zC ?_; intro _ _ _ _) | (refine zS ?_; intro _ _) | (apply Ws <;> intro hg))
        exact Ends.loop ⟨k + 1, v5, ns ++ [w], M5, n5⟩ (by show m - (k + 1) < m - k; omega) (by repeat' (first | exact .nil | refine .cons rfl ?_)) rfl ⟨hk', by simp only; omega, by simp [hnl], happ (by first | exact hw | exact hw2), by simpa [nodes] using hO5, hH5, fun h => absurd h (by simp)⟩
    · repeat' (first | refine zP ?_ | refine zA ?_ | (refine zM ?_; intro _ _) | refine zX ?_ | (refine zC ?_; intro _ _ _ _) | (refine zS ?_; intro _ _) | refine zO ?_ | (apply Ws <;> intro hg))
      refine WR.append1F [(n0, .row 44 0 0 (trayV an bn cn hs))] Mx T rfl rfl rfl rfl hO hH4 (new := [.int .i64 (w : Nat)]) (by rfl) rfl rfl (Nat.le_refl _) (by omega) (by simp; omega) fun v5 M5 n5 H5 hO5 hH5 hn5 => ?_
      repeat' (first | refine zP ?_ | refine zA ?_ | (refine zM ?_; intro _ _) | refine zX ?_ | (refine zC ?_; intro _ _ _ _) | (refine zS ?_; intro _ _) | (apply Ws <;> intro hg))
      exact Ends.loop ⟨k + 1, v5, ns ++ [w], M5, n5⟩ (by show m - (k + 1) < m - k; omega) (by repeat' (first | exact .nil | refine .cons rfl ?_)) rfl ⟨hk', by simp only; omega, by simp [hnl], happ (by first | exact hw | exact hw2), by simpa [nodes] using hO5, hH5, fun h => absurd h (by simp)⟩
  · have hkm : m = k := by omega
    subst hkm
    repeat' (first | refine zP ?_ | refine zA ?_ | (refine zM ?_; intro _ _) | refine zX ?_ | (refine zC ?_; intro _ _ _ _) | (refine zS ?_; intro _ _) | (apply Ws <;> intro hg))
    exact Ends.ret2 rfl rfl ⟨N, ns, v, Mx, n2, rfl, by omega, by omega, by omega, hnb, hO, by omega, hbackP hH3.tail, hz⟩
end
end Go.Proofs.Ytblopbimchkneaa.Md

namespace Go.Proofs.Ytblopbimchkneaa.Md
open Go Go.Abs Go.Mth
set_option linter.unusedVariables false
set_option linter.unusedSimpArgs false
end Go.Proofs.Ytblopbimchkneaa.Md

namespace Go.Proofs.Ytblopbimchkneaa.Md
open Go Go.Abs Go.Mth
set_option linter.unusedVariables false
set_option linter.unusedSimpArgs false
def bitN (c a : Nat) : Nat := if c.testBit a = true then 1 else 0
def kd (c a b : Nat) : Nat := bitN c a + 2 * bitN c b
/-- Which kinds of casts have been met. -/
def metB (ns : List Nat) (a b k i : Nat) : Bool := (ns.take k).any fun c => kd c a b == i
structure BL where
  k : Nat
  l : List Bool
attribute [local irreducible] gOK WS WC WR WD Ends FS YS OpV seqK blockK loopK midK retK rdK asgK rangeEnd sat Cell
section
variable {M : HL} {n0 : Nat} {H : Heap} {v : Value} {ns : List Nat}
end
end Go.Proofs.Ytblopbimchkneaa.Md

namespace Go.Proofs.Ytblopbimchkneaa.Md
open Go Go.Abs Go.Mth
set_option linter.unusedVariables false
set_option linter.unusedSimpArgs false
/-! Models. -/
def xorL (ns : List Nat) (m : Nat) : List Nat := ns.map fun c => c ^^^ m
def fourP (ns : List Nat) (a b : Nat) : Prop := ∀ p q : Bool, ∃ c ∈ ns, c.testBit a = p ∧ c.testBit b = q
theorem xorL_mem {ns : List Nat} {m x : Nat} : x ∈ xorL ns m ↔ ∃ c ∈ ns, c ^^^ m = x := by simp [xorL]
theorem xorL_lt {ns : List Nat} {m N : Nat} (h : ∀ x ∈ ns, x < 2 ^ N) (hm : m < 2 ^ N) : ∀ x ∈ xorL ns m, x < 2 ^ N := fun x hx => by
  obtain ⟨c, hc, rfl⟩ := xorL_mem.1 hx
  exact Nat.xor_lt_two_pow (h c hc) hm
/-- The first number of which something holds. -/
def LM (P : Nat → Bool) (B : Nat) (r : Int) : Prop := (∃ k : Nat, k < B ∧ P k = true ∧ (∀ j, j < k → P j = false) ∧ r = k) ∨ ((∀ j, j < B → P j = false) ∧ r = -1)
theorem LM.unique {P : Nat → Bool} {B : Nat} {r s : Int} (h : LM P B r) (h' : LM P B s) : r = s := by
  rcases h with ⟨k, h1, h2, h3, rfl⟩ | ⟨h1, rfl⟩ <;> rcases h' with ⟨k', g1, g2, g3, rfl⟩ | ⟨g1, rfl⟩
  · rcases Nat.lt_trichotomy k k' with h | h | h
    · rw [g3 k h] at h2; cases h2
    · rw [h]
    · rw [h3 k' h] at g2; cases g2
  · rw [g1 k h1] at h2; cases h2
  · rw [h1 k' g1] at g2; cases g2
  · rfl
def ModR (N : Nat) (ns : List Nat) (k e : Int) : Prop := ∃ r, LM (fun m => honB N (xorL ns m)) (2 ^ N) r ∧ k = (if r < 0 then 0 else r) ∧ e = if r < 0 then 12 else 0
attribute [local irreducible] gOK WS WC WR WD Ends FS YS OpV seqK blockK loopK midK retK rdK asgK rangeEnd sat Cell
section
variable {M : HL} {n0 : Nat} {H : Heap} {v : Value} {ns : List Nat}
theorem diffs_fs (hH : hasH M n0 H) (hS : Sl M 1 v (nodes ns)) (hl : ns.length ≤ 1000) (hb : ∀ x ∈ ns, x < 2 ^ 62) {m : Nat} (hm : m < 2 ^ 62) :
    FS C 77 [v, .int .i64 (m : Int)] H (fun e H' => ∃ Mx n', Own 3 1 e (nodes (xorL ns m)) Mx ∧ n0 ≤ n' ∧ hasH (Mx ++ M) n' H') := by
  refine FS.intro (pf := pf77) rfl rfl rfl ?_
  repeat' (first | refine zP ?_ | refine zA ?_ | (refine zM ?_; intro _ _) | refine zX ?_ | (refine zC ?_; intro _ _ _ _) | (refine zS ?_; intro _ _) | (apply Ws <;> intro hg))
  refine WC.loopX [(1, _), (8, _), (9, _)] (fun s : NV => [(5, s.v), (10, .int .i64 (s.k : Int))]) []
    (fun s H' => s.k ≤ ns.length ∧ n0 ≤ s.n ∧ Own 3 1 s.v (nodes (xorL (ns.take s.k) m)) s.Mx ∧ hasH (s.Mx ++ M) s.n H') (fun s => ns.length - s.k) ⟨0, .slice none 0 0, [], [], n0⟩ (by repeat' (first | exact .nil | refine .cons rfl ?_)) rfl
    ⟨Nat.zero_le _, Nat.le_refl _, .nil, hH⟩ ?_
  clear hH
  rintro ⟨k, w, _, Mx, n1⟩ H1 ⟨hk, hn1, hO, hH1⟩
  simp only at hk hn1 hO hH1
  have hS1 := hS.mono (M' := Mx ++ M) fun p hp => List.mem_append_right _ hp
  dsimp only [List.cons_append, List.nil_append]
  repeat' (first | refine zP ?_ | refine zA ?_ | (refine zM ?_; intro _ _) | refine zX ?_ | (refine zC ?_; intro _ _ _ _) | (refine zS ?_; intro _ _) | (apply Ws <;> intro hg))
  refine WC.condP rfl (fun hlt => ?_) (fun hlt => ?_)
  · have hk' : k < ns.length := by omega
    have hx := hb _ (getD_mem (a := 0) hk')
    repeat' (first | refine zP ?_ | refine zA ?_ | (refine zM ?_; intro _ _) | refine zX ?_ | (refine zC ?_; intro _ _ _ _) | (refine zS ?_; intro _ _) | (apply Ws <;> intro hg))
    refine WR.op (by first | exact gN | exact gS rfl) rfl (OpV.xorN rfl rfl (by show ns.getD k 0 < 2 ^ 63; omega) (by show m < 2 ^ 63; omega)) ?_
    refine WR.append1F [] Mx M rfl rfl rfl rfl hO hH1 (new := [.int .i64 ((ns.getD k 0 ^^^ m : Nat) : Int)]) (by rfl) rfl rfl (Nat.le_refl _) (by omega) (by simp [xorL]; omega) fun v3 M3 n3 H3 hO3 hH3 hn3 => ?_
    repeat' (first | refine zP ?_ | refine zA ?_ | (refine zM ?_; intro _ _) | refine zX ?_ | (refine zC ?_; intro _ _ _ _) | (refine zS ?_; intro _ _) | (apply Ws <;> intro hg))
    refine Ends.loop ⟨k + 1, v3, [], M3, n3⟩ (by show ns.length - (k + 1) < ns.length - k; omega) (by repeat' (first | exact .nil | refine .cons rfl ?_)) rfl ⟨hk', by simp only; omega, ?_, hH3⟩
    simp only
    rw [List.take_succ_eq_append_getElem hk', xorL, List.map_append, ← getD_eq (a := 0) hk']
    simpa [nodes, xorL] using hO3
  · have hkl : ns.length = k := by omega
    subst hkl
    rw [List.take_length] at hO
    repeat' (first | refine zP ?_ | refine zA ?_ | (refine zM ?_; intro _ _) | refine zX ?_ | (refine zC ?_; intro _ _ _ _) | (refine zS ?_; intro _ _) | (apply Ws <;> intro hg))
    exact Ends.ret1 rfl ⟨Mx, n1, hO, hn1, hH1⟩

theorem Model_fs (hH : hasH M n0 H) (hS : Sl M 1 v (nodes ns)) (hl : ns.length ≤ 8) {N : Nat} (hN1 : 1 ≤ N) (hN : N ≤ 6) (hb : ∀ x ∈ ns, x < 2 ^ N) :
    FS C 34 [.int .i64 (N : Int), v] H (fun e H' => ∃ k f, e = .tuple #[.int .i64 k, .int .i64 f] ∧ ModR N ns k f ∧ ∃ n', n0 ≤ n' ∧ hasH M n' H') := by
  have hSI : Sl M 1 v (ints (ns.map fun (x : Nat) => (x : Int))) := by rw [← nodesI]; exact hS
  have hb62 := lt_62 hN hb
  have hp62 := pow_le_62 (N := N) (by omega)
  have hp64 := pow_64 hN
  refine FS.intro (pf := pf34) rfl rfl rfl ?_
  repeat' (first | refine zP ?_ | refine zA ?_ | (refine zM ?_; intro _ _) | refine zX ?_ | (refine zC ?_; intro _ _ _ _) | (refine zS ?_; intro _ _) | (apply Ws <;> intro hg))
  refine WR.call (by first | exact gN | exact gS rfl) rfl rfl (Check_fs hH hSI (by simp; omega) _) ?_
  rintro _ H1 ⟨rfl, rfl⟩
  rw [casts_intro hN1 hN hl hb]
  clear hSI
  repeat' (first | refine zP ?_ | refine zA ?_ | (refine zM ?_; intro _ _) | refine zX ?_ | (refine zC ?_; intro _ _ _ _) | (refine zS ?_; intro _ _) | refine zO ?_ | (apply Ws <;> intro hg))
  refine WR.op (by first | exact gN | exact gS rfl) rfl (OpV.shl1 rfl rfl (by show N ≤ 64; omega) (pow_lt_63 (by omega))) ?_
  obtain ⟨B, hB⟩ : ∃ B, 2 ^ N = B := ⟨_, rfl⟩
  rw [hB] at hp62 hp64 ⊢
  repeat' (first | refine zP ?_ | refine zA ?_ | (refine zM ?_; intro _ _) | refine zX ?_ | (refine zC ?_; intro _ _ _ _) | (refine zS ?_; intro _ _) | (apply Ws <;> intro hg))
  refine WC.loopX [(0, _), (1, _), (15, _)] (fun s : Nat × Nat => [(16, .int .i64 (s.1 : Int))]) [] (fun s H' => s.1 ≤ B ∧ n0 ≤ s.2 ∧ hasH M s.2 H' ∧ ∀ j, j < s.1 → honB N (xorL ns j) = false) (fun s => B - s.1) (0, n0) (by repeat' (first | exact .nil | refine .cons rfl ?_)) rfl ⟨Nat.zero_le _, Nat.le_refl _, hH, fun x h => absurd h (Nat.not_lt_zero _)⟩ ?_
  clear hH
  rintro ⟨k, n1⟩ H2 ⟨hk, hn1, hH2, hno⟩
  simp only at hk hn1 hH2 hno
  dsimp only [List.cons_append, List.nil_append]
  repeat' (first | refine zP ?_ | refine zA ?_ | (refine zM ?_; intro _ _) | refine zX ?_ | (refine zC ?_; intro _ _ _ _) | (refine zS ?_; intro _ _) | (apply Ws <;> intro hg))
  refine WC.condP rfl (fun hlt => ?_) (fun hlt => ?_)
  · have hk' : k < B := by omega
    repeat' (first | refine zP ?_ | refine zA ?_ | (refine zM ?_; intro _ _) | refine zX ?_ | (refine zC ?_; intro _ _ _ _) | (refine zS ?_; intro _ _) | (apply Ws <;> intro hg))
    refine WR.call (by first | exact gN | exact gS rfl) rfl rfl (diffs_fs hH2 hS (by omega) hb62 (m := k) (by omega)) ?_
    rintro w H3 ⟨Mx, n3, hO, hn3, hH3⟩
    refine WR.call (by first | exact gN | exact gS rfl) rfl rfl (honest_fs hH3 (hO.sl M) (by simp [xorL]; omega) (lt_62 hN (xorL_lt hb (by omega))) (by omega)) ?_
    rintro _ H4 ⟨rfl, n4, hn4, hH4⟩
    have hH5 := hH4.sub (List.sublist_append_right Mx M)
    cases hh : honB N (xorL ns k) with
    | true =>
      repeat' (first | refine zP ?_ | refine zA ?_ | (refine zM ?_; intro _ _) | refine zX ?_ | (refine zC ?_; intro _ _ _ _) | (refine zS ?_; intro _ _) | (apply Ws <;> intro hg))
      exact Ends.ret2 rfl rfl ⟨_, _, rfl, ⟨(k : Int), .inl ⟨k, by omega, hh, hno, rfl⟩, by rw [if_neg (by omega)], by rw [if_neg (by omega)]⟩, n4, by omega, hH5⟩
    | false =>
      repeat' (first | refine zP ?_ | refine zA ?_ | (refine zM ?_; intro _ _) | refine zX ?_ | (refine zC ?_; intro _ _ _ _) | (refine zS ?_; intro _ _) | (apply Ws <;> intro hg))
      refine Ends.loop (k + 1, n4) (by show B - (k + 1) < B - k; omega) (by repeat' (first | exact .nil | refine .cons rfl ?_)) rfl ⟨hk', by simp only; omega, hH5, fun j hj => ?_⟩
      replace hj : j < k + 1 := hj
      rcases Nat.lt_or_ge j k with h | h
      · exact hno j h
      · have : j = k := by omega
        subst this; exact hh
  · have hkB : k = B := by omega
    repeat' (first | refine zP ?_ | refine zA ?_ | (refine zM ?_; intro _ _) | refine zX ?_ | (refine zC ?_; intro _ _ _ _) | (refine zS ?_; intro _ _) | (apply Ws <;> intro hg))
    exact Ends.ret2 rfl rfl ⟨_, _, rfl, ⟨-1, .inr ⟨fun j hj => hno j (by omega), rfl⟩, rfl, rfl⟩, n1, hn1, hH2⟩
end
end Go.Proofs.Ytblopbimchkneaa.Md

/- Comparisons of numbers and of lists. -/
namespace Go.Mth
set_option linter.unusedVariables false
def cmpI (a b : Int) : Int := if a < b then -1 else if b < a then 1 else 0
def lexC : List Int → List Int → Int
  | [], [] => 0
  | [], _ :: _ => -1
  | _ :: _, [] => 1
  | a :: l, b :: m => if cmpI a b ≠ 0 then cmpI a b else lexC l m
/-- The shorter one first; of those that are as long, the smaller one. -/
def ordC (a b : List Int) : Int := if cmpI a.length b.length ≠ 0 then cmpI a.length b.length else lexC a b
theorem cmp_neg {a b : Int} : cmpI b a = - cmpI a b := by unfold cmpI; split <;> split <;> (try split) <;> omega
theorem cmp_zero {a b : Int} : cmpI a b = 0 ↔ a = b := by unfold cmpI; split <;> (try split) <;> omega
theorem cmp_lt {a b : Int} : cmpI a b < 0 ↔ a < b := by unfold cmpI; split <;> (try split) <;> omega
theorem lex_neg : ∀ a b : List Int, lexC b a = - lexC a b
  | [], [] => rfl
  | [], _ :: _ => rfl
  | _ :: _, [] => rfl
  | a :: l, b :: m => by
    have h1 := cmp_neg (a := a) (b := b)
    have h2 := lex_neg l m
    simp only [lexC, h2]
    split <;> split <;> omega
theorem lex_zero : ∀ a b : List Int, lexC a b = 0 ↔ a = b
  | [], [] => by simp [lexC]
  | [], _ :: _ => by simp [lexC]
  | _ :: _, [] => by simp [lexC]
  | a :: l, b :: m => by
    have h1 := cmp_zero (a := a) (b := b)
    have h2 := lex_zero l m
    rw [lexC, List.cons.injEq]
    by_cases h : cmpI a b = 0
    · rw [if_neg (by simp [h]), h2, ← h1]; simp [h]
    · rw [if_pos h]; simp [h, ← h1]
theorem lex_trans : ∀ a b c : List Int, lexC a b < 0 → lexC b c < 0 → lexC a c < 0
  | [], [], _, h, _ => by simp [lexC] at h
  | [], _ :: _, [], _, h => by simp [lexC] at h
  | [], _ :: _, _ :: _, _, _ => by simp [lexC]
  | _ :: _, [], _, h, _ => by simp [lexC] at h
  | _ :: _, _ :: _, [], _, h => by simp [lexC] at h
  | a :: l, b :: m, c :: k, h1, h2 => by
    have e1 := cmp_zero (a := a) (b := b)
    have e2 := cmp_zero (a := b) (b := c)
    have e3 := cmp_zero (a := a) (b := c)
    have f1 := cmp_lt (a := a) (b := b)
    have f2 := cmp_lt (a := b) (b := c)
    have f3 := cmp_lt (a := a) (b := c)
    have h3 := lex_trans l m k
    simp only [lexC] at h1 h2 ⊢
    split at h1 <;> split at h2 <;> split <;> first | omega | exact h3 (by omega) (by omega)
theorem ord_neg (a b : List Int) : ordC b a = - ordC a b := by
  have h1 := cmp_neg (a := (a.length : Int)) (b := b.length)
  have h2 := lex_neg a b
  unfold ordC
  split <;> split <;> omega
theorem ord_zero (a b : List Int) : ordC a b = 0 ↔ a = b := by
  have h1 := cmp_zero (a := (a.length : Int)) (b := b.length)
  have h2 := lex_zero a b
  unfold ordC
  by_cases h : cmpI a.length b.length = 0
  · rw [if_neg (by simp [h]), h2]
  · rw [if_pos h]
    refine ⟨fun h3 => absurd h3 h, fun h3 => absurd (h1.2 (by rw [h3])) h⟩
theorem ord_trans {a b c : List Int} (h1 : ordC a b < 0) (h2 : ordC b c < 0) : ordC a c < 0 := by
  have e1 := cmp_zero (a := (a.length : Int)) (b := b.length)
  have e2 := cmp_zero (a := (b.length : Int)) (b := c.length)
  have e3 := cmp_zero (a := (a.length : Int)) (b := c.length)
  have f1 := cmp_lt (a := (a.length : Int)) (b := b.length)
  have f2 := cmp_lt (a := (b.length : Int)) (b := c.length)
  have f3 := cmp_lt (a := (a.length : Int)) (b := c.length)
  have h3 := lex_trans a b c
  unfold ordC at h1 h2 ⊢
  split at h1 <;> split at h2 <;> split <;> first | omega | exact h3 (by omega) (by omega)
end Go.Mth

namespace Go.Proofs.Ytblopbimchkneaa.Md
open Go Go.Abs Go.Mth
set_option linter.unusedVariables false
set_option linter.unusedSimpArgs false
/-! Sets as bits, and the least of them. -/
abbrev IL (l : List Nat) : List Int := l.map fun (x : Nat) => (x : Int)
def bitsL (s k : Nat) : List Nat := (List.range k).filter fun i => s.testBit i
theorem bits_yes {s k : Nat} (h : s.testBit k = true) : bitsL s (k + 1) = bitsL s k ++ [k] := by
  rw [bitsL, List.range_succ, List.filter_append, List.filter_cons_of_pos (by exact h)]; rfl
theorem bits_no {s k : Nat} (h : s.testBit k = false) : bitsL s (k + 1) = bitsL s k := by
  rw [bitsL, List.range_succ, List.filter_append, List.filter_cons_of_neg (by rw [h]; simp), List.filter_nil, List.append_nil]; rfl
theorem bits_len (s k : Nat) : (bitsL s k).length ≤ k := Nat.le_trans (List.length_filter_le _ _) (by simp)
theorem bits_more {s k : Nat} (h : s < 2 ^ k) : ∀ d, bitsL s (k + d) = bitsL s k
  | 0 => rfl
  | d + 1 => by rw [← Nat.add_assoc, bits_no (Nat.testBit_lt_two_pow (Nat.lt_of_lt_of_le h (Nat.pow_le_pow_right (by omega) (by omega)))), bits_more h d]
theorem bits_same {s k n : Nat} (h : s < 2 ^ k) (hn : s < 2 ^ n) : bitsL s k = bitsL s n := by
  rcases Nat.le_total k n with h1 | h1
  · obtain ⟨d, rfl⟩ := Nat.exists_eq_add_of_le h1
    exact (bits_more h d).symm
  · obtain ⟨d, rfl⟩ := Nat.exists_eq_add_of_le h1
    exact bits_more hn d
theorem mem_bits {s k i : Nat} : i ∈ bitsL s k ↔ i < k ∧ s.testBit i = true := by rw [bitsL, List.mem_filter, List.mem_range]
/-- The least of the sets of which something holds, as a list. -/
def LeastR (n : Nat) (P : Nat → Bool) (r : List Nat) : Prop := ∃ s, s < 2 ^ n ∧ P s = true ∧ r = bitsL s n ∧ ∀ t, t < 2 ^ n → P t = true → ¬ ordC (IL (bitsL t n)) (IL r) < 0
theorem IL_inj {l m : List Nat} (h : IL l = IL m) : l = m := by
  have : (IL l).map Int.toNat = (IL m).map Int.toNat := by rw [h]
  rwa [cast_toNat, cast_toNat] at this
theorem LeastR.unique {n : Nat} {P : Nat → Bool} {r q : List Nat} (h : LeastR n P r) (h' : LeastR n P q) : r = q := by
  obtain ⟨s, h1, h2, rfl, h4⟩ := h
  obtain ⟨t, g1, g2, rfl, g4⟩ := h'
  have e1 := h4 t g1 g2
  have e2 := g4 s h1 h2
  rw [ord_neg] at e1
  exact IL_inj ((ord_zero _ _).1 (by omega))
theorem ord_nil {l : List Int} : ¬ ordC l [] < 0 := by
  unfold ordC
  cases l with
  | nil => simp [cmpI, lexC]
  | cons a l =>
    have : cmpI ((a :: l).length : Int) (([] : List Int).length : Int) = 1 := by
      unfold cmpI; simp; omega
    rw [this]; simp
theorem LeastR.nil {n : Nat} {P : Nat → Bool} {r : List Nat} (h : LeastR n P r) : r = [] ↔ P 0 = true := by
  have hp := Nat.two_pow_pos n
  have h0 : bitsL 0 n = [] := by
    rw [bitsL, List.filter_eq_nil_iff]; intro a _; simp
  constructor
  · intro hr
    obtain ⟨s, h1, h2, h3, h4⟩ := h
    have : s = 0 := Nat.eq_of_testBit_eq fun i => by
      rw [Nat.zero_testBit]
      cases hb : s.testBit i with
      | false => rfl
      | true =>
        have hi : i < n := by
          rcases Nat.lt_or_ge i n with h5 | h5
          · exact h5
          · rw [Nat.testBit_lt_two_pow (Nat.lt_of_lt_of_le h1 (Nat.pow_le_pow_right (by omega) h5))] at hb; cases hb
        have : i ∈ bitsL s n := mem_bits.2 ⟨hi, hb⟩
        rw [← h3, hr] at this; cases this
    rw [← this]; exact h2
  · intro hP
    refine h.unique ⟨0, hp, hP, h0.symm, fun t _ _ => ?_⟩
    exact ord_nil
structure FW where
  k : Nat
  v : Value
  s : Nat
  Mx : HL
  n : Nat
attribute [local irreducible] gOK WS WC WR WD Ends FS YS OpV seqK blockK loopK midK retK rdK asgK rangeEnd sat Cell

section
variable {M : HL} {n0 : Nat} {H : Heap} {v w : Value}
theorem isNaN_fs (a : Int) (H : Heap) : FS C 92 [.int .i64 a] H (fun e H' => e = .bool false ∧ H' = H) := by
  refine FS.intro (pf := pf92) rfl rfl rfl ?_
  repeat' (first | refine zP ?_ | refine zA ?_ | (refine zM ?_; intro _ _) | refine zX ?_ | (refine zC ?_; intro _ _ _ _) | (refine zS ?_; intro _ _) | (apply Ws <;> intro hg))
  exact Ends.ret1 rfl ⟨by rw [decide_eq_false (by simp)], rfl⟩
theorem cmpI_fs (a b : Int) (H : Heap) : FS C 82 [.int .i64 a, .int .i64 b] H (fun e H' => e = .int .i64 (cmpI a b) ∧ H' = H) := by
  refine FS.intro (pf := pf82) rfl rfl rfl ?_
  repeat' (first | refine zP ?_ | refine zA ?_ | (refine zM ?_; intro _ _) | refine zX ?_ | (refine zC ?_; intro _ _ _ _) | (refine zS ?_; intro _ _) | (apply Ws <;> intro hg))
  refine WR.call (by first | exact gN | exact gS rfl) rfl rfl (isNaN_fs _ _) ?_
  rintro _ _ ⟨rfl, rfl⟩
  repeat' (first | refine zP ?_ | refine zA ?_ | (refine zM ?_; intro _ _) | refine zX ?_ | (refine zC ?_; intro _ _ _ _) | (refine zS ?_; intro _ _) | (apply Ws <;> intro hg))
  refine WR.call (by first | exact gN | exact gS rfl) rfl rfl (isNaN_fs _ _) ?_
  rintro _ _ ⟨rfl, rfl⟩
  repeat' (first | refine zP ?_ | refine zA ?_ | (refine zM ?_; intro _ _) | refine zX ?_ | (refine zC ?_; intro _ _ _ _) | (refine zS ?_; intro _ _) | (apply Ws <;> intro hg))
  refine WC.condP rfl (fun h1 => ?_) (fun h1 => ?_)
  · repeat' (first | refine zP ?_ | refine zA ?_ | (refine zM ?_; intro _ _) | refine zX ?_ | (refine zC ?_; intro _ _ _ _) | (refine zS ?_; intro _ _) | (apply Ws <;> intro hg))
    exact Ends.ret1 rfl ⟨by rw [cmpI, if_pos h1], rfl⟩
  · repeat' (first | refine zP ?_ | refine zA ?_ | (refine zM ?_; intro _ _) | refine zX ?_ | (refine zC ?_; intro _ _ _ _) | (refine zS ?_; intro _ _) | (apply Ws <;> intro hg))
    refine WC.condP rfl (fun h2 => ?_) (fun h2 => ?_)
    · repeat' (first | refine zP ?_ | refine zA ?_ | (refine zM ?_; intro _ _) | refine zX ?_ | (refine zC ?_; intro _ _ _ _) | (refine zS ?_; intro _ _) | (apply Ws <;> intro hg))
      exact Ends.ret1 rfl ⟨by rw [cmpI, if_neg h1, if_pos h2], rfl⟩
    · repeat' (first | refine zP ?_ | refine zA ?_ | (refine zM ?_; intro _ _) | refine zX ?_ | (refine zC ?_; intro _ _ _ _) | (refine zS ?_; intro _ _) | (apply Ws <;> intro hg))
      exact Ends.ret1 rfl ⟨by rw [cmpI, if_neg h1, if_neg h2], rfl⟩
theorem Or_fs (hH : hasH M n0 H) {x y : Int} (hS : Sl M 1 v (ints [x, y])) : FS C 90 [v] H (fun e H' => e = .int .i64 (if x ≠ 0 then x else y) ∧ H' = H) := by
  refine FS.intro (pf := pf90) rfl rfl rfl ?_
  repeat' (first | refine zP ?_ | refine zA ?_ | (refine zM ?_; intro _ _) | refine zX ?_ | (refine zC ?_; intro _ _ _ _) | (refine zS ?_; intro _ _) | (apply Ws <;> intro hg))
  have h2 : [x, y].length = 2 := rfl
  refine WC.loopX [(3, .int .i64 0), (6, _), (7, _)] (fun k : Nat => [(8, .int .i64 (k : Int))]) [] (fun k H' => H' = H ∧ k ≤ 2 ∧ (1 ≤ k → x = 0) ∧ (2 ≤ k → y = 0)) (fun k => 2 - k) 0 (by repeat' (first | exact .nil | refine .cons rfl ?_)) rfl ⟨rfl, by omega, fun h => by omega, fun h => by omega⟩ ?_
  rintro k _ ⟨rfl, hk, hx, hy⟩
  dsimp only [List.cons_append, List.nil_append]
  repeat' (first | refine zP ?_ | refine zA ?_ | (refine zM ?_; intro _ _) | refine zX ?_ | (refine zC ?_; intro _ _ _ _) | (refine zS ?_; intro _ _) | (apply Ws <;> intro hg))
  refine WC.condP rfl (fun hlt => ?_) (fun hlt => ?_)
  · have hk' : k < 2 := by omega
    repeat' (first | refine zP ?_ | refine zA ?_ | (refine zM ?_; intro _ _) | refine zX ?_ | (refine zC ?_; intro _ _ _ _) | (refine zS ?_; intro _ _) | (apply Ws <;> intro hg))
    have hq : [x, y].getD k 0 = if k = 0 then x else y := by
      rcases (show k = 0 ∨ k = 1 by omega) with rfl | rfl <;> rfl
    rw [hq]
    refine WC.condP rfl (fun hne => ?_) (fun hne => ?_)
    · repeat' (first | refine zP ?_ | refine zA ?_ | (refine zM ?_; intro _ _) | refine zX ?_ | (refine zC ?_; intro _ _ _ _) | (refine zS ?_; intro _ _) | (apply Ws <;> intro hg))
      refine Ends.ret1 rfl ⟨?_, rfl⟩
      by_cases h : k = 0
      · rw [if_pos h] at hne ⊢; rw [if_pos hne]
      · rw [if_neg h, hx (by omega)]; simp
    · repeat' (first | refine zP ?_ | refine zA ?_ | (refine zM ?_; intro _ _) | refine zX ?_ | (refine zC ?_; intro _ _ _ _) | (refine zS ?_; intro _ _) | (apply Ws <;> intro hg))
      refine Ends.loop (k + 1) (by omega) (by repeat' (first | exact .nil | refine .cons rfl ?_)) rfl ⟨rfl, by omega, fun h => ?_, fun h => ?_⟩
      · by_cases h : k = 0
        · rw [if_pos h] at hne; exact Decidable.not_not.1 hne
        · exact hx (by omega)
      · rw [if_neg (by omega)] at hne; exact Decidable.not_not.1 hne
  · have hk2 : k = 2 := by omega
    subst hk2
    repeat' (first | refine zP ?_ | refine zA ?_ | (refine zM ?_; intro _ _) | refine zX ?_ | (refine zC ?_; intro _ _ _ _) | (refine zS ?_; intro _ _) | (apply Ws <;> intro hg))
    exact Ends.ret1 rfl ⟨by rw [hx (by omega), hy (by omega)]; rfl, rfl⟩

theorem Compare_fs (hH : hasH M n0 H) {xs ys : List Int} (hS : Sl M 1 v (ints xs)) (hU : Sl M 1 w (ints ys)) (hx : xs.length ≤ 1000) (hy : ys.length ≤ 1000) :
    FS C 44 [v, w] H (fun e H' => e = .int .i64 (lexC xs ys) ∧ H' = H) := by
  refine FS.intro (pf := pf44) rfl rfl rfl ?_
  repeat' (first | refine zP ?_ | refine zA ?_ | (refine zM ?_; intro _ _) | refine zX ?_ | (refine zC ?_; intro _ _ _ _) | (refine zS ?_; intro _ _) | (apply Ws <;> intro hg))
  refine WC.loopX [(0, _), (1, _), (9, _), (10, _)] (fun k : Nat => [(11, .int .i64 (k : Int))]) [] (fun k H' => H' = H ∧ k ≤ xs.length ∧ k ≤ ys.length ∧ lexC xs ys = lexC (xs.drop k) (ys.drop k)) (fun k => xs.length - k) 0 (by repeat' (first | exact .nil | refine .cons rfl ?_)) rfl ⟨rfl, Nat.zero_le _, Nat.zero_le _, rfl⟩ ?_
  rintro k _ ⟨rfl, hk, hk2, hL⟩
  dsimp only [List.cons_append, List.nil_append]
  repeat' (first | refine zP ?_ | refine zA ?_ | (refine zM ?_; intro _ _) | refine zX ?_ | (refine zC ?_; intro _ _ _ _) | (refine zS ?_; intro _ _) | (apply Ws <;> intro hg))
  refine WC.condP rfl (fun hlt => ?_) (fun hlt => ?_)
  · have hk' : k < xs.length := by omega
    rw [List.drop_eq_getElem_cons hk'] at hL
    repeat' (first | refine zP ?_ | refine zA ?_ | (refine zM ?_; intro _ _) | refine zX ?_ | (refine zC ?_; intro _ _ _ _) | (refine zS ?_; intro _ _) | (apply Ws <;> intro hg))
    refine WC.condP rfl (fun hge => ?_) (fun hge => ?_)
    · have hke : k = ys.length := by omega
      repeat' (first | refine zP ?_ | refine zA ?_ | (refine zM ?_; intro _ _) | refine zX ?_ | (refine zC ?_; intro _ _ _ _) | (refine zS ?_; intro _ _) | (apply Ws <;> intro hg))
      refine Ends.ret1 rfl ⟨?_, rfl⟩
      rw [hL, show ys.drop k = [] from List.drop_eq_nil_of_le (by omega)]; rfl
    · have hk3 : k < ys.length := by omega
      rw [List.drop_eq_getElem_cons hk3, lexC, ← getD_eq (a := 0) hk', ← getD_eq (a := 0) hk3] at hL
      repeat' (first | refine zP ?_ | refine zA ?_ | (refine zM ?_; intro _ _) | refine zX ?_ | (refine zC ?_; intro _ _ _ _) | (refine zS ?_; intro _ _) | (apply Ws <;> intro hg))
      refine WR.call (by first | exact gN | exact gS rfl) rfl rfl (cmpI_fs _ _ _) ?_
      rintro _ _ ⟨rfl, rfl⟩
      repeat' (first | refine zP ?_ | refine zA ?_ | (refine zM ?_; intro _ _) | refine zX ?_ | (refine zC ?_; intro _ _ _ _) | (refine zS ?_; intro _ _) | (apply Ws <;> intro hg))
      refine WC.condP rfl (fun hne => ?_) (fun hne => ?_)
      · repeat' (first | refine zP ?_ | refine zA ?_ | (refine zM ?_; intro _ _) | refine zX ?_ | (refine zC ?_; intro _ _ _ _) | (refine zS ?_; intro _ _) | (apply Ws <;> intro hg))
        exact Ends.ret1 rfl ⟨by rw [hL, if_pos hne], rfl⟩
      · repeat' (first | refine zP ?_ | refine zA ?_ | (refine zM ?_; intro _ _) | refine zX ?_ | (refine zC ?_; intro _ _ _ _) | (refine zS ?_; intro _ _) | (apply Ws <;> intro hg))
        exact Ends.loop (k + 1) (by omega) (by repeat' (first | exact .nil | refine .cons rfl ?_)) rfl ⟨rfl, by omega, by omega, by rw [hL, if_neg hne]⟩
  · have hkl : k = xs.length := by omega
    rw [show xs.drop k = [] from List.drop_eq_nil_of_le (by omega)] at hL
    repeat' (first | refine zP ?_ | refine zA ?_ | (refine zM ?_; intro _ _) | refine zX ?_ | (refine zC ?_; intro _ _ _ _) | (refine zS ?_; intro _ _) | (apply Ws <;> intro hg))
    refine WC.condP rfl (fun h3 => ?_) (fun h3 => ?_)
    · rw [List.drop_eq_getElem_cons (show k < ys.length by omega)] at hL
      repeat' (first | refine zP ?_ | refine zA ?_ | (refine zM ?_; intro _ _) | refine zX ?_ | (refine zC ?_; intro _ _ _ _) | (refine zS ?_; intro _ _) | (apply Ws <;> intro hg))
      exact Ends.ret1 rfl ⟨by rw [hL]; rfl, rfl⟩
    · rw [show ys.drop k = [] from List.drop_eq_nil_of_le (by omega)] at hL
      repeat' (first | refine zP ?_ | refine zA ?_ | (refine zM ?_; intro _ _) | refine zX ?_ | (refine zC ?_; intro _ _ _ _) | (refine zS ?_; intro _ _) | (apply Ws <;> intro hg))
      exact Ends.ret1 rfl ⟨by rw [hL]; rfl, rfl⟩

theorem numbersOf_fs (hH : hasH M n0 H) {s n : Nat} (hs : s < 2 ^ n) (hn : n ≤ 61) :
    FS C 89 [.int .i64 (s : Int)] H (fun e H' => ∃ Mx n', Own 3 1 e (nodes (bitsL s n)) Mx ∧ n0 ≤ n' ∧ hasH (Mx ++ M) n' H') := by
  have hs62 : s < 2 ^ 62 := Nat.lt_of_lt_of_le hs (Nat.pow_le_pow_right (by omega) (by omega))
  refine FS.intro (pf := pf89) rfl rfl rfl ?_
  repeat' (first | refine zP ?_ | refine zA ?_ | (refine zM ?_; intro _ _) | refine zX ?_ | (refine zC ?_; intro _ _ _ _) | (refine zS ?_; intro _ _) | (apply Ws <;> intro hg))
  refine WC.loopX [(0, _)] (fun s : NV => [(3, s.v), (4, .int .i64 (s.k : Int))]) []
    (fun z H' => z.k ≤ n ∧ n0 ≤ z.n ∧ Own 3 1 z.v (nodes (bitsL s z.k)) z.Mx ∧ hasH (z.Mx ++ M) z.n H') (fun z => n - z.k) ⟨0, .slice none 0 0, [], [], n0⟩ (by repeat' (first | exact .nil | refine .cons rfl ?_)) rfl
    ⟨Nat.zero_le _, Nat.le_refl _, .nil, hH⟩ ?_
  clear hH
  rintro ⟨k, w, _, Mx, n1⟩ H1 ⟨hk, hn1, hO, hH1⟩
  simp only at hk hn1 hO hH1
  dsimp only [List.cons_append, List.nil_append]
  repeat' (first | refine zP ?_ | refine zA ?_ | (refine zM ?_; intro _ _) | refine zX ?_ | (refine zC ?_; intro _ _ _ _) | (refine zS ?_; intro _ _) | (apply Ws <;> intro hg))
  refine WR.op (by first | exact gN | exact gS rfl) rfl (OpV.shrN rfl rfl (by show k ≤ 64; omega)) ?_
  obtain ⟨z, hz⟩ : ∃ z, s >>> k = z := ⟨_, rfl⟩
  rw [hz]
  repeat' (first | refine zP ?_ | refine zA ?_ | (refine zM ?_; intro _ _) | refine zX ?_ | (refine zC ?_; intro _ _ _ _) | (refine zS ?_; intro _ _) | (apply Ws <;> intro hg))
  refine WC.condP rfl (fun hlt => ?_) (fun hlt => ?_)
  · have hk' : k < n := by
      rcases Nat.lt_or_ge k n with h | h
      · exact h
      · have : s >>> k = 0 := Nat.shiftRight_eq_zero _ _ (Nat.lt_of_lt_of_le hs (Nat.pow_le_pow_right (by omega) h))
        omega
    repeat' (first | refine zP ?_ | refine zA ?_ | (refine zM ?_; intro _ _) | refine zX ?_ | (refine zC ?_; intro _ _ _ _) | (refine zS ?_; intro _ _) | (apply Ws <;> intro hg))
    refine WR.call (by first | exact gN | exact gS rfl) rfl rfl (has_fs hs62 (by omega) _) ?_
    rintro _ H2 ⟨rfl, rfl⟩
    cases hb : s.testBit k with
    | true =>
      repeat' (first | refine zP ?_ | refine zA ?_ | (refine zM ?_; intro _ _) | refine zX ?_ | (refine zC ?_; intro _ _ _ _) | (refine zS ?_; intro _ _) | (apply Ws <;> intro hg))
      refine WR.append1F [] Mx M rfl rfl rfl rfl hO hH1 (new := [.int .i64 (k : Int)]) (by rfl) rfl rfl (Nat.le_refl _) (by omega) (by have := bits_len s k; simp; omega) fun v3 M3 n3 H3 hO3 hH3 hn3 => ?_
      repeat' (first | refine zP ?_ | refine zA ?_ | (refine zM ?_; intro _ _) | refine zX ?_ | (refine zC ?_; intro _ _ _ _) | (refine zS ?_; intro _ _) | (apply Ws <;> intro hg))
      refine Ends.loop ⟨k + 1, v3, [], M3, n3⟩ (by show n - (k + 1) < n - k; omega) (by repeat' (first | exact .nil | refine .cons rfl ?_)) rfl ⟨hk', by simp only; omega, ?_, hH3⟩
      simp only
      rw [bits_yes hb]
      simpa [nodes] using hO3
    | false =>
      repeat' (first | refine zP ?_ | refine zA ?_ | (refine zM ?_; intro _ _) | refine zX ?_ | (refine zC ?_; intro _ _ _ _) | (refine zS ?_; intro _ _) | (apply Ws <;> intro hg))
      refine Ends.loop ⟨k + 1, w, [], Mx, n1⟩ (by show n - (k + 1) < n - k; omega) (by repeat' (first | exact .nil | refine .cons rfl ?_)) rfl ⟨hk', hn1, ?_, hH1⟩
      simp only
      rw [bits_no hb]; exact hO
  · have hz0 : s >>> k = 0 := by omega
    have hsk : s < 2 ^ k := by
      rw [Nat.shiftRight_eq_div_pow] at hz0
      exact Nat.lt_of_div_eq_zero (Nat.two_pow_pos k) hz0
    rw [bits_same hsk hs] at hO
    repeat' (first | refine zP ?_ | refine zA ?_ | (refine zM ?_; intro _ _) | refine zX ?_ | (refine zC ?_; intro _ _ _ _) | (refine zS ?_; intro _ _) | (apply Ws <;> intro hg))
    exact Ends.ret1 rfl ⟨Mx, n1, hO, hn1, hH1⟩
end
end Go.Proofs.Ytblopbimchkneaa.Md
