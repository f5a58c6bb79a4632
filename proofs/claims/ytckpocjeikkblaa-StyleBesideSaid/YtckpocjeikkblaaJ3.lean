/- Texts of the law, joined. -/
import Derived.Test.YtckpocjeikkblaaJ2
namespace Go.Proofs.Ytckpocjeikkblaa.St
open Go Go.Abs Go.Mth
set_option linter.unusedVariables false
set_option linter.unusedSimpArgs false

theorem finds_intro {n : Int} {fs : List (List Int)} (h1 : 1 ≤ n ∧ n ≤ 7) (h2 : fs.length ≤ 10) (h3 : ∀ l ∈ fs, formE n l = 0) : findsE n fs = 0 := by
  rw [findsE, if_neg (by omega), if_neg (by omega), firstE_zero]
  intro i hi
  exact h3 _ (getD_mem hi)
theorem fitB_iff {N : Nat} {fs : List (List Int)} {z : List Nat} (hf0 : findsE (N : Int) fs = 0) (h : z ∈ permsL N (List.range N)) : fitB fs z = true ↔ ∀ l ∈ fs, RN (bitF l (castI z)) (castI z).length = 1 := by
  rw [fit_same hf0 rfl h, fitR_iff]
  refine ⟨fun k l hl => ?_, fun k i hi => k _ (getD_mem hi)⟩
  obtain ⟨i, hi, rfl⟩ := List.mem_iff_getElem.1 hl
  have := k i hi
  rwa [getD_eq hi] at this
end Go.Proofs.Ytckpocjeikkblaa.St

namespace Go.Proofs.Ytckpocjeikkblaa.St
open Go Go.Abs Go.Mth
set_option linter.unusedVariables false
set_option linter.unusedSimpArgs false

section
variable {nt : Nat} {L : Env} {D : List Nat} {H H' : Heap} {K : St → Prop} {M M' : HL} {n i d : Nat} {gd : Option (Tmp × Bool)} {lo : List Nat} {l : List POp} {rs : List Rd}
theorem WD.bldS {e sz k : Nat} {z : List Value} {ps : List (Nat × Operand)} {vs : List (Nat × Value)} {cs : List Value} (hg : gOK L gd) (hd : Nat.blt d nt = true) (hH : hasH M n H) (hp : evp L ps = some vs)
    (hc : Instr.fill (fun j => some (j * sz, sz)) z.toArray vs = some cs.toArray) (hz : cs.all one = true)
    (hs : ∀ H', hasH ((n, .row e 0 0 cs) :: M) (n + 1) H' → stands H' lo rs = true)
    (kk : ∀ H', hasH ((n, .row e 0 0 cs) :: M) (n + 1) H' → WD C nt l rs ((d, .slice (some ⟨n, 0, some 0⟩) k (2 * k + 1)) :: L) D H' K) : WD C nt (⟨i, some d, .bldS e sz z k ps, gd, lo⟩ :: l) rs L D H K := by
  have h2 := hH.row e hz
  refine WD.op hg hd (H' := H.row e cs) (v := .slice (some ⟨n, 0, some 0⟩) k (2 * k + 1)) (fun t ht => ?_) rfl (hs _ h2) (kk _ h2)
  simp only [opA, evp_ok ht hp, hc, oBldS, newAddr, hH.next]
theorem WD.append {e sz : Nat} {s x : Operand} {v y : Value} {cs : List Value} {Mx M0 : HL} {k : Nat} {new : List Value} (hg : gOK L gd) (hd : Nat.blt d nt = true) (hs : ev L s = some v) (hy : ev L x = some y)
    (hO : Own e sz v cs Mx) (hH : hasH M n H) (hM : M'.Sublist M) (hp : M'.Perm (Mx ++ M0)) (hk : srcLen y = some k) (hx : srcCells H sz k y = some new) (hl : new.length = k * sz) (h1 : 1 ≤ k) (hone : new.all one = true) (hs1 : 1 ≤ sz) (hs2 : sz ≤ 1000)
    (hsm : cs.length + new.length ≤ 100000) (kk : ∀ v' Mx' n' H', Own e sz v' (cs ++ new) Mx' → hasH (Mx' ++ M0) n' H' → n ≤ n' → stands H' lo rs = true ∧ WD C nt l rs ((d, v') :: L) D H' K) :
    WD C nt (⟨i, some d, .append e sz s x, gd, lo⟩ :: l) rs L D H K := by
  obtain ⟨v', Mx', n', H', q1, q2, q3, q4⟩ := append_own (P := C.c.P) hO ((hH.sub hM).perm hp) hk hx hl h1 hone hs1 hs2 hsm
  obtain ⟨k1, k2⟩ := kk v' Mx' n' H' q2 q3 q4
  refine WD.op hg hd (H' := H') (v := v') (fun t ht => ?_) rfl k1 k2
  simp only [opA, ev_ok ht hs, ev_ok ht hy, q1]
end
attribute [local irreducible] gOK WS WC WR WD Ends FS YS OpV seqK blockK loopK midK retK rdK asgK rangeEnd sat Cell

section
variable {M : HL} {n0 : Nat} {H : Heap} {v w : Value}
theorem CloneN_fs (H : Heap) : FS C 45 [.slice none 0 0] H (fun e H' => e = .slice none 0 0 ∧ H' = H) := by
  refine FS.intro (pf := pf45) rfl rfl rfl ?_
  repeat' (first | refine zP ?_ | refine zA ?_ | (refine zM ?_; intro _ _) | refine zX ?_ | (refine zC ?_; intro _ _ _ _) | (refine zS ?_; intro _ _) | (apply Ws <;> intro hg))
  exact Ends.ret1 rfl ⟨rfl, rfl⟩
theorem CloneR_fs {vs : List Value} (hH : hasH M n0 H) (hS : Sl M 1 v vs) (hone : vs.all one = true) (hx : vs.length ≤ 1000) (hx1 : 1 ≤ vs.length) :
    FS C 45 [v] H (fun e H' => ∃ b n', e = .slice (some ⟨b, 0, some 0⟩) vs.length (2 * 1) ∧ n0 ≤ n' ∧ hasH ((b, .row 25 0 0 vs) :: M) n' H') := by
  have hne : vs ≠ [] := fun h => by subst h; simp at hx1
  have hsm : ∃ a len cap, v = .slice (some a) len cap := by
    cases hS with
    | nil c => exact absurd rfl hne
    | emp a => exact ⟨_, _, _, rfl⟩
    | row => exact ⟨_, _, _, rfl⟩
  obtain ⟨a, len, cap, rfl⟩ := hsm
  refine FS.intro (pf := pf45) rfl rfl rfl ?_
  repeat' (first | refine zP ?_ | refine zA ?_ | (refine zM ?_; intro _ _) | refine zX ?_ | (refine zC ?_; intro _ _ _ _) | (refine zS ?_; intro _ _) | (apply Ws <;> intro hg))
  refine WR.bldS (by first | exact gN | exact gS rfl) rfl hH (vs := []) rfl (cs := []) (by rfl) rfl fun H3 hH3 => ?_
  repeat' (first | refine zP ?_ | refine zA ?_ | (refine zM ?_; intro _ _) | refine zX ?_ | (refine zC ?_; intro _ _ _ _) | (refine zS ?_; intro _ _) | (apply Ws <;> intro hg))
  obtain ⟨hk, hsr⟩ := (hS.cons (p := (n0, .row 25 0 0 []))).src hH3 hne
  refine WR.appendNew (by first | exact gN | exact gS rfl) rfl rfl rfl hH3 (.head _) (.row _ _ _ _) (Nat.zero_le _) (Nat.zero_le _) hk (by have := hsr _ (Nat.le_refl _); rw [List.take_length] at this; exact this) (by simp) hx1 hone (by omega) (by omega) (by omega) fun H' hH' => ?_
  repeat' (first | refine zP ?_ | refine zA ?_ | (refine zM ?_; intro _ _) | refine zX ?_ | (refine zC ?_; intro _ _ _ _) | (refine zS ?_; intro _ _) | (apply Ws <;> intro hg))
  exact Ends.ret1 rfl ⟨n0 + 1, n0 + 2, rfl, by omega, hH'.sub (.cons_cons _ (List.sublist_cons_self _ _))⟩
end
end Go.Proofs.Ytckpocjeikkblaa.St

namespace Go.Proofs.Ytckpocjeikkblaa.St
open Go Go.Abs Go.Mth
set_option linter.unusedVariables false
set_option linter.unusedSimpArgs false

theorem form_len {n : Int} {l : List Int} (hn : n ≤ 7) (h : formE n l = 0) : l.length ≤ 1000 := by
  obtain ⟨g1, g2, g3⟩ := form_ok h
  have h7 := List.pairwise_iff_getElem.1 g3
  have hbb : ∀ i (hi : i < l.length), (i : Int) ≤ l[i] := by
    intro i
    induction i with
    | zero => intro hi; have := g2 _ (List.getElem_mem hi); omega
    | succ i ih => intro hi; have := ih (by omega); have := h7 i (i + 1) (by omega) hi (by omega); omega
  have := hbb (l.length - 1) (by omega)
  have := g2 _ (List.getElem_mem (show l.length - 1 < l.length by omega))
  omega
theorem one_rows {M : HL} {vs : List Value} {fs : List (List Int)} (hl : vs.length = fs.length) (h : ∀ i, i < fs.length → Sl M 1 (vs.getD i undef) (ints (fs.getD i []))) : vs.all one = true := by
  rw [List.all_eq_true]
  intro q hq
  obtain ⟨i, hi, rfl⟩ := List.mem_iff_getElem.1 hq
  have := h i (by omega)
  rw [getD_eq hi] at this
  exact this.one_
attribute [local irreducible] gOK WS WC WR WD Ends FS YS OpV seqK blockK loopK midK retK rdK asgK rangeEnd sat Cell

theorem CloneO_fs {M : HL} {n0 : Nat} {H : Heap} {v : Value} {vs : List Value} (hH : hasH M n0 H) (hS : Sl M 1 v vs) (hone : vs.all one = true) (hx : vs.length ≤ 1000) (h0 : vs = [] → v = .slice none 0 0) :
    FS C 45 [v] H (fun e H' => ∃ Mx n', Own 25 1 e vs Mx ∧ n0 ≤ n' ∧ hasH (Mx ++ M) n' H') := by
  rcases Nat.eq_zero_or_pos vs.length with h | h
  · have hv := h0 (List.length_eq_zero_iff.1 h)
    have hvs := List.length_eq_zero_iff.1 h
    subst hv; subst hvs
    exact (CloneN_fs H).mono fun e H' ⟨h1, h2⟩ => ⟨[], n0, by rw [h1]; exact .nil, Nat.le_refl _, by rw [h2]; exact hH⟩
  · exact (CloneR_fs hH hS hone hx h).mono fun e H' ⟨b, n', h1, h2, h3⟩ => ⟨[_], n', by rw [h1]; exact .row (by omega), h2, h3⟩
end Go.Proofs.Ytckpocjeikkblaa.St

namespace Go.Proofs.Ytckpocjeikkblaa.St
open Go Go.Abs Go.Mth
set_option linter.unusedVariables false
set_option linter.unusedSimpArgs false

section
variable {nt : Nat} {L : Env} {D : List Nat} {H H' : Heap} {K : St → Prop} {M M' : HL} {n i d : Nat} {gd : Option (Tmp × Bool)} {lo : List Nat} {l : List POp} {rs : List Rd}
/-- A slice that has no room, as append reads it. -/
def FullS (H : Heap) (s : Value) (len : Nat) (old : List Value) : Prop := ∃ base cap c, s = .slice base len cap ∧ capOf base cap = .known c ∧ c ≤ len ∧ srcCells H 1 len s = some old

theorem OpV.appFull {e : TypeId} {s x : Operand} {sv y : Value} {len k : Nat} {old new : List Value} (hs : ev L s = some sv) (hF : FullS H sv len old) (hy : ev L x = some y) (hk : srcLen y = some k) (hx : srcCells H 1 k y = some new) (h1 : 1 ≤ k)
    (ho : old.length = len) (hn : new.length = k) (hone : (old ++ new).all one = true) (hsm : len + k ≤ 100000) (hH : hasH M n H) : OpV C (.append e 1 s x) L H (.slice (some ⟨n, 0, some 0⟩) (len + k) (2 * 1)) (H.row e (old ++ new)) := fun t ht => by
  obtain ⟨base, cap, c, rfl, hc, hcl, hr⟩ := hF
  have hb : Nat.ble (len + k) c = false := by
    cases hb : Nat.ble (len + k) c with
    | false => rfl
    | true => have := Nat.le_of_ble_eq_true hb; omega
  rw [List.all_append, Bool.and_eq_true] at hone
  have hs2 : small 1 (len + k) = true := by simp only [small, Bool.and_eq_true]; exact ⟨⟨Nat.ble_eq_true_of_le hsm, rfl⟩, rfl⟩
  have hq : Nat.beq (old.length + new.length) ((len + k) * 1) = true := by rw [ho, hn, Nat.mul_one]; exact Nat.beq_refl _
  simp only [opA, ev_ok ht hs, ev_ok ht hy, appendA, hk, hx, appWith, hc, hb, cond_false, hr, appNew, hs2, hone.1, hone.2, hq, Bool.and_self, Bool.and_true, cond_true, newAddr, hH.next]

/-- x[:len:len] -/
theorem OpV.cutFull {x hi mx : Operand} {v : Value} {ls : List Value} {kd kd2 : IntKind} (hx : ev L x = some v) (hS : Sl M 1 v ls) (h0 : ls = [] → v = .slice none 0 0) (hH : hasH M n H) (hh : ev L hi = some (.int kd (ls.length : Int))) (hm : ev L mx = some (.int kd2 (ls.length : Int))) :
    ∃ s, (∀ M2 n2 H2, hasH M2 n2 H2 → (∀ p ∈ M, p ∈ M2) → FullS H2 s ls.length ls) ∧ OpV C (.slS x 1 none (some hi) (some mx)) L H s H := by
  rcases Nat.eq_zero_or_pos ls.length with hz | hz
  · have hl : ls = [] := List.length_eq_zero_iff.1 hz
    subst hl
    have hv := h0 rfl
    subst hv
    refine ⟨.slice none 0 0, fun _ _ _ _ _ => ⟨none, 0, 0, rfl, rfl, Nat.le_refl _, rfl⟩, fun t ht => ?_⟩
    simp only [opA, ev_ok ht hx, Option.map_none, Option.map_some, ev_ok ht hh, ev_ok ht hm, oSlS]
    rfl
  · have hne : ls ≠ [] := fun h => by rw [h] at hz; exact absurd hz (Nat.lt_irrefl _)
    have hsrc : ∀ M2 n2 H2, hasH M2 n2 H2 → (∀ p ∈ M, p ∈ M2) → srcCells H2 1 ls.length v = some ls := fun M2 n2 H2 h2 hm2 => by
      have := ((hS.mono hm2).src h2 hne).2 _ (Nat.le_refl _)
      rwa [List.take_length] at this
    cases hS with
    | nil c => exact absurd rfl hne
    | emp a => exact absurd rfl hne
    | row hm' hc hlo hl hv hin hcap =>
      rename_i b o u lo' len cap ch cs
      have hlen : ls.length = len := by omega
      subst hlen
      refine ⟨.slice (some ⟨b, o, some u⟩) ls.length (2 * ls.length + 1), fun M2 n2 H2 h2 hm2 => ⟨_, _, _, rfl, capOf_odd _ _, Nat.le_refl _, hsrc M2 n2 H2 h2 hm2⟩, fun t ht => ?_⟩
      have hb : Nat.beq ls.length 0 = false := by cases hb : Nat.beq ls.length 0 with | false => rfl | true => have := Nat.eq_of_beq_eq_true hb; omega
      have e0 : Addr.plus ⟨b, o, some u⟩ (0 * 1) = ⟨b, o, some u⟩ := by simp [Addr.plus]
      simp only [opA, ev_ok ht hx, Option.map_none, Option.map_some, ev_ok ht hh, ev_ok ht hm, oSlS, sliceA, loOf, hiOf, nat_of, Option.isSome_some, Option.isNone_some, Bool.and_false, cond_false]
      rcases hcap with (rfl | ⟨r, rfl, hle⟩) | ⟨c, rfl, hle⟩
      · rw [capOf_open _ (show 1 ≤ 1000 by decide)]
        simp only [sliceTo, nat_of]
        rw [cond_some (by simp [Nat.ble_eq])]
        simp only [cutOpenMax, hb, cond_false, cutKnown, asVal, e0, Nat.sub_zero]
      · rw [capOf_room _ (show 1 ≤ 1000 by decide)]
        simp only [sliceTo, nat_of]
        rw [cond_some (by simp [Nat.ble_eq, hle])]
        simp only [hb, cond_false, cutKnown, asVal, e0, Nat.sub_zero]
      · rw [capOf_odd]
        simp only [sliceTo, nat_of]
        rw [cond_some (by simp [Nat.ble_eq, hle])]
        simp only [hb, cond_false, cutKnown, asVal, e0, Nat.sub_zero]
theorem WD.cutFull {x hi mx : Operand} {v : Value} {ls : List Value} {kd kd2 : IntKind} (hg : gOK L gd) (hd : Nat.blt d nt = true) (hx : ev L x = some v) (hS : Sl M 1 v ls) (h0 : ls = [] → v = .slice none 0 0) (hH : hasH M n H) (hh : ev L hi = some (.int kd (ls.length : Int))) (hm : ev L mx = some (.int kd2 (ls.length : Int)))
    (kk : ∀ s, (∀ M2 n2 H2, hasH M2 n2 H2 → (∀ p ∈ M, p ∈ M2) → FullS H2 s ls.length ls) → WD C nt l rs ((d, s) :: L) D H K) : WD C nt (⟨i, some d, .slS x 1 none (some hi) (some mx), gd, []⟩ :: l) rs L D H K := by
  obtain ⟨s, h1, h2⟩ := OpV.cutFull hx hS h0 hH hh hm
  exact WD.op hg hd h2 rfl (stands_nil _ _) (kk s h1)
theorem WD.appFull {e : TypeId} {s x : Operand} {sv y : Value} {len k : Nat} {old new : List Value} (hg : gOK L gd) (hd : Nat.blt d nt = true) (hs : ev L s = some sv) (hF : FullS H sv len old) (hy : ev L x = some y) (hk : srcLen y = some k) (hx : srcCells H 1 k y = some new) (h1 : 1 ≤ k)
    (ho : old.length = len) (hn : new.length = k) (hone : (old ++ new).all one = true) (hsm : len + k ≤ 100000) (hH : hasH M n H) (hst : ∀ H', hasH ((n, .row e 0 0 (old ++ new)) :: M) (n + 1) H' → stands H' lo rs = true)
    (kk : ∀ H', hasH ((n, .row e 0 0 (old ++ new)) :: M) (n + 1) H' → WD C nt l rs ((d, .slice (some ⟨n, 0, some 0⟩) (len + k) (2 * 1)) :: L) D H' K) : WD C nt (⟨i, some d, .append e 1 s x, gd, lo⟩ :: l) rs L D H K := by
  have h2 := hH.row e hone
  exact WD.op hg hd (OpV.appFull hs hF hy hk hx h1 ho hn hone hsm hH) rfl (hst _ h2) (kk _ h2)
end
end Go.Proofs.Ytckpocjeikkblaa.St

namespace Go.Proofs.Ytckpocjeikkblaa.St
open Go Go.Abs Go.Mth
set_option linter.unusedVariables false
set_option linter.unusedSimpArgs false

/-- What is still to come, from the last numbers on. -/
def remF {α : Type} (f : Nat → List α) (N : Nat) (zs : List α) : Nat → List α
  | 0 => zs
  | d + 1 => f (N - (d + 1)) ++ remF f N zs d
theorem remF_all {α : Type} (f : Nat → List α) (N : Nat) (zs : List α) : ∀ d, d ≤ N → ((List.range N).drop (N - d)).flatMap f ++ zs = remF f N zs d
  | 0, _ => by rw [Nat.sub_zero, List.drop_eq_nil_of_le (by simp)]; rfl
  | d + 1, h => by
    rw [List.drop_eq_getElem_cons (by simp; omega), List.getElem_range, show N - (d + 1) + 1 = N - d by omega, List.flatMap_cons, List.append_assoc, remF_all f N zs d (by omega)]
    rfl
theorem remF_zero {α : Type} (f : Nat → List α) (N : Nat) (zs : List α) : (List.range N).flatMap f ++ zs = remF f N zs N := by
  have := remF_all f N zs N (Nat.le_refl _)
  rwa [Nat.sub_self, List.drop_zero] at this
attribute [local irreducible] gOK WS WC WR WD Ends FS YS OpV seqK blockK loopK midK retK rdK asgK rangeEnd sat Cell

structure PB where
  x : Nat
  Mc : HL
  n : Nat

section
variable {N bn be bp : Nat} {g : FuncId} {vb : List Value} {J : List (List Nat) → HL → Nat → Prop} {B : HL}

theorem put_fs (hN : 1 ≤ N ∧ N ≤ 7) (hmN : (bn, Ch.row 3 0 0 [.int .i64 (N : Int)]) ∈ B) (hmE : (be, Ch.row 63 0 0 [.func (.func g) [].toArray vb.toArray]) ∈ B)
    (hmP : (bp, Ch.row 63 0 0 [.func (.func 82) [].toArray [.pointer (some ⟨bn, 0, some 0⟩), .pointer (some ⟨be, 0, some 0⟩), .pointer (some ⟨bp, 0, some 0⟩)].toArray]) ∈ B)
    (hB : ∀ zs M' n', J zs M' n' → ∀ p ∈ B, p ∈ M') (hJn : ∀ zs M' n' n'', J zs M' n' → n' ≤ n'' → J zs M' n'')
    (hy : ∀ z zs F Mc n' H' v, J (z :: zs) Mc n' → z ∈ permsL N (List.range N) → Sl F 1 v (ints (castI z)) → hasH (F ++ Mc) n' H' → FS C g ([] ++ [v] ++ vb) H' (fun _ H2 => ∃ M2 n2, n' ≤ n2 ∧ J zs M2 n2 ∧ hasH (F ++ M2) n2 H2)) :
    ∀ (k : Nat) {F Mc : HL} {n0 : Nat} {H : Heap} {bg : List Nat} {zs : List (List Nat)} {v : Value} (hk : bg.length + k = N) (hr : ((List.range N).filter (fun y => decide (y ∉ bg))).length = k) (hH : hasH (F ++ Mc) n0 H) (hJ : J (allR N k bg ++ zs) Mc n0)
      (hS : Sl F 1 v (ints (castI bg))) (h0 : bg = [] → v = .slice none 0 0) (hp : ∀ z ∈ allR N k bg, z ∈ permsL N (List.range N)),
      FS C 82 [v, .pointer (some ⟨bn, 0, some 0⟩), .pointer (some ⟨be, 0, some 0⟩), .pointer (some ⟨bp, 0, some 0⟩)] H (fun _ H' => ∃ M' n', n0 ≤ n' ∧ J zs M' n' ∧ hasH (F ++ M') n' H') := by
  intro k
  induction k with
  | zero =>
    intro F Mc n0 H bg zs v hk hr hH hJ hS h0 hp
    have hcl := castI_len bg
    have mN := List.mem_append_right F (hB _ _ _ hJ _ hmN)
    have mE := List.mem_append_right F (hB _ _ _ hJ _ hmE)
    have hS2 : Sl (F ++ Mc) 1 v (ints (castI bg)) := hS.mono fun q hq => List.mem_append_left _ hq
    refine FS.intro (pf := pf82) rfl rfl rfl ?_
    repeat' (first | refine zP ?_ | refine zA ?_ | (refine zM ?_; intro _ _) | refine zX ?_ | (refine zC ?_; intro _ _ _ _) | (refine zS ?_; intro _ _) | refine zO ?_ | (apply Ws <;> intro hg))
    refine WR.callV (by first | exact gN | exact gS rfl) rfl rfl rfl (hy bg zs F Mc n0 _ _ hJ (hp bg (by simp [allR])) hS hH) ?_
    rintro _ H2 ⟨M2, n2, hn2, hJ2, hH2⟩
    repeat' (first | refine zP ?_ | refine zA ?_ | (refine zM ?_; intro _ _) | refine zX ?_ | (refine zC ?_; intro _ _ _ _) | (refine zS ?_; intro _ _) | (apply Ws <;> intro hg))
    exact Ends.ret0 ⟨M2, n2, hn2, hJ2, hH2⟩
  | succ k ih =>
    intro F Mc n0 H bg zs v hk hr hH hJ hS h0 hp
    have hcl := castI_len bg
    have hil : (ints (castI bg)).length = bg.length := by simp [hcl]
    have mN := List.mem_append_right F (hB _ _ _ hJ _ hmN)
    have hS2 : Sl (F ++ Mc) 1 v (ints (castI bg)) := hS.mono fun q hq => List.mem_append_left _ hq
    refine FS.intro (pf := pf82) rfl rfl rfl ?_
    repeat' (first | refine zP ?_ | refine zA ?_ | (refine zM ?_; intro _ _) | refine zX ?_ | (refine zC ?_; intro _ _ _ _) | (refine zS ?_; intro _ _) | refine zO ?_ | (apply Ws <;> intro hg))
    clear hS2
    rw [allR, remF_zero] at hJ
    have hpf : ∀ x, x < N → x ∉ bg → ∀ z ∈ allR N k (bg ++ [x]), z ∈ permsL N (List.range N) := fun x hx hb z hz => hp z (by
      rw [allR]
      exact List.mem_flatMap.2 ⟨x, List.mem_range.2 hx, by rw [if_neg hb]; exact hz⟩)
    generalize hf : (fun x => if x ∈ bg then [] else allR N k (bg ++ [x])) = f at hJ
    refine WC.loopX [(0, v), (1, _), (2, _), (3, _), (13, .int .i64 (N : Int))] (fun s : PB => [(14, .int .i64 (s.x : Int))]) []
      (fun s H' => s.x ≤ N ∧ n0 ≤ s.n ∧ J (remF f N zs (N - s.x)) s.Mc s.n ∧ hasH (F ++ s.Mc) s.n H') (fun s => N - s.x) ⟨0, Mc, n0⟩ (by repeat' (first | exact .nil | refine .cons rfl ?_)) rfl ⟨Nat.zero_le _, Nat.le_refl _, hJ, hH⟩ ?_
    clear hH hJ mN
    rintro ⟨x, M1, n1⟩ H1 ⟨hx, hn1, hJ1, hH1⟩
    simp only at hx hn1 hJ1 hH1
    have hS1 : Sl (F ++ M1) 1 v (ints (castI bg)) := hS.mono fun q hq => List.mem_append_left _ hq
    have mP := List.mem_append_right F (hB _ _ _ hJ1 _ hmP)
    dsimp only [List.cons_append, List.nil_append]
    repeat' (first | refine zP ?_ | refine zA ?_ | (refine zM ?_; intro _ _) | refine zX ?_ | (refine zC ?_; intro _ _ _ _) | (refine zS ?_; intro _ _) | (apply Ws <;> intro hg))
    refine WC.condP rfl (fun hlt => ?_) (fun hlt => ?_)
    · have hx' : x < N := by omega
      obtain ⟨d, hd⟩ : ∃ d, N - x = d + 1 := ⟨N - x - 1, by omega⟩
      have hd2 : N - (x + 1) = d := by omega
      rw [hd, remF, show N - (d + 1) = x by omega, ← hf] at hJ1
      simp only at hJ1
      rw [hf] at hJ1
      have hmem : (x : Int) ∈ castI bg ↔ x ∈ bg := by
        rw [castI, List.mem_map]
        exact ⟨fun ⟨y, h1, h2⟩ => by rw [← Int.ofNat.inj h2]; exact h1, fun h => ⟨x, h, rfl⟩⟩
      repeat' (first | refine zP ?_ | refine zA ?_ | (refine zM ?_; intro _ _) | refine zX ?_ | (refine zC ?_; intro _ _ _ _) | (refine zS ?_; intro _ _) | (apply Ws <;> intro hg))
      refine WR.call (by first | exact gN | exact gS rfl) rfl rfl (Contains_fs hH1 hS1 (by omega) _) ?_
      rintro _ _ ⟨rfl, rfl⟩
      by_cases hin : x ∈ bg
      · rw [decide_eq_true (hmem.2 hin)]
        rw [if_pos hin, List.nil_append] at hJ1
        repeat' (first | refine zP ?_ | refine zA ?_ | (refine zM ?_; intro _ _) | refine zX ?_ | (refine zC ?_; intro _ _ _ _) | (refine zS ?_; intro _ _) | refine zO ?_ | (apply Ws <;> intro hg))
        exact Ends.loop ⟨x + 1, M1, n1⟩ (by simp only; omega) (by repeat' (first | exact .nil | refine .cons rfl ?_)) rfl ⟨hx', hn1, by simp only; rw [hd2]; exact hJ1, hH1⟩
      · rw [decide_eq_false fun h => hin (hmem.1 h)]
        rw [if_neg hin] at hJ1
        repeat' (first | refine zP ?_ | refine zA ?_ | (refine zM ?_; intro _ _) | refine zX ?_ | (refine zC ?_; intro _ _ _ _) | (refine zS ?_; intro _ _) | refine zO ?_ | (apply Ws <;> intro hg))
        refine WC.regionD ?_
        repeat' (first | refine zD ?_ | (refine zE ?_; intro _ _ _ _))
        refine WD.cutFull (kd := .i64) (kd2 := .i64) (by first | exact gN | exact gS rfl) rfl rfl hS1 (fun h => h0 (List.length_eq_zero_iff.1 (by rw [← hil, h]; rfl))) hH1 (by simp only [List.length_map]; rfl) (by simp only [List.length_map]; rfl) fun s27 hF27 => ?_
        repeat' (first | refine zD ?_ | (refine zE ?_; intro _ _ _ _))
        refine WD.bldS (by first | exact gN | exact gS rfl) rfl hH1 (vs := [(0, .int .i64 (x : Int))]) rfl (cs := [.int .i64 (x : Int)]) (by rfl) rfl (fun H3 hH3 => zSt) fun H3 hH3 => ?_
        have mP2 := List.mem_cons_of_mem (n1, Ch.row 3 0 0 [Value.int .i64 (x : Int)]) mP
        refine WD.appFull (k := 1) (new := [.int .i64 (x : Int)]) (by first | exact gN | exact gS rfl) rfl rfl (hF27 _ _ _ hH3 fun q hq => .tail _ hq) rfl rfl (by
          have := hH3.readN (b := n1) (u := 0) (lo := 0) (o := 0) (k := 1 * 1) (.head _) (.row _ _ _ _) (Nat.le_refl _) (by simp)
          simpa [srcCells] using this) (Nat.le_refl _) rfl rfl (by rw [List.all_append, ints_one]; rfl) (by omega) hH3 (fun H4 hH4 => zSt) fun H4 hH4 => ?_
        refine WD.toWR rfl ?_
        rw [hil]
        have hS4 : Sl ((n1 + 1, Ch.row 3 0 0 (ints (castI bg) ++ [.int .i64 (x : Int)])) :: (n1, Ch.row 3 0 0 [.int .i64 (x : Int)]) :: F) 1 (.slice (some ⟨n1 + 1, 0, some 0⟩) (bg.length + 1) (2 * 1)) (ints (castI (bg ++ [x]))) := by
          have he : ints (castI (bg ++ [x])) = ints (castI bg) ++ [.int .i64 (x : Int)] := by simp [castI]
          have hle : (ints (castI bg) ++ [Value.int .i64 (x : Int)]).length = bg.length + 1 := by simp [hcl]
          rw [he]
          exact .row (lo := 0) (cs := ints (castI bg) ++ [.int .i64 (x : Int)]) (.head _) (.row _ _ _ _) (Nat.zero_le _) (by rw [hle]; omega) (by rw [Nat.sub_self, List.drop_zero, List.take_length]) (by omega) (.inl (.inl rfl))
        replace hH4 : hasH (((n1 + 1, Ch.row 3 0 0 (ints (castI bg) ++ [Value.int .i64 (x : Int)])) :: (n1, Ch.row 3 0 0 [Value.int .i64 (x : Int)]) :: F) ++ M1) (n1 + 1 + 1) H4 := hH4
        refine WR.callV (by first | exact gN | exact gS rfl) rfl rfl rfl (ih (F := (n1 + 1, Ch.row 3 0 0 (ints (castI bg) ++ [Value.int .i64 (x : Int)])) :: (n1, Ch.row 3 0 0 [Value.int .i64 (x : Int)]) :: F) (Mc := M1) (zs := remF f N zs d) (by simp; omega) (filt_len hr hx' hin) hH4 (hJn _ _ _ _ hJ1 (by omega)) hS4 (fun h => by simp at h) (hpf x hx' hin)) ?_
        rintro _ H5 ⟨M5, n5, hn5, hJ5, hH5⟩
        repeat' (first | refine zP ?_ | refine zA ?_ | (refine zM ?_; intro _ _) | refine zX ?_ | (refine zC ?_; intro _ _ _ _) | (refine zS ?_; intro _ _) | (apply Ws <;> intro hg))
        exact Ends.loop ⟨x + 1, M5, n5⟩ (by simp only; omega) (by repeat' (first | exact .nil | refine .cons rfl ?_)) rfl ⟨hx', by simp only; omega, by simp only; rw [hd2]; exact hJ5, hH5.tail.tail⟩
    · have hxN : x = N := by omega
      subst hxN
      rw [Nat.sub_self, remF] at hJ1
      repeat' (first | refine zP ?_ | refine zA ?_ | (refine zM ?_; intro _ _) | refine zX ?_ | (refine zC ?_; intro _ _ _ _) | (refine zS ?_; intro _ _) | (apply Ws <;> intro hg))
      exact Ends.end0 ⟨M1, n1, hn1, hJ1, hH1⟩

/-- All orders are handed to a function. -/
theorem orders_fs {n0 : Nat} {M : HL} {H : Heap} {J : List (List Nat) → HL → Nat → Prop} (hN : 1 ≤ N ∧ N ≤ 7) (hH : hasH M n0 H) (hJ : J (permsL N (List.range N)) M n0) (hJn : ∀ zs M' n' n'', J zs M' n' → n' ≤ n'' → J zs M' n'')
    (hy : ∀ z zs F Mc n' H' v, J (z :: zs) Mc n' → z ∈ permsL N (List.range N) → Sl F 1 v (ints (castI z)) → hasH (F ++ Mc) n' H' → FS C g ([] ++ [v] ++ vb) H' (fun _ H2 => ∃ M2 n2, n' ≤ n2 ∧ J zs M2 n2 ∧ hasH (F ++ M2) n2 H2)) :
    FS C 39 [.int .i64 (N : Int), .func (.func g) [].toArray vb.toArray] H (fun _ H' => ∃ M' n', n0 ≤ n' ∧ J [] M' n' ∧ hasH M' n' H') := by
  refine FS.intro (pf := pf39) rfl rfl rfl ?_
  repeat' (first | refine zP ?_ | refine zA ?_ | (refine zM ?_; intro _ _) | refine zX ?_ | (refine zC ?_; intro _ _ _ _) | (refine zS ?_; intro _ _) | (apply Ws <;> intro hg))
  rename_i H1 hH1
  obtain ⟨B, hB⟩ : ∃ B : HL, B = [(n0 + 1 + 1, Ch.row 63 0 0 [.func (.func 82) [].toArray [.pointer (some ⟨n0, 0, some 0⟩), .pointer (some ⟨n0 + 1, 0, some 0⟩), .pointer (some ⟨n0 + 1 + 1, 0, some 0⟩)].toArray]), (n0 + 1, Ch.row 63 0 0 [.func (.func g) [].toArray vb.toArray]), (n0, Ch.row 3 0 0 [.int .i64 (N : Int)])] := ⟨_, rfl⟩
  replace hH1 : hasH ([] ++ (B ++ M)) (n0 + 1 + 1 + 1) H1 := by rw [hB]; exact hH1
  have hall : allR N N [] = permsL N (List.range N) := allR_all N
  refine WR.callV (by first | exact gN | exact gS rfl) rfl rfl rfl (put_fs (N := N) (bn := n0) (be := n0 + 1) (bp := n0 + 1 + 1) (g := g) (vb := vb) (B := B) (J := fun zs M' n' => ∃ Mc, M' = B ++ Mc ∧ J zs Mc n') hN (by rw [hB]; simp) (by rw [hB]; simp) (by rw [hB]; simp)
    (fun zs M' n' ⟨Mc, h1, _⟩ p hp => by rw [h1]; exact List.mem_append_left _ hp) (fun zs M' n' n'' ⟨Mc, h1, h2⟩ h3 => ⟨Mc, h1, hJn _ _ _ _ h2 h3⟩) ?_ N (F := []) (bg := []) (zs := []) (by simp) (by rw [List.filter_eq_self.2 (fun _ _ => by simp)]; simp) hH1 ⟨M, rfl, by rw [List.append_nil, hall]; exact hJn _ _ _ _ hJ (by omega)⟩ (.nil 0) (fun _ => rfl) (fun z hz => by rw [hall] at hz; exact hz)) ?_
  · rintro z zs F _ n' H' v ⟨Mc, rfl, hJz⟩ hz hS hH'
    rw [← List.append_assoc] at hH'
    refine (hy z zs (F ++ B) Mc n' H' v hJz hz (hS.mono fun q hq => List.mem_append_left _ hq) hH').mono fun e H2 ⟨M2, n2, h1, h2, h3⟩ => ⟨B ++ M2, n2, h1, ⟨M2, rfl, h2⟩, ?_⟩
    rw [← List.append_assoc]; exact h3
  · rintro _ H2 ⟨_, n2, hn2, ⟨M2, rfl, hJ2⟩, hH2⟩
    repeat' (first | refine zP ?_ | refine zA ?_ | (refine zM ?_; intro _ _) | refine zX ?_ | (refine zC ?_; intro _ _ _ _) | (refine zS ?_; intro _ _) | (apply Ws <;> intro hg))
    refine Ends.end0 ⟨M2, n2, by omega, hJ2, ?_⟩
    rw [hB] at hH2
    exact hH2.tail.tail.tail
end
end Go.Proofs.Ytckpocjeikkblaa.St

namespace Go.Proofs.Ytckpocjeikkblaa.St
open Go Go.Abs Go.Mth
set_option linter.unusedVariables false
set_option linter.unusedSimpArgs false
attribute [local irreducible] gOK WS WC WR WD Ends FS YS OpV seqK blockK loopK midK retK rdK asgK rangeEnd sat Cell

section
variable {M : HL} {n0 : Nat} {H : Heap} {v w : Value} {fs : List (List Int)}
end
end Go.Proofs.Ytckpocjeikkblaa.St

namespace Go.Proofs.Ytckpocjeikkblaa.St
open Go Go.Abs Go.Mth
set_option linter.unusedVariables false
set_option linter.unusedSimpArgs false
attribute [local irreducible] gOK WS WC WR WD Ends FS YS OpV seqK blockK loopK midK retK rdK asgK rangeEnd sat Cell
section
variable {M : HL} {n0 : Nat} {H : Heap} {v w : Value}
end
end Go.Proofs.Ytckpocjeikkblaa.St

namespace Go.Proofs.Ytckpocjeikkblaa.St
open Go Go.Abs Go.Mth
set_option linter.unusedVariables false
set_option linter.unusedSimpArgs false

/-- Two are next to one another at one place at most. -/
theorem adj_one {z : List Nat} {N a c : Nat} (hd : ∀ i j, i < N → j < N → z.getD i 0 = z.getD j 0 → i = j) :
    ∀ k, k + 1 ≤ N → adj z a c k ≤ 1 ∧ (adj z a c k ≠ 0 → ∃ i, i < k ∧ (z.getD i 0 = a ∨ z.getD i 0 = c))
  | 0, _ => ⟨by simp [adj], fun h => absurd rfl h⟩
  | k + 1, hk => by
    obtain ⟨h1, h2⟩ := adj_one hd k (by omega)
    rw [adj]
    by_cases hq : (z.getD k 0 = a ∧ z.getD (k + 1) 0 = c) ∨ (z.getD k 0 = c ∧ z.getD (k + 1) 0 = a)
    · rw [if_pos hq]
      by_cases h0 : adj z a c k = 0
      · exact ⟨by omega, fun _ => ⟨k, by omega, by omega⟩⟩
      · obtain ⟨i, hi, h3⟩ := h2 h0
        have e1 := hd i k (by omega) (by omega)
        have e2 := hd i (k + 1) (by omega) (by omega)
        omega
    · rw [if_neg hq, Nat.add_zero]
      exact ⟨h1, fun h => by obtain ⟨i, hi, h3⟩ := h2 h; exact ⟨i, by omega, h3⟩⟩

theorem adjS_all {N a c : Nat} : ∀ {zs : List (List Nat)}, (∀ z ∈ zs, adj z a c (N - 1) ≤ 1) → adjS N a c zs ≤ zs.length ∧ (adjS N a c zs = zs.length ↔ ∀ z ∈ zs, adj z a c (N - 1) ≠ 0)
  | [], _ => ⟨Nat.le_refl _, by simp [adjS]⟩
  | z :: zs, h => by
    obtain ⟨h1, h2⟩ := adjS_all fun y hy => h y (.tail _ hy)
    have h3 := h z (.head _)
    rw [adjS, List.length_cons]
    refine ⟨by omega, ⟨fun h4 y hy => ?_, fun h4 => ?_⟩⟩
    · rcases List.mem_cons.1 hy with rfl | hy
      · omega
      · exact h2.1 (by omega) y hy
    · have h5 := h4 z (.head _)
      have h6 := h2.2 fun y hy => h4 y (.tail _ hy)
      omega

theorem adj_perm {N a c : Nat} {z : List Nat} (hN : 1 ≤ N) (h : z ∈ permsL N (List.range N)) : adj z a c (N - 1) ≤ 1 := by
  have hp := (mem_perms N _ (by simp)).1 h
  have hl : z.length = N := by rw [hp.length_eq]; simp
  have hnd : z.Nodup := hp.nodup_iff.2 List.nodup_range
  exact (adj_one (N := N) (fun i j hi hj he => by
    rw [getD_eq (by omega), getD_eq (by omega)] at he
    exact (List.getElem_inj hnd).1 he) (N - 1) (by omega)).1
end Go.Proofs.Ytckpocjeikkblaa.St

namespace Go.Proofs.Ytckpocjeikkblaa.St
open Go Go.Abs Go.Mth
set_option linter.unusedVariables false
set_option linter.unusedSimpArgs false

/-- Two layers lie at places that are not next to one another, at places below i (k). -/
def farI (z : List Nat) (a b : Nat) (p : Nat → Nat → Prop) : Prop := ∃ i k, i < z.length ∧ k < z.length ∧ p i k ∧ z.getD i 0 = a ∧ z.getD k 0 = b ∧ i ≠ k + 1 ∧ k ≠ i + 1
abbrev boolsV (ys : List Bool) : List Value := ys.map Value.bool
theorem bools_get {ys : List Bool} {k : Nat} (h : k < ys.length) : (boolsV ys)[k]? = some (.bool (ys.getD k false)) := by
  rw [List.getElem?_map, List.getElem?_eq_getElem h, getD_eq h]; rfl
theorem castI_get {z : List Nat} {i : Nat} (h : i < z.length) : (castI z).getD i 0 = ((z.getD i 0 : Nat) : Int) := by
  rw [getD_eq (by rw [castI_len]; exact h), getD_eq h]; simp [castI]
attribute [local irreducible] gOK WS WC WR WD Ends FS YS OpV seqK blockK loopK midK retK rdK asgK rangeEnd sat Cell

section
variable {M : HL} {n0 : Nat} {H : Heap} {v w : Value} {fs : List (List Int)} {o : List Int}

theorem lfits_fs (hH : hasH M n0 H) (hR : RowsI M v fs) (hl : fs.length ≤ 1000) (hll : ∀ l ∈ fs, l.length ≤ 1000) (hO : Sl M 1 w (ints o)) (hol : o.length ≤ 1000) (n : Int) :
    FS C 41 [.agg #[.int .i64 n, v], w] H (fun e H' => ∃ b n', e = .bool b ∧ n0 ≤ n' ∧ hasH M n' H' ∧ (b = true ↔ ∀ i, i < fs.length → RN (bitF (fs.getD i []) o) o.length ≤ 1)) := by
  have h1 := hR.one_
  refine FS.intro (pf := pf41) rfl rfl rfl ?_
  repeat' (first | refine zP ?_ | refine zA ?_ | (refine zM ?_; intro _ _) | refine zX ?_ | (refine zC ?_; intro _ _ _ _) | (refine zS ?_; intro _ _))
  rename_i H1 hH1
  have hR1 : RowsI ((n0, .row 24 0 0 [.int .i64 n, v]) :: M) v fs := hR.cons
  have hO1 : Sl ((n0, .row 24 0 0 [.int .i64 n, v]) :: M) 1 w (ints o) := hO.cons
  obtain ⟨vs, hSv, hvl, hvs⟩ := hR1
  repeat' (first | refine zP ?_ | refine zA ?_ | (refine zM ?_; intro _ _) | refine zX ?_ | (refine zC ?_; intro _ _ _ _) | (refine zS ?_; intro _ _) | (apply Ws <;> intro hg))
  refine WC.loopX [(1, w), (8, v), (9, _)] (fun k : Nat => [(10, .int .i64 (k : Int))]) [] (fun k H' => H' = H1 ∧ k ≤ fs.length ∧ ∀ i, i < k → RN (bitF (fs.getD i []) o) o.length ≤ 1) (fun k => fs.length - k) 0 (by repeat' (first | exact .nil | refine .cons rfl ?_)) rfl ⟨rfl, Nat.zero_le _, fun i hi => absurd hi (Nat.not_lt_zero _)⟩ ?_
  rintro k HA ⟨rfl, hk, hb⟩
  dsimp only [List.cons_append, List.nil_append]
  repeat' (first | refine zP ?_ | refine zA ?_ | (refine zM ?_; intro _ _) | refine zX ?_ | (refine zC ?_; intro _ _ _ _) | (refine zS ?_; intro _ _) | (apply Ws <;> intro hg))
  refine WC.condP rfl (fun hlt => ?_) (fun hlt => ?_)
  · have hk' : k < fs.length := by omega
    have hSk := hvs k hk'
    have hlk := hll _ (getD_mem (a := []) hk')
    repeat' (first | refine zP ?_ | refine zA ?_ | (refine zM ?_; intro _ _) | refine zX ?_ | (refine zC ?_; intro _ _ _ _) | (refine zS ?_; intro _ _) | (apply Ws <;> intro hg))
    refine WR.call (by first | exact gN | exact gS rfl) rfl rfl (lawgaps_fs hH1 hSk hlk hO1 hol) ?_
    rintro _ _ ⟨rfl, rfl⟩
    have hrl := RN_le (bitF (fs.getD k []) o) o.length
    repeat' (first | refine zP ?_ | refine zA ?_ | (refine zM ?_; intro _ _) | refine zX ?_ | (refine zC ?_; intro _ _ _ _) | (refine zS ?_; intro _ _) | (apply Ws <;> intro hg))
    refine WC.condP rfl (fun hgt => ?_) (fun hgt => ?_)
    · repeat' (first | refine zP ?_ | refine zA ?_ | (refine zM ?_; intro _ _) | refine zX ?_ | (refine zC ?_; intro _ _ _ _) | (refine zS ?_; intro _ _) | (apply Ws <;> intro hg))
      exact Ends.ret1 rfl ⟨false, n0 + 1, rfl, by omega, hH1.tail, by simp only [Bool.false_eq_true, false_iff]; exact fun h => by have := h k hk'; omega⟩
    · repeat' (first | refine zP ?_ | refine zA ?_ | (refine zM ?_; intro _ _) | refine zX ?_ | (refine zC ?_; intro _ _ _ _) | (refine zS ?_; intro _ _) | (apply Ws <;> intro hg))
      exact Ends.loop (k + 1) (by omega) (by repeat' (first | exact .nil | refine .cons rfl ?_)) rfl ⟨rfl, by omega, fun i hi => by
        rcases Nat.lt_or_ge i k with h | h
        · exact hb i h
        · have : i = k := by omega
          subst this; omega⟩
  · repeat' (first | refine zP ?_ | refine zA ?_ | (refine zM ?_; intro _ _) | refine zX ?_ | (refine zC ?_; intro _ _ _ _) | (refine zS ?_; intro _ _) | (apply Ws <;> intro hg))
    exact Ends.ret1 rfl ⟨true, n0 + 1, rfl, by omega, hH1.tail, by simp only [true_iff]; exact fun i hi => hb i (by omega)⟩
end
end Go.Proofs.Ytckpocjeikkblaa.St

namespace Go.Proofs.Ytckpocjeikkblaa.St
open Go Go.Abs Go.Mth
set_option linter.unusedVariables false
set_option linter.unusedSimpArgs false

theorem far_step {z : List Nat} {a b k j : Nat} (hj : j < z.length) (hk : k < z.length) : farI z a b (fun i l => i < k ∨ (i = k ∧ l < j + 1)) ↔ farI z a b (fun i l => i < k ∨ (i = k ∧ l < j)) ∨ (z.getD k 0 = a ∧ z.getD j 0 = b ∧ k ≠ j + 1 ∧ j ≠ k + 1) := by
  constructor
  · rintro ⟨i, l, h1, h2, h3, h4, h5, h6, h7⟩
    by_cases h : i = k ∧ l = j
    · obtain ⟨rfl, rfl⟩ := h; exact .inr ⟨h4, h5, h6, h7⟩
    · exact .inl ⟨i, l, h1, h2, by omega, h4, h5, h6, h7⟩
  · rintro (⟨i, l, h1, h2, h3, h4⟩ | ⟨h1, h2, h3, h4⟩)
    · exact ⟨i, l, h1, h2, by omega, h4⟩
    · exact ⟨k, j, hk, hj, by omega, h1, h2, h3, h4⟩
theorem far_congr {z : List Nat} {a b : Nat} {p q : Nat → Nat → Prop} (h : ∀ i k, i < z.length → k < z.length → (p i k ↔ q i k)) : farI z a b p ↔ farI z a b q := by
  constructor
  · rintro ⟨i, l, h1, h2, h3, h4⟩; exact ⟨i, l, h1, h2, (h i l h1 h2).1 h3, h4⟩
  · rintro ⟨i, l, h1, h2, h3, h4⟩; exact ⟨i, l, h1, h2, (h i l h1 h2).2 h3, h4⟩
theorem far_none {z : List Nat} {a b : Nat} {p : Nat → Nat → Prop} (h : ∀ i k, ¬ p i k) : ¬ farI z a b p := by
  rintro ⟨i, l, h1, h2, h3, h4⟩; exact h i l h3
attribute [local irreducible] gOK WS WC WR WD Ends FS YS OpV seqK blockK loopK midK retK rdK asgK rangeEnd sat Cell

structure FV where
  k : Nat
  ys : List Bool

section
variable {U : HL} {n0 : Nat} {H : Heap} {v w : Value} {fs : List (List Int)}

set_option maxHeartbeats 1000000 in
theorem each_fs {bF bC bX N cnt : Nat} {ys : List Bool} {z : List Nat} (hN : 1 ≤ N ∧ N ≤ 5) (hz : z ∈ permsL N (List.range N)) (hf0 : findsE (N : Int) fs = 0)
    (hH : hasH ((bC, Ch.row 3 0 0 [.int .i64 (cnt : Int)]) :: (bX, Ch.row 69 0 0 (boolsV ys)) :: U) n0 H) (hmF : (bF, Ch.row 24 0 0 [.int .i64 (N : Int), v]) ∈ U) (hR : RowsI U v fs) (hS : Sl U 1 w (ints (castI z))) (hys : ys.length = 25) (hcnt : cnt ≤ 2097152) :
    FS C 44 [w, .pointer (some ⟨bF, 0, some 0⟩), .pointer (some ⟨bC, 0, some 0⟩), .pointer (some ⟨bX, 0, some 0⟩)] H (fun _ H' => ∃ n' ys', n0 ≤ n' ∧ ys'.length = 25 ∧
      hasH ((bC, Ch.row 3 0 0 [.int .i64 ((cnt + (if fitB fs z = true then 1 else 0) : Nat) : Int)]) :: (bX, Ch.row 69 0 0 (boolsV ys')) :: U) n' H' ∧
      ∀ a b, a < 5 → b < 5 → (ys'.getD (a * 5 + b) false = true ↔ ys.getD (a * 5 + b) false = true ∨ (fitB fs z = true ∧ farI z a b fun _ _ => True))) := by
  obtain ⟨hn1, hn7, hl10, hfo⟩ := finds_ok hf0
  have hp := (mem_perms N _ (by simp)).1 hz
  have hzl : z.length = N := by rw [hp.length_eq]; simp
  have hzb : ∀ i, i < N → z.getD i 0 < 5 := fun i hi => by
    have := List.mem_range.1 (hp.mem_iff.1 (getD_mem (a := 0) (l := z) (k := i) (by omega)))
    omega
  have hcl : (castI z).length = N := by rw [castI_len, hzl]
  have hB := both_perm hf0 rfl hz
  refine FS.intro (pf := pf44) rfl rfl rfl ?_
  have hmF2 : (bF, Ch.row 24 0 0 [.int .i64 (N : Int), v]) ∈ (bC, Ch.row 3 0 0 [.int .i64 (cnt : Int)]) :: (bX, Ch.row 69 0 0 (boolsV ys)) :: U := .tail _ (.tail _ hmF)
  have hone := hR.one_
  repeat' (first | refine zP ?_ | refine zA ?_ | (refine zM ?_; intro _ _) | refine zX ?_ | (refine zC ?_; intro _ _ _ _) | (refine zS ?_; intro _ _) | (apply Ws <;> intro hg))
  refine WR.call (by first | exact gN | exact gS rfl) rfl rfl (lfits_fs hH hR.cons.cons (by omega) (fun l hl => form_len hn7 (hfo l hl)) hS.cons.cons (by omega) (N : Int)) ?_
  rintro _ H2 ⟨b, n2, rfl, hn2, hH2, hb⟩
  have hbf : b = fitB fs z := by
    rw [Bool.eq_iff_iff, hb, fit_same hf0 rfl hz, fitR_iff]
    refine ⟨fun h i hi => ?_, fun h i hi => by rw [h i hi]; exact Nat.le_refl _⟩
    have := h i hi
    have := runs_pos hB hi
    omega
  subst hbf
  clear hb hH hmF2
  cases hfit : fitB fs z with
  | false =>
    repeat' (first | refine zP ?_ | refine zA ?_ | (refine zM ?_; intro _ _) | refine zX ?_ | (refine zC ?_; intro _ _ _ _) | (refine zS ?_; intro _ _) | (apply Ws <;> intro hg))
    exact Ends.ret0 ⟨n2, ys, hn2, hys, by simpa using hH2, fun a b ha hb => by simp⟩
  | true =>
    repeat' (first | refine zP ?_ | refine zA ?_ | (refine zM ?_; intro _ _) | refine zX ?_ | (refine zC ?_; intro _ _ _ _) | (refine zS ?_; intro _ _) | (apply Ws <;> intro hg))
    rename_i H3 hH3
    clear hH2
    have hS3 := hS
    refine WC.loopX [(0, w), (3, .pointer (some ⟨bX, 0, some 0⟩)), (15, w), (16, .int .i64 (N : Int))] (fun s : FV => [(17, .int .i64 (s.k : Int))]) []
      (fun s H' => s.k ≤ N ∧ s.ys.length = 25 ∧ hasH ((bC, Ch.row 3 0 0 [.int .i64 ((cnt : Int) + 1)]) :: (bX, Ch.row 69 0 0 (boolsV s.ys)) :: U) n2 H' ∧
        ∀ a b, a < 5 → b < 5 → (s.ys.getD (a * 5 + b) false = true ↔ ys.getD (a * 5 + b) false = true ∨ farI z a b fun i _ => i < s.k)) (fun s => N - s.k) ⟨0, ys⟩ ?_ rfl
      ⟨Nat.zero_le _, hys, hH3, fun a b ha hb => by simp only; rw [or_iff_left (far_none fun i k => by omega)]⟩ ?_
    · repeat' (first | exact .nil | refine .cons (by first | rfl | (simp only [List.length_map, hcl]; rfl)) ?_)
    clear hH3
    rintro ⟨k, y1⟩ H4 ⟨hk, hy1, hH4, hf1⟩
    simp only at hk hy1 hH4 hf1
    have hS4 : Sl ((bC, Ch.row 3 0 0 [.int .i64 ((cnt : Int) + 1)]) :: (bX, Ch.row 69 0 0 (boolsV y1)) :: U) 1 w (ints (castI z)) := hS.cons.cons
    dsimp only [List.cons_append, List.nil_append]
    repeat' (first | refine zP ?_ | refine zA ?_ | (refine zM ?_; intro _ _) | refine zX ?_ | (refine zC ?_; intro _ _ _ _) | (refine zS ?_; intro _ _) | (apply Ws <;> intro hg))
    refine WC.condP rfl (fun hlt => ?_) (fun hlt => ?_)
    · have hk' : k < N := by omega
      have hkc : k < (castI z).length := by omega
      repeat' (first | refine zP ?_ | refine zA ?_ | (refine zM ?_; intro _ _) | refine zX ?_ | (refine zC ?_; intro _ _ _ _) | (refine zS ?_; intro _ _) | (apply Ws <;> intro hg))
      rw [castI_get (show k < z.length by omega)]
      have hxk := hzb k hk'
      obtain ⟨x, hx⟩ : ∃ x, z.getD k 0 = x := ⟨_, rfl⟩
      rw [hx] at hxk ⊢
      refine WC.loopX [(0, w), (3, .pointer (some ⟨bX, 0, some 0⟩)), (5, .int .i64 (k : Int)), (6, .int .i64 (x : Int)), (15, w), (16, .int .i64 (N : Int)), (17, .int .i64 (k : Int)), (22, w), (23, .int .i64 (N : Int))] (fun s : FV => [(24, .int .i64 (s.k : Int))]) []
        (fun s H' => s.k ≤ N ∧ s.ys.length = 25 ∧ hasH ((bC, Ch.row 3 0 0 [.int .i64 ((cnt : Int) + 1)]) :: (bX, Ch.row 69 0 0 (boolsV s.ys)) :: U) n2 H' ∧
          ∀ a b, a < 5 → b < 5 → (s.ys.getD (a * 5 + b) false = true ↔ ys.getD (a * 5 + b) false = true ∨ farI z a b fun i l => i < k ∨ (i = k ∧ l < s.k))) (fun s => N - s.k) ⟨0, y1⟩ ?_ rfl
        ⟨Nat.zero_le _, hy1, hH4, fun a b ha hb => by simp only; rw [hf1 a b ha hb, far_congr (p := fun i l => i < k ∨ (i = k ∧ l < 0)) (q := fun i _ => i < k) (fun i l h1 h2 => by omega)]⟩ ?_
      · repeat' (first | exact .nil | refine .cons (by first | rfl | (simp only [List.length_map, hcl]; rfl)) ?_)
      clear hH4 hS4 hf1 hy1
      rintro ⟨j, y2⟩ H5 ⟨hj, hy2, hH5, hf2⟩
      simp only at hj hy2 hH5 hf2
      have hS5 : Sl ((bC, Ch.row 3 0 0 [.int .i64 ((cnt : Int) + 1)]) :: (bX, Ch.row 69 0 0 (boolsV y2)) :: U) 1 w (ints (castI z)) := hS.cons.cons
      dsimp only [List.cons_append, List.nil_append]
      repeat' (first | refine zP ?_ | refine zA ?_ | (refine zM ?_; intro _ _) | refine zX ?_ | (refine zC ?_; intro _ _ _ _) | (refine zS ?_; intro _ _) | (apply Ws <;> intro hg))
      refine WC.condP rfl (fun hlt2 => ?_) (fun hlt2 => ?_)
      · have hj' : j < N := by omega
        have hjc : j < (castI z).length := by omega
        have hyj := hzb j hj'
        repeat' (first | refine zP ?_ | refine zA ?_ | (refine zM ?_; intro _ _) | refine zX ?_ | (refine zC ?_; intro _ _ _ _) | (refine zS ?_; intro _ _) | (apply Ws <;> intro hg))
        rw [castI_get (show j < z.length by omega)]
        obtain ⟨y, hy⟩ : ∃ y, z.getD j 0 = y := ⟨_, rfl⟩
        rw [hy] at hyj ⊢
        have hstep := fun a b => far_step (z := z) (a := a) (b := b) (k := k) (j := j) (by omega) (by omega)
        rw [hx, hy] at hstep
        refine WC.condP rfl (fun hd => ?_) (fun hd => ?_)
        · have hk1 : k ≠ j + 1 ∧ j ≠ k + 1 := by omega
          have hin : x * 5 + y < y2.length := by omega
          repeat' (first | refine zP ?_ | refine zA ?_ | (refine zM ?_; intro _ _) | refine zX ?_ | (refine zC ?_; intro _ _ _ _) | (refine zS ?_; intro _ _) | (apply Ws <;> intro hg))
          rename_i H6 hH6
          refine Ends.loop ⟨j + 1, y2.set (x * 5 + y) true⟩ (by simp only; omega) (by repeat' (first | exact .nil | refine .cons rfl ?_)) rfl ⟨hj', by simp [hy2], hH6, fun a b ha hb => ?_⟩
          simp only
          rw [hstep, getD_set' hin]
          by_cases h : a * 5 + b = x * 5 + y
          · have : x = a ∧ y = b := by omega
            simp [h, this, hk1]
          · have : ¬ (x = a ∧ y = b) := by omega
            rw [if_neg h, hf2 a b ha hb, or_iff_left (a := farI z a b fun i l => i < k ∨ (i = k ∧ l < j)) (by omega)]
        · repeat' (first | refine zP ?_ | refine zA ?_ | (refine zM ?_; intro _ _) | refine zX ?_ | (refine zC ?_; intro _ _ _ _) | (refine zS ?_; intro _ _) | (apply Ws <;> intro hg))
          refine Ends.loop ⟨j + 1, y2⟩ (by simp only; omega) (by repeat' (first | exact .nil | refine .cons rfl ?_)) rfl ⟨hj', hy2, hH5, fun a b ha hb => ?_⟩
          simp only
          rw [hf2 a b ha hb, hstep, or_iff_left (a := farI z a b fun i l => i < k ∨ (i = k ∧ l < j)) (by omega)]
      · have hjN : N = j := by omega
        subst hjN
        repeat' (first | refine zP ?_ | refine zA ?_ | (refine zM ?_; intro _ _) | refine zX ?_ | (refine zC ?_; intro _ _ _ _) | (refine zS ?_; intro _ _) | (apply Ws <;> intro hg))
        refine Ends.loop ⟨k + 1, y2⟩ (by simp only; omega) (by repeat' (first | exact .nil | refine .cons rfl ?_)) rfl ⟨hk', hy2, hH5, fun a b ha hb => ?_⟩
        simp only
        rw [hf2 a b ha hb, far_congr (p := fun i l => i < k ∨ (i = k ∧ l < N)) (q := fun i _ => i < k + 1) (fun i l h1 h2 => by omega)]
    · have hkN : N = k := by omega
      subst hkN
      repeat' (first | refine zP ?_ | refine zA ?_ | (refine zM ?_; intro _ _) | refine zX ?_ | (refine zC ?_; intro _ _ _ _) | (refine zS ?_; intro _ _) | (apply Ws <;> intro hg))
      refine Ends.end0 ⟨n2, y1, hn2, hy1, by simpa using hH4, fun a b ha hb => ?_⟩
      rw [hf1 a b ha hb, far_congr (q := fun _ _ => True) (fun i l h1 h2 => by simp; omega)]
      simp
end
end Go.Proofs.Ytckpocjeikkblaa.St

namespace Go.Proofs.Ytckpocjeikkblaa.St
open Go Go.Abs Go.Mth
set_option linter.unusedVariables false
set_option linter.unusedSimpArgs false

theorem adj_pos {z : List Nat} {a c i : Nat} (h : (z.getD i 0 = a ∧ z.getD (i + 1) 0 = c) ∨ (z.getD i 0 = c ∧ z.getD (i + 1) 0 = a)) : ∀ k, i < k → adj z a c k ≠ 0
  | 0, hk => absurd hk (Nat.not_lt_zero _)
  | k + 1, hk => by
    rw [adj]
    rcases Nat.lt_or_ge i k with h1 | h1
    · have := adj_pos h k h1; omega
    · have : i = k := by omega
      subst this
      rw [if_pos h]; omega
theorem adj_ex {z : List Nat} {a c : Nat} : ∀ k, adj z a c k ≠ 0 → ∃ i, i < k ∧ ((z.getD i 0 = a ∧ z.getD (i + 1) 0 = c) ∨ (z.getD i 0 = c ∧ z.getD (i + 1) 0 = a))
  | 0, h => absurd rfl h
  | k + 1, h => by
    rw [adj] at h
    by_cases hq : (z.getD k 0 = a ∧ z.getD (k + 1) 0 = c) ∨ (z.getD k 0 = c ∧ z.getD (k + 1) 0 = a)
    · exact ⟨k, by omega, hq⟩
    · rw [if_neg hq] at h
      obtain ⟨i, hi, h2⟩ := adj_ex k (by omega)
      exact ⟨i, by omega, h2⟩
theorem perm_inj {z : List Nat} {N : Nat} (h : z ∈ permsL N (List.range N)) : z.length = N ∧ (∀ i j, i < N → j < N → z.getD i 0 = z.getD j 0 → i = j) ∧ ∀ x, x < N → ∃ i, i < N ∧ z.getD i 0 = x := by
  have hp := (mem_perms N _ (by simp)).1 h
  have hl : z.length = N := by rw [hp.length_eq]; simp
  have hnd : z.Nodup := hp.nodup_iff.2 List.nodup_range
  refine ⟨hl, fun i j hi hj he => ?_, fun x hx => ?_⟩
  · rw [getD_eq (by omega), getD_eq (by omega)] at he
    exact (List.getElem_inj hnd).1 he
  · obtain ⟨i, hi, h2⟩ := List.mem_iff_getElem.1 (hp.mem_iff.2 (List.mem_range.2 hx))
    exact ⟨i, by omega, by rw [getD_eq hi]; exact h2⟩
/-- Those that are not next to one another in an order are far. -/
theorem far_adj {z : List Nat} {N a b : Nat} (h : z ∈ permsL N (List.range N)) (hab : a < b) (hb : b < N) : farI z a b (fun _ _ => True) ↔ adj z a b (N - 1) = 0 := by
  obtain ⟨hl, hi, hex⟩ := perm_inj h
  constructor
  · rintro ⟨i, k, h1, h2, _, h4, h5, h6, h7⟩
    refine Decidable.not_not.1 fun hne => ?_
    obtain ⟨j, hj, h8⟩ := adj_ex _ hne
    rcases h8 with ⟨h8, h9⟩ | ⟨h8, h9⟩
    · have e1 := hi i j (by omega) (by omega) (by rw [h4, h8])
      have e2 := hi k (j + 1) (by omega) (by omega) (by rw [h5, h9])
      omega
    · have e1 := hi k j (by omega) (by omega) (by rw [h5, h8])
      have e2 := hi i (j + 1) (by omega) (by omega) (by rw [h4, h9])
      omega
  · intro h0
    obtain ⟨i, hi1, hi2⟩ := hex a (by omega)
    obtain ⟨k, hk1, hk2⟩ := hex b hb
    refine ⟨i, k, by omega, by omega, trivial, hi2, hk2, fun he => ?_, fun he => ?_⟩
    · subst he
      exact adj_pos (i := k) (.inr ⟨hk2, hi2⟩) (N - 1) (by omega) h0
    · subst he
      exact adj_pos (i := i) (.inl ⟨hi2, hk2⟩) (N - 1) (by omega) h0
theorem two_form {N a b : Nat} (hab : a < b) (hb : b < N) : formE (N : Int) [(a : Int), (b : Int)] = 0 :=
  form_intro (by simp) (fun y hy => by simp at hy; omega) (by simp; omega)
/-- One form more, of two layers. -/
theorem two_ok {N a b : Nat} {fs : List (List Int)} (hab : a < b) (hb : b < N) (hf : findsE (N : Int) fs = 0) (h8 : fs.length ≤ 8) : findsE (N : Int) (fs ++ [[(a : Int), (b : Int)]]) = 0 := by
  obtain ⟨h1, h2, h3, h4⟩ := finds_ok hf
  refine finds_intro ⟨h1, h2⟩ (by simp; omega) fun l hl => ?_
  rcases List.mem_append.1 hl with h | h
  · exact h4 l h
  obtain rfl := List.mem_singleton.1 h
  exact two_form hab hb
theorem bit_two {z : List Nat} {N a b i : Nat} (hl : z.length = N) (hi : i < N) : bitF [(a : Int), (b : Int)] (castI z) i = true ↔ z.getD i 0 = a ∨ z.getD i 0 = b := by
  unfold bitF
  rw [decide_eq_true_eq, castI_get (by omega)]
  simp only [List.mem_cons, List.not_mem_nil, or_false]
  omega
theorem adj_sum {z : List Nat} {N a b : Nat} (h : z ∈ permsL N (List.range N)) : ∀ k, k + 1 ≤ N →
    sumN (fun i => if bitF [(a : Int), (b : Int)] (castI z) i = true ∧ bitF [(a : Int), (b : Int)] (castI z) (i + 1) = true then 1 else 0) k = adj z a b k
  | 0, _ => rfl
  | k + 1, hk => by
    obtain ⟨hl, hi, hex⟩ := perm_inj h
    have b1 := bit_two (a := a) (b := b) (i := k) hl (by omega)
    have b2 := bit_two (a := a) (b := b) (i := k + 1) hl (by omega)
    rw [sumN, adj, adj_sum h k (by omega)]
    simp only [b1, b2]
    congr 1
    have hne : z.getD k 0 ≠ z.getD (k + 1) 0 := fun he => by have := hi k (k + 1) (by omega) (by omega) he; omega
    by_cases hq : (z.getD k 0 = a ∧ z.getD (k + 1) 0 = b) ∨ (z.getD k 0 = b ∧ z.getD (k + 1) 0 = a)
    · rw [if_pos hq, if_pos (by omega)]
    · rw [if_neg hq, if_neg (by omega)]
/-- An order that fits, fits with the form of two layers just if they are next to one another. -/
theorem two_fit {z : List Nat} {N a b : Nat} {fs : List (List Int)} (hab : a < b) (hb : b < N) (hf : findsE (N : Int) fs = 0) (hf2 : findsE (N : Int) (fs ++ [[(a : Int), (b : Int)]]) = 0) (hz : z ∈ permsL N (List.range N)) :
    fitB (fs ++ [[(a : Int), (b : Int)]]) z = true ↔ fitB fs z = true ∧ adj z a b (N - 1) ≠ 0 := by
  rw [fitB_iff hf2 hz, fitB_iff hf hz]
  have hB := both_perm hf2 rfl hz
  have e1 : (fs ++ [[(a : Int), (b : Int)]]).getD fs.length [] = [(a : Int), (b : Int)] := by rw [getD_right (Nat.le_refl _)]; simp
  have hc := cnt_form hB (i := fs.length) (by simp)
  rw [e1] at hc
  have hcl : (castI z).length = N := by rw [castI_len, (perm_inj hz).1]
  have hs := adj_sum (a := a) (b := b) hz (N - 1) (by omega)
  have hr := RN_pairs (p := bitF [(a : Int), (b : Int)] (castI z)) (N - 1)
  have hle := adj_perm (a := a) (c := b) (by omega) hz
  rw [show N - 1 + 1 = N by omega, hs] at hr
  rw [hcl] at hc ⊢
  have h2 : [(a : Int), (b : Int)].length = 2 := rfl
  constructor
  · intro h
    refine ⟨fun l hl => h l (List.mem_append_left _ hl), ?_⟩
    have := h [(a : Int), (b : Int)] (List.mem_append_right _ (by simp))
    omega
  · rintro ⟨h3, h4⟩ l hl
    rcases List.mem_append.1 hl with h | h
    · exact h3 l h
    · obtain rfl := List.mem_singleton.1 h
      omega
theorem filter_cnt {α : Type} (p q : α → Bool) : ∀ l : List α, (∀ x ∈ l, q x = true → p x = true) → (l.filter q).length ≤ (l.filter p).length ∧ ((l.filter q).length = (l.filter p).length ↔ ∀ x ∈ l, p x = true → q x = true)
  | [], _ => by simp
  | x :: l, h => by
    obtain ⟨h1, h2⟩ := filter_cnt p q l fun y hy => h y (.tail _ hy)
    have h3 := h x (.head _)
    simp only [List.filter_cons, List.mem_cons, forall_eq_or_imp]
    cases hp : p x <;> cases hq : q x
    · simp [hp, hq] at *; exact ⟨h1, h2⟩
    · rw [hp, hq] at h3; exact absurd (h3 rfl) (by simp)
    · simp; exact ⟨by omega, by omega⟩
    · simp [hp, hq] at *; exact ⟨h1, h2⟩
/-- With the form of two layers there are no more orders, and as many just if the two are always next to one another. -/
theorem two_num {N a b : Nat} {fs : List (List Int)} (hab : a < b) (hb : b < N) (hf : findsE (N : Int) fs = 0) (h8 : fs.length ≤ 8) :
    (fitL N (fs ++ [[(a : Int), (b : Int)]])).length ≤ (fitL N fs).length ∧ ((fitL N (fs ++ [[(a : Int), (b : Int)]])).length = (fitL N fs).length ↔ adjS N a b (fitL N fs) = (fitL N fs).length) := by
  have hf2 := two_ok hab hb hf h8
  obtain ⟨h1, h2⟩ := filter_cnt (fitB fs) (fitB (fs ++ [[(a : Int), (b : Int)]])) (permsL N (List.range N)) fun z hz h => ((two_fit hab hb hf hf2 hz).1 h).1
  refine ⟨h1, ?_⟩
  rw [(adjS_all (N := N) (a := a) (c := b) (zs := fitL N fs) fun z hz => adj_perm (by omega) (List.mem_filter.1 hz).1).2]
  refine h2.trans ⟨fun h z hz => ?_, fun h z hz h3 => ?_⟩
  · obtain ⟨hz1, hz2⟩ := List.mem_filter.1 hz
    exact ((two_fit hab hb hf hf2 hz1).1 (h z hz1 hz2)).2
  · exact (two_fit hab hb hf hf2 hz).2 ⟨h3, h z (List.mem_filter.2 ⟨hz, h3⟩)⟩
/-- Some order that fits has the two far from one another. -/
theorem far_some {N a b : Nat} {fs : List (List Int)} (hab : a < b) (hb : b < N) : (∃ z ∈ permsL N (List.range N), fitB fs z = true ∧ farI z a b fun _ _ => True) ↔ ¬ adjS N a b (fitL N fs) = (fitL N fs).length := by
  rw [(adjS_all (N := N) (a := a) (c := b) (zs := fitL N fs) fun z hz => adj_perm (by omega) (List.mem_filter.1 hz).1).2]
  constructor
  · rintro ⟨z, h1, h2, h3⟩ h
    exact h z (List.mem_filter.2 ⟨h1, h2⟩) ((far_adj h1 hab hb).1 h3)
  · intro h
    refine Classical.byContradiction fun hn => h fun z hz h0 => ?_
    obtain ⟨hz1, hz2⟩ := List.mem_filter.1 hz
    exact hn ⟨z, hz1, hz2, (far_adj hz1 hab hb).2 h0⟩
end Go.Proofs.Ytckpocjeikkblaa.St

namespace Go.Proofs.Ytckpocjeikkblaa.St
open Go Go.Abs Go.Mth
set_option linter.unusedVariables false
set_option linter.unusedSimpArgs false
attribute [local irreducible] gOK WS WC WR WD Ends FS YS OpV seqK blockK loopK midK retK rdK asgK rangeEnd sat Cell

section
variable {M : HL} {n0 : Nat} {H : Heap} {v w : Value} {fs : List (List Int)}
end
end Go.Proofs.Ytckpocjeikkblaa.St

namespace Go.Proofs.Ytckpocjeikkblaa.St
open Go Go.Abs Go.Mth
set_option linter.unusedVariables false
set_option linter.unusedSimpArgs false

theorem prows_lenT (p : Nat → Nat → Bool) {N : Nat} (h : N ≤ 7) : (prows p N N).length ≤ 1000 := by
  have h1 := prows_len p N N
  have h2 : N * N ≤ 7 * 7 := Nat.mul_le_mul h h
  omega
theorem beside_len {n : Int} {fs : List (List Int)} : (besideL n fs).length ≤ 1000 := by
  unfold besideL
  split
  · rename_i h
    have := (finds_ok h).2.1
    split
    · simp
    · exact prows_lenT _ (by omega)
  · simp
attribute [local irreducible] gOK WS WC WR WD Ends FS YS OpV seqK blockK loopK midK retK rdK asgK rangeEnd sat Cell
end Go.Proofs.Ytckpocjeikkblaa.St

namespace Go.Proofs.Ytckpocjeikkblaa.St
open Go Go.Abs Go.Mth
set_option linter.unusedVariables false
set_option linter.unusedSimpArgs false
attribute [local irreducible] gOK WS WC WR WD Ends FS YS OpV seqK blockK loopK midK retK rdK asgK rangeEnd sat Cell

structure YV where
  x : Nat
  v : Value
  Mx : HL
  n : Nat

set_option maxHeartbeats 4000000 in
theorem StyleBeside_fs {M : HL} {n0 : Nat} {H : Heap} (hH : hasH M n0 H) {a b : Int} {hs : List Int} (ha : 0 ≤ a ∧ a ≤ 255) (hb : 0 ≤ b ∧ b ≤ 255) (hl : hs.length = 10) (hu : ∀ x ∈ hs, 0 ≤ x ∧ x ≤ 255) :
    FS C 8 [.agg (trays a b hs).toArray] H (fun e H' => e = .bool true) := by
  have hone := trays_one a b hs
  refine FS.intro (pf := pf8) rfl rfl rfl ?_
  repeat' (first | refine zP ?_ | refine zA ?_ | (refine zM ?_; intro _ _) | refine zX ?_ | (refine zC ?_; intro _ _ _ _) | (refine zS ?_; intro _ _))
  rename_i H1 hH1
  refine WR.op (by first | exact gN | exact gS rfl) rfl (OpV.loadAll (k := 12) rfl hH1 (.head _) (.row _ _ _ _) (by simp [trays, hl])) ?_
  generalize (n0, Ch.row 60 0 0 (trays a b hs)) :: M = T at hH1
  refine WR.call (by first | exact gN | exact gS rfl) rfl rfl (made_fs hH1 ha hb hl hu (ly := 5) (fm := 8) (by omega) (by omega)) ?_
  rintro _ H2 ⟨v, M2, n2, rfl, hn2, hR, hH2, hv0⟩
  obtain ⟨N, hN⟩ : ∃ N, 1 + a.toNat % 5 = N := ⟨_, rfl⟩
  obtain ⟨m, hm⟩ : ∃ m, b.toNat % (8 + 1) = m := ⟨_, rfl⟩
  rw [hN, hm] at hR hv0
  rw [hN]
  have hN5 : 1 ≤ N ∧ N ≤ 5 := by omega
  have hm8 : m ≤ 8 := by omega
  have hf0 := trays_ok (n := N) (m := m) (hs := hs) (by omega) (by omega)
  have hl8 : (traysF N m hs).length ≤ 8 := by simp [traysF]; omega
  generalize traysF N m hs = fs at hR hf0 hv0 hl8
  have h1 := hR.one_
  clear hH1 hN hm
  generalize M2 ++ T = T at hH2 hR
  repeat' (first | refine zP ?_ | refine zA ?_ | (refine zM ?_; intro _ _) | refine zX ?_ | (refine zC ?_; intro _ _ _ _) | (refine zS ?_; intro _ _) | (apply Ws <;> intro hg))
  rename_i H3 hH3
  refine WR.storeAll (by first | exact gN | exact gS rfl) hH3 rfl rfl (ls := [.int .i64 (N : Int), v]) rfl rfl .here (by (repeat' (first | exact all_nil | refine all_cons (by first | rfl | assumption) ?_))) rfl fun H4 hH4 => ?_
  clear hH3 hH2
  have hmF : (n2, Ch.row 24 0 0 [.int .i64 (N : Int), v]) ∈ (n2, Ch.row 24 0 0 [.int .i64 (N : Int), v]) :: T := .head _
  replace hR := hR.cons (p := (n2, .row 24 0 0 [.int .i64 (N : Int), v]))
  generalize (n2, Ch.row 24 0 0 [.int .i64 (N : Int), v]) :: T = T at hH4 hR hmF
  obtain ⟨hn1, hn7, hl10, hfo⟩ := finds_ok hf0
  have hl1 : fs.length ≤ 1000 := by omega
  have hll1 : ∀ l ∈ fs, l.length ≤ 1000 := fun l hl => form_len hn7 (hfo l hl)
  repeat' (first | refine zP ?_ | refine zA ?_ | (refine zM ?_; intro _ _) | refine zX ?_ | (refine zC ?_; intro _ _ _ _) | (refine zS ?_; intro _ _) | (apply Ws <;> intro hg))
  rename_i H5 hH5
  obtain ⟨n5, hn5⟩ : ∃ n5, n2 + 1 = n5 := ⟨_, rfl⟩
  rw [hn5] at hH5 ⊢
  replace hH5 : hasH ((n5 + 1, Ch.row 3 0 0 [.int .i64 ((0 : Nat) : Int)]) :: (n5, Ch.row 69 0 0 (boolsV (List.replicate 25 false))) :: T) (n5 + 1 + 1) H5 := hH5
  have hrf : ∀ i, (List.replicate 25 false).getD i false = false := fun i => by
    rw [List.getD_eq_getElem?_getD, List.getElem?_replicate]; split <;> rfl
  refine WR.call (by first | exact gN | exact gS rfl) rfl rfl (orders_fs (N := N) (J := fun zs M' n' => ∃ (dn : List (List Nat)) (cnt : Nat) (ys : List Bool), permsL N (List.range N) = dn ++ zs ∧ cnt = (dn.filter (fitB fs)).length ∧ ys.length = 25 ∧ M' = (n5 + 1, Ch.row 3 0 0 [.int .i64 (cnt : Int)]) :: (n5, Ch.row 69 0 0 (boolsV ys)) :: T ∧
      ∀ x y, x < 5 → y < 5 → (ys.getD (x * 5 + y) false = true ↔ ∃ z ∈ dn, fitB fs z = true ∧ farI z x y fun _ _ => True))
    (by omega) hH5 ⟨[], 0, List.replicate 25 false, rfl, rfl, rfl, rfl, fun x y hx hy => by rw [hrf]; simp⟩ (fun zs M' n' n'' h _ => h) ?_) ?_
  · rintro z zs F _ n' H' w ⟨dn, cnt, ys, hP, hcnt, hys, rfl, hfar⟩ hz hS hH'
    have hH7 := hH'.perm (M' := (n5 + 1, Ch.row 3 0 0 [.int .i64 (cnt : Int)]) :: (n5, Ch.row 69 0 0 (boolsV ys)) :: (F ++ T)) (List.perm_append_comm_assoc F [_, _] T)
    have hcl : cnt ≤ 2097152 := by
      have h2 := fitL_len (N := N) (fs := fs) (by omega)
      rw [fitL, hP, List.filter_append, List.length_append] at h2
      omega
    refine (each_fs hN5 hz hf0 hH7 (List.mem_append_right _ hmF) (hR.mono fun q hq => List.mem_append_right _ hq) (hS.mono fun q hq => List.mem_append_left _ hq) hys hcl).mono fun e H8 ⟨n8, ys', h1, h2, h3, h4⟩ => ⟨_, n8, h1, ⟨dn ++ [z], _, ys', by rw [hP]; simp, by rw [List.filter_append, List.length_append, hcnt, List.filter_cons]; split <;> simp_all, h2, rfl, fun x y hx hy => ?_⟩, h3.perm (List.perm_append_comm_assoc [_, _] F T)⟩
    rw [h4 x y hx hy, hfar x y hx hy]
    constructor
    · rintro (⟨q, h5, h6⟩ | h5)
      · exact ⟨q, List.mem_append_left _ h5, h6⟩
      · exact ⟨z, List.mem_append_right _ (by simp), h5⟩
    · rintro ⟨q, h5, h6⟩
      rcases List.mem_append.1 h5 with h7 | h7
      · exact .inl ⟨q, h7, h6⟩
      · obtain rfl := List.mem_singleton.1 h7
        exact .inr h6
  rintro _ H6 ⟨_, n6, hn6, ⟨dn, cnt, ys, hP, hcnt, hys, rfl, hfar⟩, hH6⟩
  rw [List.append_nil] at hP
  subst hP
  have hA : (fitL N fs).length = cnt := hcnt.symm
  have hA2 := fitL_len (N := N) (fs := fs) (by omega)
  rw [hA] at hA2
  clear hcnt hH5 hH4
  obtain ⟨p, hp⟩ : ∃ p : Nat → Nat → Bool, p = fun x y => decide (adjS N x y (fitL N fs) = cnt) := ⟨_, rfl⟩
  have hys2 : ∀ x y, x < y → y < N → ys.getD (x * 5 + y) false = !p x y := fun x y h1 h2 => by
    rw [Bool.eq_iff_iff, hfar x y (by omega) (by omega), Bool.not_eq_true', hp]
    simp only [decide_eq_false_iff_not]
    rw [← hA]
    exact far_some h1 h2
  clear hfar
  have hmC : (n5 + 1, Ch.row 3 0 0 [.int .i64 (cnt : Int)]) ∈ (n5 + 1, Ch.row 3 0 0 [.int .i64 (cnt : Int)]) :: (n5, Ch.row 69 0 0 (boolsV ys)) :: T := .head _
  have hmX : (n5, Ch.row 69 0 0 (boolsV ys)) ∈ (n5 + 1, Ch.row 3 0 0 [.int .i64 (cnt : Int)]) :: (n5, Ch.row 69 0 0 (boolsV ys)) :: T := .tail _ (.head _)
  replace hR : RowsI ((n5 + 1, Ch.row 3 0 0 [.int .i64 (cnt : Int)]) :: (n5, Ch.row 69 0 0 (boolsV ys)) :: T) v fs := hR.cons.cons
  replace hmF := List.mem_cons_of_mem (n5 + 1, Ch.row 3 0 0 [.int .i64 (cnt : Int)]) (List.mem_cons_of_mem (n5, Ch.row 69 0 0 (boolsV ys)) hmF)
  generalize (n5 + 1, Ch.row 3 0 0 [.int .i64 (cnt : Int)]) :: (n5, Ch.row 69 0 0 (boolsV ys)) :: T = T at hH6 hR hmF hmC hmX
  repeat' (first | refine zP ?_ | refine zA ?_ | (refine zM ?_; intro _ _) | refine zX ?_ | (refine zC ?_; intro _ _ _ _) | (refine zS ?_; intro _ _) | (apply Ws <;> intro hg))
  refine WR.call (by first | exact gN | exact gS rfl) rfl rfl (Beside_fs hH6 hR hl1 hll1 (N : Int)) ?_
  rintro _ H7 ⟨n7, M7, vl, rfl, hn7', hSl, hH7⟩
  clear hH6
  replace hR := hR.mono (M' := M7 ++ T) fun q hq => List.mem_append_right _ hq
  replace hmF := List.mem_append_right M7 hmF
  replace hmC := List.mem_append_right M7 hmC
  replace hmX := List.mem_append_right M7 hmX
  generalize M7 ++ T = T at hH7 hR hmF hmC hmX hSl
  have hbl := beside_len (n := (N : Int)) (fs := fs)
  have hbe : besideL (N : Int) fs = if fitL N fs = [] then [] else prows p N N := by
    rw [besideL, if_pos hf0, hp, Int.toNat_natCast, ← hA]
  rw [firstC, if_pos hf0, Int.toNat_natCast]
  generalize besideL (N : Int) fs = bl at hSl hbl hbe
  repeat' (first | refine zP ?_ | refine zA ?_ | (refine zM ?_; intro _ _) | refine zX ?_ | (refine zC ?_; intro _ _ _ _) | (refine zS ?_; intro _ _) | (apply Ws <;> intro hg))
  refine WC.condP rfl (fun hc0 => ?_) (fun hc0 => ?_)
  · have hfl : fitL N fs = [] := List.length_eq_zero_iff.1 (by omega)
    rw [if_pos hfl]
    rw [if_pos hfl] at hbe
    subst hbe
    repeat' (first | refine zP ?_ | refine zA ?_ | (refine zM ?_; intro _ _) | refine zX ?_ | (refine zC ?_; intro _ _ _ _) | (refine zS ?_; intro _ _) | refine zO ?_ | (apply Ws <;> intro hg))
    refine WR.op (by first | exact gN | exact gS rfl) rfl (OpV.len2 rfl hSl) ?_
    simp only [List.length_nil, Int.natCast_zero]
    repeat' (first | refine zP ?_ | refine zA ?_ | (refine zM ?_; intro _ _) | refine zX ?_ | (refine zC ?_; intro _ _ _ _) | (refine zS ?_; intro _ _) | refine zO ?_ | (apply Ws <;> intro hg))
    refine WR.call (by first | exact gN | exact gS rfl) rfl rfl (FS.works (C := C) (R := fun v H' => v = .bool true) rfl) ?_
    rintro _ _ rfl
    repeat' (first | refine zP ?_ | refine zA ?_ | (refine zM ?_; intro _ _) | refine zX ?_ | (refine zC ?_; intro _ _ _ _) | (refine zS ?_; intro _ _) | refine zO ?_ | (apply Ws <;> intro hg))
    exact Ends.ret1 rfl rfl
  have hfl : fitL N fs ≠ [] := fun h => hc0 (by rw [← hA, h]; rfl)
  rw [if_neg hfl]
  rw [if_neg hfl] at hbe
  subst hbe
  repeat' (first | refine zP ?_ | refine zA ?_ | (refine zM ?_; intro _ _) | refine zX ?_ | (refine zC ?_; intro _ _ _ _) | (refine zS ?_; intro _ _) | (apply Ws <;> intro hg))
  have hpl : ∀ k j, k < N → (prows p N k ++ prow p k j).length ≤ 25 + j := fun k j hk => by
    have h2 := prows_len p N k
    have h3 := prow_len p k j
    have h4 : N * k ≤ 5 * 5 := Nat.mul_le_mul hN5.2 (by omega)
    rw [List.length_append]; omega
  refine WC.loopX [(3, _), (4, _), (5, _), (6, _), (7, _), (8, _), (39, .int .i64 (N : Int))] (fun s : YV => [(40, .int .i64 (s.x : Int)), (9, s.v)]) []
    (fun s H' => s.x ≤ N ∧ n7 ≤ s.n ∧ Own 70 2 s.v (pcells (prows p N s.x)) s.Mx ∧ hasH (s.Mx ++ T) s.n H') (fun s => N - s.x) ⟨0, .slice none 0 0, [], n7⟩ (by repeat' (first | exact .nil | refine .cons rfl ?_)) rfl ⟨Nat.zero_le _, Nat.le_refl _, .nil, hH7⟩ ?_
  clear hH7
  rintro ⟨k, w, Mx, n8⟩ H8 ⟨hk, hn8, hO, hH8⟩
  simp only at hk hn8 hO hH8
  dsimp only [List.cons_append, List.nil_append]
  repeat' (first | refine zP ?_ | refine zA ?_ | (refine zM ?_; intro _ _) | refine zX ?_ | (refine zC ?_; intro _ _ _ _) | (refine zS ?_; intro _ _) | (apply Ws <;> intro hg))
  refine WC.condP rfl (fun hlt => ?_) (fun hlt => ?_)
  · have hk' : k < N := by omega
    repeat' (first | refine zP ?_ | refine zA ?_ | (refine zM ?_; intro _ _) | refine zX ?_ | (refine zC ?_; intro _ _ _ _) | (refine zS ?_; intro _ _) | (apply Ws <;> intro hg))
    refine WC.loopX [(3, _), (4, _), (5, _), (6, _), (7, _), (8, _), (10, .int .i64 (k : Int)), (39, .int .i64 (N : Int)), (40, .int .i64 (k : Int))] (fun s : YV => [(11, .int .i64 ((k + 1 + s.x : Nat) : Int)), (9, s.v)]) []
      (fun s H' => s.x ≤ N - (k + 1) ∧ n7 ≤ s.n ∧ Own 70 2 s.v (pcells (prows p N k ++ prow p k s.x)) s.Mx ∧ hasH (s.Mx ++ T) s.n H') (fun s => N - s.x) ⟨0, w, Mx, n8⟩ (by repeat' (first | exact .nil | refine .cons rfl ?_)) rfl ⟨Nat.zero_le _, hn8, by simpa [prow] using hO, hH8⟩ ?_
    clear hH8 hO hn8
    rintro ⟨j, w, Mx, n9⟩ H9 ⟨hj, hn9, hO, hH9⟩
    simp only at hj hn9 hO hH9
    have hmX9 := List.mem_append_right Mx hmX
    have hq := hpl k j hk'
    rw [List.length_append] at hq
    dsimp only [List.cons_append, List.nil_append]
    repeat' (first | refine zP ?_ | refine zA ?_ | (refine zM ?_; intro _ _) | refine zX ?_ | (refine zC ?_; intro _ _ _ _) | (refine zS ?_; intro _ _) | (apply Ws <;> intro hg))
    refine WC.condP rfl (fun hlt2 => ?_) (fun hlt2 => ?_)
    · have hj' : j < N - (k + 1) := by omega
      obtain ⟨y, hy⟩ : ∃ y, k + 1 + j = y := ⟨_, rfl⟩
      have hyN : y < N := by omega
      have hky : k < y := by omega
      obtain ⟨hle2, hnum⟩ := two_num hky hyN hf0 hl8
      have hf2 := two_ok hky hyN hf0 hl8
      rw [hA] at hle2 hnum
      rw [hy]
      repeat' (first | refine zP ?_ | refine zA ?_ | (refine zM ?_; intro _ _) | refine zX ?_ | (refine zC ?_; intro _ _ _ _) | (refine zS ?_; intro _ _) | (apply Ws <;> intro hg))
      rw [hys2 k y hky hyN, Bool.not_not]
      refine WC.joinX [(3, _), (4, _), (5, _), (6, _), (7, _), (8, _), (10, _), (11, _), (39, _), (40, _)] (by repeat' (first | exact .nil | refine .cons rfl ?_)) (fun s : YV => [(9, s.v)])
        (fun s H' => n7 ≤ s.n ∧ Own 70 2 s.v (pcells (prows p N k ++ prow p k (j + 1))) s.Mx ∧ hasH (s.Mx ++ T) s.n H') ?_ ?_
      · cases hpk : p k y with
        | true =>
          repeat' (first | refine zP ?_ | refine zA ?_ | (refine zM ?_; intro _ _) | refine zX ?_ | (refine zC ?_; intro _ _ _ _) | (refine zS ?_; intro _ _) | (apply Ws <;> intro hg))
          refine WR.op (by first | exact gN | exact gS rfl) rfl (OpV.bldA (vs := [(0, .int .i64 (k : Int)), (1, .int .i64 (y : Int))]) rfl (cs := #[.int .i64 (k : Int), .int .i64 (y : Int)]) (by rfl)) ?_
          refine WR.append1F [] Mx T rfl rfl rfl rfl hO hH9 (new := [.int .i64 (k : Int), .int .i64 (y : Int)]) (by rfl) rfl rfl (by decide) (by decide) (by rw [pcells_len]; simp; omega) fun v7 M7 n7 H7 hO7 hH7 hn7 => ?_
          rw [pcells_app, List.append_assoc] at hO7
          repeat' (first | refine zP ?_ | refine zA ?_ | (refine zM ?_; intro _ _) | refine zX ?_ | (refine zC ?_; intro _ _ _ _) | (refine zS ?_; intro _ _) | (apply Ws <;> intro hg))
          refine Ends.midX ⟨0, v7, M7, n7⟩ (by repeat' (first | exact .nil | refine .cons rfl ?_)) ⟨by simp only; omega, ?_, hH7⟩
          simp only
          rw [prow, hy, if_pos hpk]
          exact hO7
        | false =>
          repeat' (first | refine zP ?_ | refine zA ?_ | (refine zM ?_; intro _ _) | refine zX ?_ | (refine zC ?_; intro _ _ _ _) | (refine zS ?_; intro _ _) | (apply Ws <;> intro hg))
          refine Ends.midX ⟨0, w, Mx, n9⟩ (by repeat' (first | exact .nil | refine .cons rfl ?_)) ⟨hn9, ?_, hH9⟩
          simp only
          rw [prow, hy, if_neg (by simp [hpk]), List.append_nil]
          exact hO
      clear hO hH9 hmX9 hn9
      rintro ⟨_, w, Mx, n9⟩ H9 ⟨hn9, hO, hH9⟩
      simp only at hn9 hO hH9
      have hmX9 := List.mem_append_right Mx hmX
      have hmC9 := List.mem_append_right Mx hmC
      have hmF9 := List.mem_append_right Mx hmF
      have hR9 : RowsI (Mx ++ T) v fs := hR.mono fun q hq => List.mem_append_right _ hq
      obtain ⟨U, hU⟩ : ∃ U, Mx ++ T = U := ⟨_, rfl⟩
      rw [hU] at hmX9 hmC9 hmF9 hR9 hH9
      obtain ⟨vs, hSv, hvl, hvs⟩ := id hR9
      have hvo := one_rows hvl hvs
      dsimp only [List.cons_append, List.nil_append]
      repeat' (first | refine zP ?_ | refine zA ?_ | (refine zM ?_; intro _ _) | refine zX ?_ | (refine zC ?_; intro _ _ _ _) | (refine zS ?_; intro _ _) | (apply Ws <;> intro hg))
      refine WR.call (by first | exact gN | exact gS rfl) rfl rfl (CloneO_fs hH9 hSv hvo (by omega) fun h => hv0 (List.length_eq_zero_iff.1 (by rw [← hvl, h]; rfl))) ?_
      rintro vc H10 ⟨Mc, n10, hOc, hn10, hH10⟩
      clear hH9
      repeat' (first | refine zP ?_ | refine zA ?_ | (refine zM ?_; intro _ _) | refine zX ?_ | (refine zC ?_; intro _ _ _ _) | (refine zS ?_; intro _ _) | (apply Ws <;> intro hg))
      refine WR.bldS (by first | exact gN | exact gS rfl) rfl hH10 (vs := [(0, .int .i64 (k : Int)), (1, .int .i64 (y : Int))]) rfl (cs := [.int .i64 (k : Int), .int .i64 (y : Int)]) (by rfl) rfl fun H11 hH11 => ?_
      refine WR.call (by first | exact gN | exact gS rfl) rfl rfl (list_fs _ _) ?_
      rintro _ _ ⟨rfl, rfl⟩
      clear hH10
      refine WR.append1F [(n10, .row 3 0 0 [.int .i64 (k : Int), .int .i64 (y : Int)])] Mc U rfl rfl rfl rfl hOc hH11 (new := [.slice (some ⟨n10, 0, some 0⟩) 2 (2 * 2 + 1)]) (by rfl) rfl rfl (Nat.le_refl _) (by omega) (by simp; omega) fun v13 M13 n13 H13 hO13 hH13 hn13 => ?_
      clear hH11 hOc
      have hS13 := hO13.sl U
      obtain ⟨a13, c13, rfl⟩ := hS13.len
      obtain ⟨q13, hq13⟩ : ∃ q13, (vs ++ [Value.slice (some ⟨n10, 0, some 0⟩) 2 (2 * 2 + 1)]).length = q13 := ⟨_, rfl⟩
      rw [hq13] at hS13 ⊢
      have hone13 := hS13.one_
      refine WR.op (by first | exact gN | exact gS rfl) rfl (OpV.bldT (vs := [(0, .int .i64 (N : Int)), (1, .slice a13 q13 c13)]) rfl (cs := #[.int .i64 (N : Int), .slice a13 q13 c13]) (by rfl)) ?_
      repeat' (first | refine zP ?_ | refine zA ?_ | (refine zM ?_; intro _ _) | refine zX ?_ | (refine zC ?_; intro _ _ _ _) | (refine zS ?_; intro _ _) | (apply Ws <;> intro hg))
      rename_i H14 hH14
      refine WR.storeAll (by first | exact gN | exact gS rfl) hH14 rfl rfl (ls := [.int .i64 (N : Int), .slice a13 q13 c13]) rfl rfl .here (by (repeat' (first | exact all_nil | refine all_cons (by first | rfl | assumption) ?_))) rfl fun H15 hH15 => ?_
      clear hH14 hH13 hO13
      have hSx : Sl ((n10, Ch.row 3 0 0 [Value.int .i64 (k : Int), .int .i64 (y : Int)]) :: U) 1 (.slice (some ⟨n10, 0, some 0⟩) 2 (2 * 2 + 1)) (ints [(k : Int), (y : Int)]) :=
        .row (lo := 0) (cs := [.int .i64 (k : Int), .int .i64 (y : Int)]) (.head _) (.row _ _ _ _) (Nat.zero_le _) rfl rfl (by simp) (.inr ⟨2, rfl, Nat.le_refl _⟩)
      obtain ⟨X, hX⟩ : ∃ X, (n13, Ch.row 24 0 0 [.int .i64 (N : Int), .slice a13 q13 c13]) :: ([(n10, Ch.row 3 0 0 [Value.int .i64 (k : Int), .int .i64 (y : Int)])] ++ (M13 ++ U)) = X := ⟨_, rfl⟩
      have hUX : U.Sublist X := by rw [← hX]; exact .cons _ (.cons _ (List.sublist_append_right _ _))
      have hX10 : (n10, Ch.row 3 0 0 [Value.int .i64 (k : Int), .int .i64 (y : Int)]) ∈ X := by rw [← hX]; exact .tail _ (.head _)
      have hm15 : (n13, Ch.row 24 0 0 [.int .i64 (N : Int), .slice a13 q13 c13]) ∈ X := by rw [← hX]; exact .head _
      replace hS13 : Sl X 1 (.slice a13 q13 c13) (vs ++ [Value.slice (some ⟨n10, 0, some 0⟩) 2 (2 * 2 + 1)]) := hS13.mono fun q hq => by rw [← hX]; exact .tail _ (.tail _ hq)
      rw [hX] at hH15
      have hR2 : RowsI X (.slice a13 q13 c13) (fs ++ [[(k : Int), (y : Int)]]) := by
        refine ⟨_, hS13, by simp [hvl], fun i hi => ?_⟩
        rcases Nat.lt_or_ge i vs.length with h | h
        · rw [getD_app_l h, getD_app_l (by omega)]
          exact (hvs i (by omega)).mono fun q hq => hUX.subset hq
        · have h2 : i = vs.length := by simp at hi; omega
          subst h2
          rw [getD_right (Nat.le_refl _), hvl, getD_right (Nat.le_refl _)]
          simp only [Nat.sub_self]
          exact hSx.mono fun q hq => by
            rcases List.mem_cons.1 hq with h | h
            · exact h ▸ hX10
            · exact hUX.subset h
      replace hmC9 := hUX.subset hmC9
      replace hmX9 := hUX.subset hmX9
      clear hS13 hSx hX10 hX hvs hSv hvo hone13 hmF9 hR9
      repeat' (first | refine zP ?_ | refine zA ?_ | (refine zM ?_; intro _ _) | refine zX ?_ | (refine zC ?_; intro _ _ _ _) | (refine zS ?_; intro _ _) | (apply Ws <;> intro hg))
      refine WR.call (by first | exact gN | exact gS rfl) rfl rfl (Count_fs hH15 hR2 (by simp; omega) (fun l hl => form_len (n := (N : Int)) (by omega) ((finds_ok hf2).2.2.2 l hl)) (N : Int)) ?_
      rintro _ H16 ⟨rfl, n16, hn16, hH16⟩
      clear hH15 hR2
      rw [hf2, if_pos rfl, Int.toNat_natCast]
      have hB2 := fitL_len (N := N) (fs := fs ++ [[(k : Int), (y : Int)]]) (by omega)
      have hpk : p k y = decide (adjS N k y (fitL N fs) = cnt) := by rw [hp]
      generalize (fitL N (fs ++ [[(k : Int), (y : Int)]])).length = B at hle2 hnum hB2
      repeat' (first | refine zP ?_ | refine zA ?_ | (refine zM ?_; intro _ _) | refine zX ?_ | (refine zC ?_; intro _ _ _ _) | (refine zS ?_; intro _ _) | refine zO ?_ | (apply Ws <;> intro hg))
      refine WR.op (by first | exact gN | exact gS rfl) rfl (OpV.neB (neq4 _ _) rfl rfl) ?_
      rw [hys2 k y hky hyN, Bool.not_not, hpk, show (decide ((B : Int) = (cnt : Int)) != decide (adjS N k y (fitL N fs) = cnt)) = false by
        by_cases h2 : B = cnt
        · rw [decide_eq_true (by omega), decide_eq_true (hnum.1 h2)]; rfl
        · rw [decide_eq_false (by omega), decide_eq_false fun h => h2 (hnum.2 h)]; rfl]
      repeat' (first | refine zP ?_ | refine zA ?_ | (refine zM ?_; intro _ _) | refine zX ?_ | (refine zC ?_; intro _ _ _ _) | (refine zS ?_; intro _ _) | refine zO ?_ | (apply Ws <;> intro hg))
      rw [show (y : Int) + 1 = ((k + 1 + (j + 1) : Nat) : Int) by omega]
      exact Ends.loop ⟨j + 1, w, Mx, n16⟩ (by simp only; omega) (by repeat' (first | exact .nil | refine .cons rfl ?_)) rfl ⟨hj', by simp only; omega, hO, by rw [hU]; exact hH16.sub hUX⟩
    · have hjl : j = N - (k + 1) := by omega
      subst hjl
      repeat' (first | refine zP ?_ | refine zA ?_ | (refine zM ?_; intro _ _) | refine zX ?_ | (refine zC ?_; intro _ _ _ _) | (refine zS ?_; intro _ _) | (apply Ws <;> intro hg))
      exact Ends.loop ⟨k + 1, w, Mx, n9⟩ (by simp only; omega) (by repeat' (first | exact .nil | refine .cons rfl ?_)) rfl ⟨hk', hn9, hO, hH9⟩
  · have hkl : k = N := by omega
    subst hkl
    repeat' (first | refine zP ?_ | refine zA ?_ | (refine zM ?_; intro _ _) | refine zX ?_ | (refine zC ?_; intro _ _ _ _) | (refine zS ?_; intro _ _) | refine zO ?_ | (apply Ws <;> intro hg))
    refine WR.call (by first | exact gN | exact gS rfl) rfl rfl (pairs_fs hH8 hbl (hSl.mono fun q hq => List.mem_append_right _ hq) (hO.sl T)) ?_
    rintro _ _ ⟨rfl, rfl⟩
    repeat' (first | refine zP ?_ | refine zA ?_ | (refine zM ?_; intro _ _) | refine zX ?_ | (refine zC ?_; intro _ _ _ _) | (refine zS ?_; intro _ _) | refine zO ?_ | (apply Ws <;> intro hg))
    refine WR.call (by first | exact gN | exact gS rfl) rfl rfl (FS.works (C := C) (R := fun v H' => v = .bool true) rfl) ?_
    rintro _ _ rfl
    repeat' (first | refine zP ?_ | refine zA ?_ | (refine zM ?_; intro _ _) | refine zX ?_ | (refine zC ?_; intro _ _ _ _) | (refine zS ?_; intro _ _) | refine zO ?_ | (apply Ws <;> intro hg))
    exact Ends.ret1 rfl rfl
end Go.Proofs.Ytckpocjeikkblaa.St
