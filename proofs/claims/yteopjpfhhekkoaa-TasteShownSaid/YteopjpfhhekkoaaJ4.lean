/- Texts of the law, joined. -/
import Derived.Test.YteopjpfhhekkoaaJ3
/- What the laws share. -/
namespace Go.Abs
set_option linter.unusedSectionVars false
open Go
section
variable [Globs] {C : CW} {nt : Nat} {L : Env} {D : List Nat} {H H' : Heap} {K : St → Prop} {M M' : HL} {n i d : Nat} {gd : Option (Tmp × Bool)} {lo : List Nat} {l : List POp} {rs : List Rd}
theorem WD.append {e sz : Nat} {s x : Operand} {v y : Value} {cs : List Value} {Mx M0 : HL} {k : Nat} {new : List Value} (hg : gOK L gd) (hd : Nat.blt d nt = true) (hs : ev L s = some v) (hy : ev L x = some y)
    (hO : Own e sz v cs Mx) (hH : hasH M n H) (hM : M'.Sublist M) (hp : M'.Perm (Mx ++ M0)) (hk : srcLen y = some k) (hx : srcCells H sz k y = some new) (hl : new.length = k * sz) (h1 : 1 ≤ k) (hone : new.all one = true) (hs1 : 1 ≤ sz) (hs2 : sz ≤ 1000)
    (hsm : cs.length + new.length ≤ 100000) (kk : ∀ v' Mx' n' H', OwnR e sz v' (cs ++ new) Mx' → hasH (Mx' ++ M0) n' H' → n ≤ n' → stands H' lo rs = true ∧ WD C nt l rs ((d, v') :: L) D H' K) :
    WD C nt (⟨i, some d, .append e sz s x, gd, lo⟩ :: l) rs L D H K := by
  obtain ⟨v', Mx', n', H', q1, q2, q3, q4⟩ := append_ownR (P := C.c.P) hO ((hH.sub hM).perm hp) hk hx hl h1 hone hs1 hs2 hsm
  obtain ⟨k1, k2⟩ := kk v' Mx' n' H' q2 q3 q4
  refine WD.op hg hd (H' := H') (v := v') (fun t ht => ?_) rfl k1 k2
  simp only [opA, ev_ok ht hs, ev_ok ht hy, q1]
theorem WD.append1F {j d2 : Nat} {e : Nat} {z : List Value} {s x : Operand} {lo2 : List Nat} {v y : Value} {cs : List Value} {new : Value} (F Mx T : HL) (hd : Nat.blt d nt = true) (hd2 : Nat.blt d2 nt = true)
    (hx : ev L x = some y) (hs : ev ((d, .slice (some ⟨n, 0, some 0⟩) 1 (2 * 1 + 1)) :: L) s = some v) (hO : Own e 1 v cs Mx) (hH : hasH (F ++ (Mx ++ T)) n H)
    (hc : Instr.fill (fun j => some (j * 1, 1)) z.toArray [(0, y)] = some [new].toArray) (hone : one new = true) (hsm : cs.length + 1 ≤ 100000)
    (hst : ∀ H', hasH ((n, .row e 0 0 [new]) :: (F ++ (Mx ++ T))) (n + 1) H' → stands H' lo rs = true)
    (kk : ∀ v' Mx' n' H', OwnR e 1 v' (cs ++ [new]) Mx' → hasH (F ++ (Mx' ++ T)) n' H' → n ≤ n' → stands H' lo2 rs = true ∧ WD C nt l rs ((d2, v') :: (d, .slice (some ⟨n, 0, some 0⟩) 1 (2 * 1 + 1)) :: L) D H' K) :
    WD C nt (⟨i, some d, .bldS e 1 z 1 [(0, x)], none, lo⟩ :: ⟨j, some d2, .append e 1 s (.tmp d), none, lo2⟩ :: l) rs L D H K := by
  refine WD.bldS True.intro hd hH (vs := [(0, y)]) (by simp only [evp, hx]) hc (by simp [hone]) hst fun H1 hH1 => ?_
  have hx2 : srcCells H1 1 1 (.slice (some ⟨n, 0, some 0⟩) 1 (2 * 1 + 1)) = some [new] := by
    have := hH1.readN (b := n) (u := 0) (lo := 0) (o := 0) (k := 1 * 1) (ch := .row e 0 0 [new]) (cs := [new]) (by simp) (.row _ _ _ _) (Nat.le_refl _) (by simp)
    simpa [srcCells] using this
  have hy : ev ((d, .slice (some ⟨n, 0, some 0⟩) 1 (2 * 1 + 1)) :: L) (.tmp d) = some (.slice (some ⟨n, 0, some 0⟩) 1 (2 * 1 + 1)) := by simp [ev, Env.get]
  refine WD.append True.intro hd2 hs hy hO hH1 (M' := F ++ (Mx ++ T)) (List.sublist_cons_self _ _) (M0 := F ++ T) (List.perm_append_comm_assoc F Mx T) rfl hx2 (by simp) (Nat.le_refl _) (by simp [hone]) (Nat.le_refl _) (by omega) (by simpa using hsm) fun v' Mx' n' H' q1 q2 q3 => ?_
  exact kk v' Mx' n' H' q1 (q2.perm (List.perm_append_comm_assoc Mx' F T)) (by omega)
end
end Go.Abs
namespace Go.Proofs.Yteopjpfhhekkoaa.Tt
open Go Go.Abs Go.Mth
set_option linter.unusedVariables false
set_option linter.unusedSimpArgs false
theorem numsK_one (kk : IntKind) (l : List Nat) : (numsK kk l).all one = true := by
  rw [List.all_eq_true]; intro q hq; obtain ⟨z, _, rfl⟩ := List.mem_map.1 hq; rfl
theorem err0 {g : Nat} {S : List Sal} (h : OKS g S) : errS (g : Int) S = 0 := errS_zero.2 ⟨g, rfl, h⟩
theorem NumOut.ok {M : HL} {g : Nat} {S : List Sal} {e : Value} (hok : OKS g S) (h : NumOut M g S e) : ∃ a b, one a = true ∧ one b = true ∧ ((tasteB (matS S) = true ∧ e = .tuple #[a, b, .int .i64 0] ∧ ∃ W V, RngP S.length W V ∧ NumP (matS S) W V ∧ Sl M 1 a (ints W) ∧ Sl M 1 b (ints V)) ∨
    (tasteB (matS S) = false ∧ a = .slice none 0 0 ∧ b = .slice none 0 0 ∧ e = .tuple #[a, b, .int .i64 13])) := by
  obtain ⟨a, b, he, ha, hb, hc⟩ := h
  rw [if_neg (not_not_intro (err0 hok))] at he
  refine ⟨a, b, ha, hb, ?_⟩
  rcases hc with ⟨_, h2, h3⟩ | ⟨h1, h2, h3⟩
  · rw [if_pos h2] at he; exact .inl ⟨h2, he, h3⟩
  · rcases h1 with h1 | h1
    · exact absurd (err0 hok) h1
    · rw [h1, if_neg (by decide)] at he; exact .inr ⟨h1, h2, h3, he⟩
theorem RingOut.ok {M : HL} {g : Nat} {S : List Sal} {e : Value} (hok : OKS g S) (h : RingOut M g S e) : ∃ u, one u = true ∧ ((tasteB (matS S) = true ∧ u = .slice none 0 0 ∧ e = .tuple #[u, .int .i64 13]) ∨ (tasteB (matS S) = false ∧ e = .tuple #[u, .int .i64 0] ∧ ∃ z, firstRing (matS S) = some z ∧ Sl M 1 u (nodes z))) := by
  obtain ⟨u, he, hu, hc⟩ := h
  rw [if_neg (not_not_intro (err0 hok))] at he
  refine ⟨u, hu, ?_⟩
  rcases hc with ⟨_, z, h2, h3⟩ | ⟨h1, h2⟩
  · have htb : tasteB (matS S) = false := by rw [tasteB, h2]; rfl
    rw [htb, if_neg (by decide)] at he
    exact .inr ⟨htb, he, z, h2, h3⟩
  · rcases h1 with h1 | h1
    · exact absurd (err0 hok) h1
    · rw [if_pos h1] at he; exact .inl ⟨h1, h2, he⟩
theorem RanksOut.ok {M : HL} {g : Nat} {S : List Sal} {e : Value} (hok : OKS g S) (h : RanksOut M g S e) : ∃ u, one u = true ∧ ((tasteB (matS S) = false ∧ u = .slice none 0 0 ∧ e = .tuple #[u, .int .i64 13]) ∨ (tasteB (matS S) = true ∧ e = .tuple #[u, .int .i64 0] ∧ Sl M 1 u (nodes (rkL (DP (matS S)) S.length)))) := by
  obtain ⟨u, he, hu, hc⟩ := h
  rw [if_neg (not_not_intro (err0 hok))] at he
  refine ⟨u, hu, ?_⟩
  rcases hc with ⟨_, h2, h3⟩ | ⟨h1, h2⟩
  · rw [if_pos h2] at he
    rw [matS_len] at h3
    exact .inr ⟨h2, he, h3⟩
  · rcases h1 with h1 | h1
    · exact absurd (err0 hok) h1
    · rw [h1, if_neg (by decide)] at he; exact .inl ⟨h1, h2, he⟩
end Go.Proofs.Yteopjpfhhekkoaa.Tt

/- All lists of different numbers, one after the other. -/
namespace Go.Abs
set_option linter.unusedSectionVars false
set_option linter.unusedSimpArgs false
variable [Globs]
open Go
section
variable {C : CW} {nt : Nat} {L : Env} {D : List Nat} {H : Heap} {K : St → Prop} {M M' : HL} {n i d : Nat} {gd : Option (Tmp × Bool)} {lo : List Nat} {l : List POp} {rs : List Rd}
def LstV (M : HL) (v : Value) (cs : List Value) : Prop := (cs = [] ∧ v = .slice none 0 0) ∨ (cs ≠ [] ∧ ∃ b o u cap, v = .slice (some ⟨b, o, some u⟩) cs.length cap ∧ KCell M b o u cs ∧ (cap = 2 * 1 ∨ cap = 2 * cs.length + 1))
def ClipV (M : HL) (v : Value) (cs : List Value) : Prop := (cs = [] ∧ v = .slice none 0 0) ∨ (cs ≠ [] ∧ ∃ b o u, v = .slice (some ⟨b, o, some u⟩) cs.length (2 * cs.length + 1) ∧ KCell M b o u cs)
theorem LstV.mono {v : Value} {cs : List Value} (h : LstV M v cs) (k : ∀ q ∈ M, q ∈ M') : LstV M' v cs := by
  rcases h with h | ⟨h0, b, o, u, cap, h1, h2, h3⟩
  · exact .inl h
  · exact .inr ⟨h0, b, o, u, cap, h1, h2.mono k, h3⟩
theorem LstV.sl {v : Value} {cs : List Value} (h : LstV M v cs) : Sl M 1 v cs := by
  rcases h with ⟨rfl, rfl⟩ | ⟨h0, b, o, u, cap, rfl, ⟨ch, lo, cells, h1, h2, h3, h4, h5⟩, h6⟩
  · exact .nil 0
  · refine .row h1 h2 h3 (by simp) h5 h4 ?_
    rcases h6 with rfl | rfl
    · exact .inl (.inl rfl)
    · exact .inr ⟨_, rfl, Nat.le_refl _⟩
theorem LstV.one_ {v : Value} {cs : List Value} (h : LstV M v cs) : one v = true := h.sl.one_
theorem OpV.clip {x hi mx : Operand} {v : Value} {cs : List Value} {kb kc : IntKind} (hx : ev L x = some v) (hS : LstV M v cs) (h2 : ev L hi = some (.int kb (cs.length : Int))) (h3 : ev L mx = some (.int kc (cs.length : Int))) :
    ∃ v', OpV C (.slS x 1 none (some hi) (some mx)) L H v' H ∧ ClipV M v' cs := by
  rcases hS with ⟨rfl, rfl⟩ | ⟨h0, b, o, u, cap, rfl, h1, h6⟩
  · refine ⟨.slice none 0 0, fun t ht => ?_, .inl ⟨rfl, rfl⟩⟩
    simp only [opA, ev_ok ht hx, Option.map_some, Option.map_none, ev_ok ht h2, ev_ok ht h3, oSlS, sliceA, loOf, hiOf, nat_of, Option.isSome_some, Option.isNone_some, Bool.and_false, cond_false, capOf, sliceTo]
    rfl
  · obtain ⟨len, hlen⟩ : ∃ len, cs.length = len := ⟨_, rfl⟩
    have hl0 : 1 ≤ len := by have := List.length_pos_iff.2 h0; omega
    have hb0 : Nat.beq len 0 = false := by cases hb : Nat.beq len 0 with | false => rfl | true => have := Nat.eq_of_beq_eq_true hb; omega
    have hk : cutKnown 1 (some ⟨b, o, some u⟩) 0 len len = some (.slice (some ⟨b, o, some u⟩) len (2 * len + 1)) := by
      have : (bif Nat.beq len 0 then (⟨b, o, some u⟩ : Addr) else Addr.plus ⟨b, o, some u⟩ (0 * 1)) = ⟨b, o, some u⟩ := by
        cases Nat.beq len 0 <;> rfl
      simp only [cutKnown, this, Nat.sub_zero]
    refine ⟨.slice (some ⟨b, o, some u⟩) len (2 * len + 1), fun t ht => ?_, .inr ⟨h0, b, o, u, by rw [hlen], h1⟩⟩
    rw [hlen] at hx h2 h3 h6
    rcases h6 with rfl | rfl
    · simp only [opA, ev_ok ht hx, Option.map_some, Option.map_none, ev_ok ht h2, ev_ok ht h3, oSlS, sliceA, loOf, hiOf, nat_of, Option.isSome_some, Option.isNone_some, Bool.and_false, cond_false, capOf_open _ (show 1 ≤ 1000 by decide), sliceTo]
      rw [cond_some (by simp [Nat.ble_eq])]
      simp only [cutOpenMax, hb0, cond_false, hk, asVal]
    · simp only [opA, ev_ok ht hx, Option.map_some, Option.map_none, ev_ok ht h2, ev_ok ht h3, oSlS, sliceA, loOf, hiOf, nat_of, Option.isSome_some, Option.isNone_some, Bool.and_false, cond_false, capOf_known, sliceTo]
      rw [cond_some (by simp [Nat.ble_eq])]
      simp only [hk, asVal]
theorem WR.clip {x hi mx : Operand} {v : Value} {cs : List Value} {kb kc : IntKind} (hg : gOK L gd) (hd : Nat.blt d nt = true) (hx : ev L x = some v) (hS : LstV M v cs) (h2 : ev L hi = some (.int kb (cs.length : Int))) (h3 : ev L mx = some (.int kc (cs.length : Int)))
    (k : ∀ v', ClipV M v' cs → WR C nt l ((d, v') :: L) D H K) : WR C nt (⟨i, some d, .slS x 1 none (some hi) (some mx), gd, lo⟩ :: l) L D H K := by
  obtain ⟨v', h4, h5⟩ := OpV.clip (C := C) (H := H) hx hS h2 h3
  exact WR.op hg hd h4 (k v' h5)
theorem OpV.appFull {e b2 : Nat} {s x : Operand} {v y : Value} {cs : List Value} (hH : hasH M n H) (hs : ev L s = some v) (hS : ClipV M v cs) (hx : ev L x = some (.slice (some ⟨b2, 0, some 0⟩) 1 (2 * 1 + 1))) (hm : (b2, .row e 0 0 [y]) ∈ M) (hone : cs.all one = true) (hy : one y = true) (hl : cs.length ≤ 1000) :
    ∃ H', OpV C (.append e 1 s x) L H (.slice (some ⟨n, 0, some 0⟩) (cs.length + 1) (2 * 1)) H' ∧ hasH ((n, .row e 0 0 (cs ++ [y])) :: M) (n + 1) H' := by
  have hone2 : (cs ++ [y]).all one = true := by rw [List.all_append, hone]; simp [hy]
  refine ⟨H.row e (cs ++ [y]), fun t ht => ?_, hH.row e hone2⟩
  have hr := hH.readN (b := b2) (u := 0) (lo := 0) (o := 0) (k := 1) hm (.row _ _ _ _) (Nat.le_refl _) (by simp)
  have hr2 : H.readN ⟨b2, 0, some 0⟩ 1 = some [y] := by simpa using hr
  have hsx : srcCells H 1 1 (.slice (some ⟨b2, 0, some 0⟩) 1 (2 * 1 + 1)) = some [y] := by simpa [srcCells] using hr
  have hsm : ∀ len, len ≤ 1000 → small 1 (len + 1) = true := fun len h => by simp only [small, Bool.and_eq_true]; exact ⟨⟨Nat.ble_eq_true_of_le (by omega), Nat.ble_eq_true_of_le (by omega)⟩, Nat.ble_eq_true_of_le (by omega)⟩
  rcases hS with ⟨rfl, rfl⟩ | ⟨h0, b, o, u, rfl, h1⟩
  · have := hsm 0 (by omega)
    simp only [opA, ev_ok ht hs, ev_ok ht hx, appendA, srcLen, hsx, appWith, capOf, appNew, newAddr, hH.next]
    have hs0 : srcCells H 1 0 (.slice none 0 0) = some [] := rfl
    simp only [hs0]
    have e1 : Nat.ble (0 + 1) 0 = false := rfl
    simp only [e1, cond_false, this, List.all_nil, List.all_cons, hy, Bool.and_self, cond_true, List.length_nil, List.length_singleton, List.nil_append, Nat.zero_add, Nat.mul_one]
    rfl
  · obtain ⟨len, hlen⟩ : ∃ len, cs.length = len := ⟨_, rfl⟩
    have hrd := h1.readN' hH hlen
    have hsr : srcCells H 1 len (.slice (some ⟨b, o, some u⟩) len (2 * len + 1)) = some cs := by simpa [srcCells] using hrd
    have e1 : Nat.ble (len + 1) len = false := by
      cases hb : Nat.ble (len + 1) len with
      | false => rfl
      | true => have := Nat.le_of_ble_eq_true hb; omega
    have e2 : Nat.beq (cs.length + [y].length) ((len + 1) * 1) = true := by rw [hlen, Nat.mul_one]; exact Nat.beq_refl _
    have := hsm len (by omega)
    rw [hlen] at hs
    rw [hlen]
    simp only [opA, ev_ok ht hs, ev_ok ht hx, appendA, srcLen, hsx, appWith, capOf_known, e1, cond_false, hsr, appNew, this, hone, List.all_cons, List.all_nil, hy, Bool.and_self, e2, cond_true, newAddr, hH.next]
theorem ClipV.mono {v : Value} {cs : List Value} (h : ClipV M v cs) (k : ∀ q ∈ M, q ∈ M') : ClipV M' v cs := by
  rcases h with h | ⟨h0, b, o, u, h1, h2⟩
  · exact .inl h
  · exact .inr ⟨h0, b, o, u, h1, h2.mono k⟩
theorem WD.appFull {e b2 : Nat} {s x : Operand} {v y : Value} {cs : List Value} (hg : gOK L gd) (hd : Nat.blt d nt = true) (hH : hasH M n H) (hs : ev L s = some v) (hS : ClipV M v cs) (hx : ev L x = some (.slice (some ⟨b2, 0, some 0⟩) 1 (2 * 1 + 1))) (hm : (b2, .row e 0 0 [y]) ∈ M) (hone : cs.all one = true) (hy : one y = true) (hl : cs.length ≤ 1000)
    (kk : ∀ H', hasH ((n, .row e 0 0 (cs ++ [y])) :: M) (n + 1) H' → stands H' lo rs = true ∧ WD C nt l rs ((d, .slice (some ⟨n, 0, some 0⟩) (cs.length + 1) (2 * 1)) :: L) D H' K) : WD C nt (⟨i, some d, .append e 1 s x, gd, lo⟩ :: l) rs L D H K := by
  obtain ⟨H', h4, h5⟩ := OpV.appFull (C := C) hH hs hS hx hm hone hy hl
  obtain ⟨k1, k2⟩ := kk H' h5
  exact WD.op hg hd h4 rfl k1 k2

end
end Go.Abs
namespace Go.Proofs.Yteopjpfhhekkoaa.Tt
open Go Go.Abs Go.Mth
set_option linter.unusedVariables false
set_option linter.unusedSimpArgs false
def preL (n : Nat) : Nat → List Nat → List (List Nat)
  | 0, l => if l = [] then [] else [l]
  | r + 1, l => (if l = [] then [] else [l]) ++ ((List.range n).filter fun x => !decide (x ∈ l)).flatMap fun x => preL n r (l ++ [x])
def preK (n r : Nat) (l : List Nat) (k : Nat) : List (List Nat) := ((List.range' k (n - k)).filter fun x => !decide (x ∈ l)).flatMap fun x => preL n r (l ++ [x])
theorem preK_zero (n r : Nat) (l : List Nat) : preL n (r + 1) l = (if l = [] then [] else [l]) ++ preK n r l 0 := by
  unfold preK
  rw [Nat.sub_zero, ← List.range_eq_range']; rfl
theorem preK_in {n r k : Nat} {l : List Nat} (hk : k < n) (h : k ∉ l) : preK n r l k = preL n r (l ++ [k]) ++ preK n r l (k + 1) := by
  unfold preK
  rw [show n - k = (n - (k + 1)) + 1 by omega, List.range'_succ, List.filter_cons_of_pos (by simp [h]), List.flatMap_cons]
theorem preK_out {n r k : Nat} {l : List Nat} (hk : k < n) (h : k ∈ l) : preK n r l k = preK n r l (k + 1) := by
  unfold preK
  rw [show n - k = (n - (k + 1)) + 1 by omega, List.range'_succ, List.filter_cons_of_neg (by simp [h])]
theorem preK_end (n r : Nat) (l : List Nat) : preK n r l n = [] := by unfold preK; rw [Nat.sub_self]; rfl
def Dis (n : Nat) (l : List Nat) : Prop := l.Nodup ∧ ∀ x ∈ l, x < n
theorem Dis.len {n : Nat} {l : List Nat} (h : Dis n l) : l.length ≤ n := nodup_le n l h.1 h.2
theorem Dis.snoc {n x : Nat} {l : List Nat} (h : Dis n l) (hx : x < n) (hm : x ∉ l) : Dis n (l ++ [x]) :=
  ⟨List.nodup_append.2 ⟨h.1, by simp, fun a ha b hb => by rw [List.mem_singleton.1 hb]; exact fun e => hm (e ▸ ha)⟩, fun y hy => by
    rcases List.mem_append.1 hy with hy | hy
    · exact h.2 y hy
    · rw [List.mem_singleton.1 hy]; exact hx⟩
theorem mem_preL {n : Nat} : ∀ {r : Nat} {l m : List Nat}, l.length + r = n → Dis n l → (m ∈ preL n r l ↔ m ≠ [] ∧ Dis n m ∧ m.take l.length = l)
  | 0, l, m, hl, hd => by
    have hfull : Dis n m → m.take l.length = l → m = l := fun h1 h2 => by
      have := h1.len
      rwa [List.take_of_length_le (by omega)] at h2
    unfold preL
    by_cases e : l = []
    · rw [if_pos e]
      constructor
      · intro h; cases h
      · rintro ⟨h1, h2, h3⟩; exact absurd ((hfull h2 h3).trans e) h1
    · rw [if_neg e, List.mem_singleton]
      constructor
      · rintro rfl; exact ⟨e, hd, List.take_length⟩
      · rintro ⟨h1, h2, h3⟩; exact hfull h2 h3
  | r + 1, l, m, hl, hd => by
    unfold preL
    rw [List.mem_append, List.mem_flatMap]
    constructor
    · rintro (h | ⟨x, hx, h⟩)
      · by_cases e : l = []
        · rw [if_pos e] at h; cases h
        · rw [if_neg e, List.mem_singleton] at h
          subst h; exact ⟨e, hd, List.take_length⟩
      · obtain ⟨h1, h2⟩ := List.mem_filter.1 hx
        have hm : x ∉ l := by simpa using h2
        obtain ⟨k1, k2, k3⟩ := (mem_preL (by simp; omega) (hd.snoc (List.mem_range.1 h1) hm)).1 h
        refine ⟨k1, k2, ?_⟩
        rw [List.length_append, List.length_singleton] at k3
        have := congrArg (List.take l.length) k3
        rwa [List.take_take, Nat.min_eq_left (by omega), List.take_left] at this
    · rintro ⟨h1, h2, h3⟩
      by_cases e : m.length = l.length
      · have hml : m = l := by rwa [← e, List.take_length] at h3
        left
        rw [if_neg (by rw [← hml]; exact h1), List.mem_singleton]; exact hml
      · right
        have hlt : l.length < m.length := by
          have := congrArg List.length h3
          rw [List.length_take] at this; omega
        have hx := h2.2 _ (getD_mem (a := 0) hlt)
        have e1 : m.take (l.length + 1) = l ++ [m.getD l.length 0] := by rw [take_snoc' (d := 0) hlt, h3]
        have hm : m.getD l.length 0 ∉ l := by
          have := nodup_at.1 h2.1 l.length hlt
          rwa [h3] at this
        refine ⟨m.getD l.length 0, List.mem_filter.2 ⟨List.mem_range.2 hx, by simpa using hm⟩, (mem_preL (by simp; omega) (hd.snoc hx hm)).2 ⟨h1, h2, ?_⟩⟩
        rw [List.length_append, List.length_singleton]; exact e1
theorem mem_pre {n : Nat} {m : List Nat} : m ∈ preL n n [] ↔ m ≠ [] ∧ Dis n m := by
  rw [mem_preL (by simp) ⟨List.nodup_nil, fun x hx => by cases hx⟩]
  exact ⟨fun h => ⟨h.1, h.2.1⟩, fun h => ⟨h.1, h.2, rfl⟩⟩
abbrev ptrT (b : Nat) : Value := .pointer (some ⟨b, 0, some 0⟩)
structure PX where
  k : Nat
  Mc : HL
  X : HL
  n : Nat
attribute [local irreducible] gOK WS WC WR WD Ends FS YS OpV seqK blockK loopK midK retK rdK asgK rangeEnd sat Cell
section
variable {M : HL} {n0 : Nat} {H : Heap} {v w : Value}
theorem Clip_fs (hH : hasH M n0 H) {cs : List Value} (hS : LstV M v cs) (hl : cs.length ≤ 1000) :
    FS C 89 [v] H (fun e H' => ClipV M e cs ∧ H' = H) := by
  have hs := hS.sl
  have hlen : ∃ a c, v = .slice a cs.length c := by
    rcases hS with ⟨rfl, rfl⟩ | ⟨h0, b, o, u, cap, rfl, h1, h6⟩
    · exact ⟨_, _, rfl⟩
    · exact ⟨_, _, rfl⟩
  obtain ⟨a, c, hv⟩ := hlen
  refine FS.intro (pf := pf89) rfl rfl rfl ?_
  repeat' (first | refine zP ?_ | refine zA ?_ | (refine zM ?_; intro _ _) | refine zX ?_ | (refine zC ?_; intro _ _ _ _) | (refine zS ?_; intro _ _) | (apply Ws <;> intro hg))
  refine WR.clip (by first | exact gN | exact gS rfl) rfl rfl hS rfl rfl fun v' h => ?_
  repeat' (first | refine zP ?_ | refine zA ?_ | (refine zM ?_; intro _ _) | refine zX ?_ | (refine zC ?_; intro _ _ _ _) | (refine zS ?_; intro _ _) | (apply Ws <;> intro hg))
  exact Ends.ret1 rfl ⟨h, rfl⟩
set_option maxHeartbeats 2000000 in
theorem put_fs {bn be bp N : Nat} {g : FuncId} {vb : List Value} {X0 : HL} {J : List (List Nat) → HL → HL → Prop} (hN : N ≤ 6)
    (hmN : (bn, Ch.row 3 0 0 [.int .i64 (N : Int)]) ∈ X0) (hmE : (be, Ch.row 71 0 0 [.func (.func g) [].toArray vb.toArray]) ∈ X0)
    (hmP : (bp, Ch.row 71 0 0 [.func (.func 88) [].toArray [ptrT be, ptrT bn, ptrT bp].toArray]) ∈ X0)
    (hmono : ∀ zs Mc X X', J zs Mc X → (∀ q ∈ X, q ∈ X') → J zs Mc X')
    (hy : ∀ z zs Mc X u n' H', J (z :: zs) Mc X → z ≠ [] → Dis N z → LstV X u (nodes z) → (∀ q ∈ X0, q ∈ X) → hasH (Mc ++ X) n' H' → FS C g ([] ++ [u] ++ vb) H' (fun _ H2 => ∃ Mc2 X2 n2, n' ≤ n2 ∧ (∀ q ∈ X, q ∈ X2) ∧ J zs Mc2 X2 ∧ hasH (Mc2 ++ X2) n2 H2)) :
    ∀ (r : Nat) {l : List Nat} {zs : List (List Nat)} {v : Value} {Mc X : HL} {n0 : Nat} {H : Heap} (hlr : l.length + r = N) (hd : Dis N l) (hJ : J (preL N r l ++ zs) Mc X) (hl : LstV X v (nodes l)) (hX : ∀ q ∈ X0, q ∈ X) (hH : hasH (Mc ++ X) n0 H),
      FS C 88 [v, ptrT be, ptrT bn, ptrT bp] H (fun _ H2 => ∃ Mc2 X2 n2, n0 ≤ n2 ∧ (∀ q ∈ X, q ∈ X2) ∧ J zs Mc2 X2 ∧ hasH (Mc2 ++ X2) n2 H2) := by
  intro r
  induction r with
  | zero =>
    intro l zs v Mc X n0 H hlr hd hJ hl hX hH
    have hv := hl.one_
    have hSl := hl.sl.mono (M' := Mc ++ X) fun q hq => List.mem_append_right _ hq
    have mE : (be, Ch.row 71 0 0 [.func (.func g) [].toArray vb.toArray]) ∈ Mc ++ X := List.mem_append_right _ (hX _ hmE)
    have hall : ∀ k, k < N → k ∈ l := fun k hk => nodup_all hd.1 hd.2 (by omega) hk
    refine FS.intro (pf := pf88) rfl rfl rfl ?_
    repeat' (first | refine zP ?_ | refine zA ?_ | (refine zM ?_; intro _ _) | refine zX ?_ | (refine zC ?_; intro _ _ _ _) | (refine zS ?_; intro _ _) | (apply Ws <;> intro hg))
    refine WC.joinX [(0, v), (1, ptrT be), (2, ptrT bn), (3, ptrT bp)] (by repeat' (first | exact .nil | refine .cons rfl ?_)) (fun s : PX => []) (fun s H' => n0 ≤ s.n ∧ (∀ q ∈ X, q ∈ s.X) ∧ J (([] : List (List Nat)) ++ zs) s.Mc s.X ∧ hasH (s.Mc ++ s.X) s.n H') ?_ ?_
    · refine WC.condP rfl (fun hpos => ?_) (fun hpos => ?_)
      · have hne : l ≠ [] := fun e => by rw [e] at hpos; simp at hpos
        rw [show preL N 0 l = (if l = [] then [] else [l]) ++ [] by unfold preL; simp, if_neg hne, List.append_assoc] at hJ
        repeat' (first | refine zP ?_ | refine zA ?_ | (refine zM ?_; intro _ _) | refine zX ?_ | (refine zC ?_; intro _ _ _ _) | (refine zS ?_; intro _ _) | (apply Ws <;> intro hg))
        refine WR.callV (by first | exact gN | exact gS rfl) rfl rfl rfl (hy l _ Mc X v n0 _ hJ hne hd hl hX hH) ?_
        rintro _ H1 ⟨Mc1, X1, n1, hn1, hX1, hJ1, hH1⟩
        repeat' (first | refine zP ?_ | refine zA ?_ | (refine zM ?_; intro _ _) | refine zX ?_ | (refine zC ?_; intro _ _ _ _) | (refine zS ?_; intro _ _) | (apply Ws <;> intro hg))
        exact Ends.midE (α := PX) ⟨0, Mc1, X1, n1⟩ (by repeat' (first | exact .nil | refine .cons rfl ?_)) rfl ⟨hn1, hX1, hJ1, hH1⟩
      · have hne : l = [] := List.length_eq_zero_iff.1 (by omega)
        rw [show preL N 0 l = (if l = [] then [] else [l]) ++ [] by unfold preL; simp, if_pos hne, List.nil_append] at hJ
        repeat' (first | refine zP ?_ | refine zA ?_ | (refine zM ?_; intro _ _) | refine zX ?_ | (refine zC ?_; intro _ _ _ _) | (refine zS ?_; intro _ _) | (apply Ws <;> intro hg))
        exact Ends.midE (α := PX) ⟨0, Mc, X, n0⟩ (by repeat' (first | exact .nil | refine .cons rfl ?_)) rfl ⟨Nat.le_refl _, fun q hq => hq, hJ, hH⟩
    · clear hH hSl mE hJ
      rintro ⟨_, Mc1, X1, n1⟩ H1 ⟨hn1, hX1, hJ1, hH1⟩
      simp only at hn1 hX1 hJ1 hH1
      have mN : (bn, Ch.row 3 0 0 [.int .i64 (N : Int)]) ∈ Mc1 ++ X1 := List.mem_append_right _ (hX1 _ (hX _ hmN))
      dsimp only [List.cons_append, List.nil_append]
      repeat' (first | refine zP ?_ | refine zA ?_ | (refine zM ?_; intro _ _) | refine zX ?_ | (refine zC ?_; intro _ _ _ _) | (refine zS ?_; intro _ _) | (apply Ws <;> intro hg))
      clear mN
      refine WC.loopX [(0, v), (1, ptrT be), (2, ptrT bn), (3, ptrT bp), (12, .int .i64 (N : Int))] (fun s : PX => [(13, .int .i64 (s.k : Int))]) [] (fun s H' => s.k ≤ N ∧ n0 ≤ s.n ∧ (∀ q ∈ X, q ∈ s.X) ∧ J (([] : List (List Nat)) ++ zs) s.Mc s.X ∧ hasH (s.Mc ++ s.X) s.n H') (fun s => N - s.k) ⟨0, Mc1, X1, n1⟩ (by repeat' (first | exact .nil | refine .cons rfl ?_)) rfl
        ⟨Nat.zero_le _, hn1, hX1, hJ1, hH1⟩ ?_
      clear hn1 hX1 hJ1 hH1
      rintro ⟨k, Mc2, X2, n2⟩ H2 ⟨hk, hn2, hX2, hJ2, hH2⟩
      simp only at hk hn2 hX2 hJ2 hH2
      dsimp only [List.cons_append, List.nil_append]
      repeat' (first | refine zP ?_ | refine zA ?_ | (refine zM ?_; intro _ _) | refine zX ?_ | (refine zC ?_; intro _ _ _ _) | (refine zS ?_; intro _ _) | (apply Ws <;> intro hg))
      refine WC.condP rfl (fun hltk => ?_) (fun hltk => ?_)
      · have hk' : k < N := by omega
        have hl2 := hl.mono hX2
        have hSl2 : Sl (Mc2 ++ X2) 1 v (nodes l) := hl2.sl.mono fun q hq => List.mem_append_right _ hq
        have hdl := hd.len
        repeat' (first | refine zP ?_ | refine zA ?_ | (refine zM ?_; intro _ _) | refine zX ?_ | (refine zC ?_; intro _ _ _ _) | (refine zS ?_; intro _ _) | (apply Ws <;> intro hg))
        refine WR.call (by first | exact gN | exact gS rfl) rfl rfl (Contains_fs hH2 hSl2 (by omega) k) ?_
        rintro _ H3 ⟨rfl, rfl⟩
        by_cases hm : k ∈ l
        · rw [decide_eq_true hm]
          repeat' (first | refine zP ?_ | refine zA ?_ | (refine zM ?_; intro _ _) | refine zX ?_ | (refine zC ?_; intro _ _ _ _) | (refine zS ?_; intro _ _) | (apply Ws <;> intro hg))
          exact Ends.loop ⟨k + 1, Mc2, X2, n2⟩ (by simp only; omega) (by repeat' (first | exact .nil | refine .cons rfl ?_)) rfl ⟨by simp only; omega, hn2, hX2, hJ2, hH2⟩
        · exact absurd (hall k hk') hm
      · have hkl : k = N := by omega
        subst hkl
        repeat' (first | refine zP ?_ | refine zA ?_ | (refine zM ?_; intro _ _) | refine zX ?_ | (refine zC ?_; intro _ _ _ _) | (refine zS ?_; intro _ _) | (apply Ws <;> intro hg))
        exact Ends.end0 ⟨Mc2, X2, n2, hn2, hX2, by simpa using hJ2, hH2⟩
  | succ r ih =>
    intro l zs v Mc X n0 H hlr hd hJ hl hX hH
    have hv := hl.one_
    have hSl := hl.sl.mono (M' := Mc ++ X) fun q hq => List.mem_append_right _ hq
    have mE : (be, Ch.row 71 0 0 [.func (.func g) [].toArray vb.toArray]) ∈ Mc ++ X := List.mem_append_right _ (hX _ hmE)
    refine FS.intro (pf := pf88) rfl rfl rfl ?_
    repeat' (first | refine zP ?_ | refine zA ?_ | (refine zM ?_; intro _ _) | refine zX ?_ | (refine zC ?_; intro _ _ _ _) | (refine zS ?_; intro _ _) | (apply Ws <;> intro hg))
    refine WC.joinX [(0, v), (1, ptrT be), (2, ptrT bn), (3, ptrT bp)] (by repeat' (first | exact .nil | refine .cons rfl ?_)) (fun s : PX => []) (fun s H' => n0 ≤ s.n ∧ (∀ q ∈ X, q ∈ s.X) ∧ J (preK N r l 0 ++ zs) s.Mc s.X ∧ hasH (s.Mc ++ s.X) s.n H') ?_ ?_
    · refine WC.condP rfl (fun hpos => ?_) (fun hpos => ?_)
      · have hne : l ≠ [] := fun e => by rw [e] at hpos; simp at hpos
        rw [preK_zero, if_neg hne, List.append_assoc] at hJ
        repeat' (first | refine zP ?_ | refine zA ?_ | (refine zM ?_; intro _ _) | refine zX ?_ | (refine zC ?_; intro _ _ _ _) | (refine zS ?_; intro _ _) | (apply Ws <;> intro hg))
        refine WR.callV (by first | exact gN | exact gS rfl) rfl rfl rfl (hy l _ Mc X v n0 _ hJ hne hd hl hX hH) ?_
        rintro _ H1 ⟨Mc1, X1, n1, hn1, hX1, hJ1, hH1⟩
        repeat' (first | refine zP ?_ | refine zA ?_ | (refine zM ?_; intro _ _) | refine zX ?_ | (refine zC ?_; intro _ _ _ _) | (refine zS ?_; intro _ _) | (apply Ws <;> intro hg))
        exact Ends.midE (α := PX) ⟨0, Mc1, X1, n1⟩ (by repeat' (first | exact .nil | refine .cons rfl ?_)) rfl ⟨hn1, hX1, hJ1, hH1⟩
      · have hne : l = [] := List.length_eq_zero_iff.1 (by omega)
        rw [preK_zero, if_pos hne, List.nil_append] at hJ
        repeat' (first | refine zP ?_ | refine zA ?_ | (refine zM ?_; intro _ _) | refine zX ?_ | (refine zC ?_; intro _ _ _ _) | (refine zS ?_; intro _ _) | (apply Ws <;> intro hg))
        exact Ends.midE (α := PX) ⟨0, Mc, X, n0⟩ (by repeat' (first | exact .nil | refine .cons rfl ?_)) rfl ⟨Nat.le_refl _, fun q hq => hq, hJ, hH⟩
    · clear hH hSl mE hJ
      rintro ⟨_, Mc1, X1, n1⟩ H1 ⟨hn1, hX1, hJ1, hH1⟩
      simp only at hn1 hX1 hJ1 hH1
      have mN : (bn, Ch.row 3 0 0 [.int .i64 (N : Int)]) ∈ Mc1 ++ X1 := List.mem_append_right _ (hX1 _ (hX _ hmN))
      dsimp only [List.cons_append, List.nil_append]
      repeat' (first | refine zP ?_ | refine zA ?_ | (refine zM ?_; intro _ _) | refine zX ?_ | (refine zC ?_; intro _ _ _ _) | (refine zS ?_; intro _ _) | (apply Ws <;> intro hg))
      clear mN
      refine WC.loopX [(0, v), (1, ptrT be), (2, ptrT bn), (3, ptrT bp), (12, .int .i64 (N : Int))] (fun s : PX => [(13, .int .i64 (s.k : Int))]) [] (fun s H' => s.k ≤ N ∧ n0 ≤ s.n ∧ (∀ q ∈ X, q ∈ s.X) ∧ J (preK N r l s.k ++ zs) s.Mc s.X ∧ hasH (s.Mc ++ s.X) s.n H') (fun s => N - s.k) ⟨0, Mc1, X1, n1⟩ (by repeat' (first | exact .nil | refine .cons rfl ?_)) rfl
        ⟨Nat.zero_le _, hn1, hX1, hJ1, hH1⟩ ?_
      clear hn1 hX1 hJ1 hH1
      rintro ⟨k, Mc2, X2, n2⟩ H2 ⟨hk, hn2, hX2, hJ2, hH2⟩
      simp only at hk hn2 hX2 hJ2 hH2
      dsimp only [List.cons_append, List.nil_append]
      repeat' (first | refine zP ?_ | refine zA ?_ | (refine zM ?_; intro _ _) | refine zX ?_ | (refine zC ?_; intro _ _ _ _) | (refine zS ?_; intro _ _) | (apply Ws <;> intro hg))
      refine WC.condP rfl (fun hltk => ?_) (fun hltk => ?_)
      · have hk' : k < N := by omega
        have hl2 := hl.mono hX2
        have hSl2 : Sl (Mc2 ++ X2) 1 v (nodes l) := hl2.sl.mono fun q hq => List.mem_append_right _ hq
        have hdl := hd.len
        repeat' (first | refine zP ?_ | refine zA ?_ | (refine zM ?_; intro _ _) | refine zX ?_ | (refine zC ?_; intro _ _ _ _) | (refine zS ?_; intro _ _) | (apply Ws <;> intro hg))
        refine WR.call (by first | exact gN | exact gS rfl) rfl rfl (Contains_fs hH2 hSl2 (by omega) k) ?_
        rintro _ H3 ⟨rfl, rfl⟩
        by_cases hm : k ∈ l
        · rw [decide_eq_true hm]
          repeat' (first | refine zP ?_ | refine zA ?_ | (refine zM ?_; intro _ _) | refine zX ?_ | (refine zC ?_; intro _ _ _ _) | (refine zS ?_; intro _ _) | (apply Ws <;> intro hg))
          exact Ends.loop ⟨k + 1, Mc2, X2, n2⟩ (by simp only; omega) (by repeat' (first | exact .nil | refine .cons rfl ?_)) rfl ⟨by simp only; omega, hn2, hX2, by simp only; rw [← preK_out hk' hm]; exact hJ2, hH2⟩
        · rw [decide_eq_false hm]
          rw [preK_in hk' hm, List.append_assoc] at hJ2
          have mP : (bp, Ch.row 71 0 0 [.func (.func 88) [].toArray [ptrT be, ptrT bn, ptrT bp].toArray]) ∈ Mc2 ++ X2 := List.mem_append_right _ (hX2 _ (hX _ hmP))
          repeat' (first | refine zP ?_ | refine zA ?_ | (refine zM ?_; intro _ _) | refine zX ?_ | (refine zC ?_; intro _ _ _ _) | (refine zS ?_; intro _ _) | (apply Ws <;> intro hg))
          refine WC.regionD ?_
          refine WD.load1 (by first | exact gN | exact gS rfl) rfl rfl (hH2.read mP (.row _ _ _ _) (Nat.zero_le _) rfl) ?_
          repeat' (first | refine zD ?_ | (refine zE ?_; intro _ _ _ _))
          have hone : (nodes l).all one = true := nodes_one' l
          have hnl : (nodes l).length = l.length := by simp
          have hst : ∀ {Y : HL} {n' : Nat} {H' : Heap}, hasH Y n' H' → (bp, Ch.row 71 0 0 [.func (.func 88) [].toArray [ptrT be, ptrT bn, ptrT bp].toArray]) ∈ Y → stands H' [0] [⟨0, ⟨bp, 0, some 0⟩, none, .func (.func 88) [].toArray [ptrT be, ptrT bn, ptrT bp].toArray⟩] = true := fun h hm =>
            stands_cons (.inr (holds_at (h.read hm (.row _ _ _ _) (Nat.zero_le _) rfl) (same_fn _ [⟨be, 0, some 0⟩, ⟨bn, 0, some 0⟩, ⟨bp, 0, some 0⟩]))) stands_nil'
          refine WD.call (by first | exact gN | exact gS rfl) rfl rfl (Clip_fs hH2 (hl2.mono fun q hq => List.mem_append_right _ hq) (by omega)) ?_
          rintro v3 _ ⟨hCV, rfl⟩
          refine ⟨hst hH2 mP, ?_⟩
          refine WD.bldS (by first | exact gN | exact gS rfl) rfl hH2 (vs := [(0, .int .i64 (k : Int))]) rfl (cs := [.int .i64 (k : Int)]) (by rfl) rfl (fun H3 hH3 => hst hH3 (List.mem_cons_of_mem _ mP)) fun H3 hH3 => ?_
          refine WD.appFull (by first | exact gN | exact gS rfl) rfl hH3 rfl (hCV.mono fun q hq => List.mem_cons_of_mem _ hq) rfl (.head _) hone rfl (by omega) fun H4 hH4 => ⟨hst hH4 (List.mem_cons_of_mem _ (List.mem_cons_of_mem _ mP)), ?_⟩
          refine WD.toWR rfl ?_
          have hns : nodes l ++ [Value.int .i64 (k : Int)] = nodes (l ++ [k]) := by simp [nodes]
          rw [hns] at hH4
          rw [hnl]
          have hH5 : hasH (Mc2 ++ ((n2 + 1, Ch.row 3 0 0 (nodes (l ++ [k]))) :: (n2, .row 3 0 0 [.int .i64 (k : Int)]) :: X2)) (n2 + 1 + 1) H4 := hH4.perm (by
            refine List.Perm.symm (List.Perm.trans List.perm_middle (.cons _ List.perm_middle)))
          have hlN2 : LstV ((n2 + 1, Ch.row 3 0 0 (nodes (l ++ [k]))) :: (n2, .row 3 0 0 [.int .i64 (k : Int)]) :: X2) (.slice (some ⟨n2 + 1, 0, some 0⟩) (l.length + 1) (2 * 1)) (nodes (l ++ [k])) := by
            refine .inr ⟨by simp [nodes], n2 + 1, 0, 0, 2 * 1, by simp, ⟨_, 0, nodes (l ++ [k]), .head _, .row _ _ _ _, Nat.le_refl _, by simp, ?_⟩, .inl rfl⟩
            rw [Nat.sub_zero, List.drop_zero, List.take_length]
          have hJ3 := hmono _ _ _ ((n2 + 1, Ch.row 3 0 0 (nodes (l ++ [k]))) :: (n2, .row 3 0 0 [.int .i64 (k : Int)]) :: X2) hJ2 fun q hq => .tail _ (.tail _ hq)
          refine WR.callV (by first | exact gN | exact gS rfl) rfl rfl rfl (ih (l := l ++ [k]) (by simp; omega) (hd.snoc hk' hm) hJ3 hlN2 (fun q hq => .tail _ (.tail _ (hX2 _ (hX _ hq)))) hH5) ?_
          rintro _ H6 ⟨Mc6, X6, n6, hn6, hX6, hJ6, hH6⟩
          repeat' (first | refine zP ?_ | refine zA ?_ | (refine zM ?_; intro _ _) | refine zX ?_ | (refine zC ?_; intro _ _ _ _) | (refine zS ?_; intro _ _) | (apply Ws <;> intro hg))
          exact Ends.loop ⟨k + 1, Mc6, X6, n6⟩ (by simp only; omega) (by repeat' (first | exact .nil | refine .cons rfl ?_)) rfl ⟨by simp only; omega, by simp only; omega, fun q hq => hX6 _ (.tail _ (.tail _ (hX2 _ hq))), hJ6, hH6⟩
      · have hkl : k = N := by omega
        subst hkl
        repeat' (first | refine zP ?_ | refine zA ?_ | (refine zM ?_; intro _ _) | refine zX ?_ | (refine zC ?_; intro _ _ _ _) | (refine zS ?_; intro _ _) | (apply Ws <;> intro hg))
        exact Ends.end0 ⟨Mc2, X2, n2, hn2, hX2, (by rw [preK_end, List.nil_append] at hJ2; exact hJ2), hH2⟩
end
end Go.Proofs.Yteopjpfhhekkoaa.Tt

/- all; TasteRanked. -/
namespace Go.Proofs.Yteopjpfhhekkoaa.Tt
open Go Go.Abs Go.Mth
set_option linter.unusedVariables false
set_option linter.unusedSimpArgs false
def chB (D : Nat → Nat → Int) (l : List Nat) : Bool := (List.range (l.length - 1)).all fun j => decide (0 ≤ D (l.getD j 0) (l.getD (j + 1) 0))
theorem chB_iff {D : Nat → Nat → Int} {l : List Nat} : chB D l = true ↔ ∀ j, j + 1 < l.length → 0 ≤ D (l.getD j 0) (l.getD (j + 1) 0) := by
  simp only [chB, List.all_eq_true, List.mem_range, decide_eq_true_eq]
  exact ⟨fun h j hj => h j (by omega), fun h j hj => h j (by omega)⟩
theorem chain_iff {D : Nat → Nat → Int} {n : Nat} {l : List Nat} : Chain (gD D) n l ↔ l ≠ [] ∧ Dis n l ∧ chB D l = true := by
  rw [chB_iff]
  constructor
  · rintro ⟨h1, h2, h3, h4⟩; exact ⟨h1, ⟨h3, h2⟩, fun j hj => gD_iff.1 (h4 j hj)⟩
  · rintro ⟨h1, ⟨h3, h2⟩, h4⟩; exact ⟨h1, h2, h3, fun j hj => gD_iff.2 (h4 j hj)⟩
def fromTo (l : List Nat) (a b : Nat) : Bool := decide (l.getD 0 0 = a) && decide (l.getD (l.length - 1) 0 = b)
theorem fromTo_iff {l : List Nat} {a b : Nat} : fromTo l a b = true ↔ l.getD 0 0 = a ∧ l.getD (l.length - 1) 0 = b := by
  simp only [fromTo, Bool.and_eq_true, decide_eq_true_eq]
attribute [local irreducible] gOK WS WC WR WD Ends FS YS OpV seqK blockK loopK midK retK rdK asgK rangeEnd sat Cell
section
variable {M : HL} {n0 : Nat} {H : Heap} {v w : Value}
theorem all_fs {N : Nat} {g : FuncId} {vb : List Value} {J : List (List Nat) → HL → HL → Prop} (hN : N ≤ 6) {Mc X : HL} (hH : hasH (Mc ++ X) n0 H) (hJ : J (preL N N []) Mc X) (hmono : ∀ zs Mc X X', J zs Mc X → (∀ q ∈ X, q ∈ X') → J zs Mc X')
    (hy : ∀ z zs Mc X' u n' H', J (z :: zs) Mc X' → z ≠ [] → Dis N z → LstV X' u (nodes z) → (∀ q ∈ X, q ∈ X') → hasH (Mc ++ X') n' H' → FS C g ([] ++ [u] ++ vb) H' (fun _ H2 => ∃ Mc2 X2 n2, n' ≤ n2 ∧ (∀ q ∈ X', q ∈ X2) ∧ J zs Mc2 X2 ∧ hasH (Mc2 ++ X2) n2 H2)) :
    FS C 47 [.int .i64 (N : Int), .func (.func g) [].toArray vb.toArray] H (fun _ H2 => ∃ Mc2 X2 n2, n0 ≤ n2 ∧ (∀ q ∈ X, q ∈ X2) ∧ J [] Mc2 X2 ∧ hasH (Mc2 ++ X2) n2 H2) := by
  refine FS.intro (pf := pf47) rfl rfl rfl ?_
  repeat' (first | refine zP ?_ | refine zA ?_ | (refine zM ?_; intro _ _) | refine zX ?_ | (refine zC ?_; intro _ _ _ _) | (refine zS ?_; intro _ _) | (apply Ws <;> intro hg))
  rename_i H1 hH1 H2 hH2 H3 hH3 H4 hH4
  have hH5 : hasH (Mc ++ ((n0 + 1 + 1, Ch.row 71 0 0 [.func (.func 88) [].toArray [ptrT (n0 + 1), ptrT n0, ptrT (n0 + 1 + 1)].toArray]) :: (n0 + 1, Ch.row 71 0 0 [.func (.func g) [].toArray vb.toArray]) :: (n0, Ch.row 3 0 0 [.int .i64 (N : Int)]) :: X)) (n0 + 1 + 1 + 1) H4 := hH4.perm (by
    refine List.Perm.symm (List.Perm.trans List.perm_middle (.cons _ (List.Perm.trans List.perm_middle (.cons _ List.perm_middle)))))
  have hJ2 := hmono _ _ _ ((n0 + 1 + 1, Ch.row 71 0 0 [.func (.func 88) [].toArray [ptrT (n0 + 1), ptrT n0, ptrT (n0 + 1 + 1)].toArray]) :: (n0 + 1, Ch.row 71 0 0 [.func (.func g) [].toArray vb.toArray]) :: (n0, Ch.row 3 0 0 [.int .i64 (N : Int)]) :: X) hJ fun q hq => .tail _ (.tail _ (.tail _ hq))
  refine WR.callV (by first | exact gN | exact gS rfl) rfl rfl rfl (put_fs (bn := n0) (be := n0 + 1) (bp := n0 + 1 + 1) (N := N) (g := g) (vb := vb) hN (.tail _ (.tail _ (.head _))) (.tail _ (.head _)) (.head _) hmono
    (fun z zs Mc X' u n' H' k1 k2 k3 k4 k5 k6 => hy z zs Mc X' u n' H' k1 k2 k3 k4 (fun q hq => k5 _ (.tail _ (.tail _ (.tail _ hq)))) k6) N (l := []) (zs := []) (by simp) ⟨List.nodup_nil, fun x hx => by cases hx⟩ (by rw [List.append_nil]; exact hJ2) (.inl ⟨rfl, rfl⟩) (fun q hq => hq) hH5) ?_
  rintro _ H6 ⟨Mc6, X6, n6, hn6, hX6, hJ6, hH6⟩
  repeat' (first | refine zP ?_ | refine zA ?_ | (refine zM ?_; intro _ _) | refine zX ?_ | (refine zC ?_; intro _ _ _ _) | (refine zS ?_; intro _ _) | (apply Ws <;> intro hg))
  exact Ends.end0 ⟨Mc6, X6, n6, by omega, fun q hq => hX6 _ (.tail _ (.tail _ (.tail _ hq))), hJ6, hH6⟩
end
end Go.Proofs.Yteopjpfhhekkoaa.Tt

/- The fewest sales that have to be left out. -/
namespace Go.Proofs.Yteopjpfhhekkoaa.Tt
open Go Go.Abs Go.Mth
set_option linter.unusedVariables false
set_option linter.unusedSimpArgs false
def outK (s k : Nat) : List Nat := (List.range k).filter fun i => s.testBit i
def keepK (s k : Nat) : List Nat := (List.range k).filter fun i => !s.testBit i
theorem outK_len (s k : Nat) : (outK s k).length ≤ k := Nat.le_trans (List.length_filter_le _ _) (by simp)
theorem outK_lt {s k : Nat} : ∀ x ∈ outK s k, x < k := fun x hx => List.mem_range.1 (List.mem_filter.1 hx).1
theorem mem_keepK {s k x : Nat} : x ∈ keepK s k ↔ x < k ∧ s.testBit x = false := by simp [keepK]
def pickR (P : List (List Int)) (K : List Nat) (a : Nat) : List Int := K.map fun b => (P.getD a []).getD b 0
def pickP (P : List (List Int)) (K : List Nat) : List (List Int) := K.map (pickR P K)
theorem pickR_len (P : List (List Int)) (K : List Nat) (a : Nat) : (pickR P K a).length = K.length := by simp [pickR]
theorem pickP_len (P : List (List Int)) (K : List Nat) : (pickP P K).length = K.length := by simp [pickP]
theorem pickP_get {P : List (List Int)} {K : List Nat} {i : Nat} (h : i < K.length) : (pickP P K).getD i [] = pickR P K (K.getD i 0) := by
  rw [getD_eq (by rw [pickP_len]; exact h), getD_eq h]; simp [pickP]
theorem pickR_get {P : List (List Int)} {K : List Nat} {a j : Nat} (h : j < K.length) : (pickR P K a).getD j 0 = (P.getD a []).getD (K.getD j 0) 0 := by
  rw [getD_eq (by rw [pickR_len]; exact h), getD_eq h]; simp [pickR]
theorem SqP.pick {P : List (List Int)} {K : List Nat} (h : SqP P) (hK : K.length ≤ 6) : SqP (pickP P K) := by
  refine ⟨by rw [pickP_len]; exact hK, fun i hi => ?_, fun i j => ?_⟩
  · rw [pickP_len] at hi ⊢; rw [pickP_get hi, pickR_len]
  · by_cases hi : i < K.length
    · rw [pickP_get hi]
      by_cases hj : j < K.length
      · rw [pickR_get hj]; exact h.bd _ _
      · rw [List.getD_eq_getElem?_getD (l := pickR _ _ _), List.getElem?_eq_none (by rw [pickR_len]; omega)]; decide
    · rw [List.getD_eq_getElem?_getD (l := pickP P K), List.getElem?_eq_none (by rw [pickP_len]; omega)]; simp
def pickS (S : List Sal) (K : List Nat) : List Sal := K.map fun i => S.getD i noSal
theorem pickS_len (S : List Sal) (K : List Nat) : (pickS S K).length = K.length := by simp [pickS]
theorem pickS_get {S : List Sal} {K : List Nat} {i : Nat} (h : i < K.length) : (pickS S K).getD i noSal = S.getD (K.getD i 0) noSal := by
  rw [getD_eq (by rw [pickS_len]; exact h), getD_eq h]; simp [pickS]
theorem OKS.pick {g : Nat} {S : List Sal} {K : List Nat} (h : OKS g S) (hK : ∀ x ∈ K, x < S.length) (hl : K.length ≤ 6) : OKS g (pickS S K) := by
  have key : ∀ i, i < (pickS S K).length → (pickS S K).getD i noSal = S.getD (K.getD i 0) noSal ∧ K.getD i 0 < S.length := fun i hi => by
    rw [pickS_len] at hi
    exact ⟨pickS_get hi, hK _ (getD_mem hi)⟩
  refine ⟨h.g1, h.g3, by rw [pickS_len]; exact hl, fun i hi => ?_, fun i hi => ?_, fun i hi => ?_, fun i hi => ?_⟩ <;> obtain ⟨k1, k2⟩ := key i hi <;> rw [k1]
  · exact h.lp _ k2
  · exact h.lt _ k2
  · exact h.bp _ k2
  · exact h.bt _ k2
def okW (P : List (List Int)) (s : Nat) : Bool := tasteB (pickP P (keepK s P.length))
def WrongP (P : List (List Int)) (l : List Nat) : Prop := ∃ s, s < 2 ^ P.length ∧ okW P s = true ∧ l = outK s P.length
def BestW (P : List (List Int)) (l : List Nat) : Prop := LeastP (WrongP P) l
structure WInv (P : List (List Int)) (k : Nat) (l : List Nat) : Prop where
  is : WrongP P l
  no : ∀ s, s < k → okW P s = true → ¬ ordN (outK s P.length) l
theorem ordN_trans_not {a b c : List Nat} (h : ordN a b) (k : ¬ ordN c b) : ¬ ordN c a := by
  intro q
  apply k
  rcases q with q | ⟨q1, q2⟩ <;> rcases h with h | ⟨h1, h2⟩
  · exact .inl (by omega)
  · exact .inl (by omega)
  · exact .inl (by omega)
  · refine .inr ⟨by omega, ?_⟩
    rw [← lexN_C] at q2 h2 ⊢
    exact lex_trans _ _ _ q2 h2
theorem full_all {n : Nat} : ∀ i, i < n → (2 ^ n - 1).testBit i = true := fun i hi => by
  rw [Nat.testBit_two_pow_sub_one]; simpa using hi
theorem keep_full (n : Nat) : keepK (2 ^ n - 1) n = [] := by
  rw [List.eq_nil_iff_forall_not_mem]
  intro x hx
  obtain ⟨h1, h2⟩ := mem_keepK.1 hx
  rw [full_all x h1] at h2; cases h2
theorem WInv.zero (P : List (List Int)) : WInv P 0 (outK (2 ^ P.length - 1) P.length) :=
  ⟨⟨_, Nat.sub_lt (Nat.two_pow_pos _) (by omega), by rw [okW, keep_full]; rfl, rfl⟩, fun s h => absurd h (Nat.not_lt_zero _)⟩
theorem WInv.take {P : List (List Int)} {k : Nat} {l : List Nat} (h : WInv P k l) (hk : k < 2 ^ P.length) (hok : okW P k = true) (ho : ordN (outK k P.length) l) : WInv P (k + 1) (outK k P.length) := by
  refine ⟨⟨k, hk, hok, rfl⟩, fun s hs hsk => ?_⟩
  by_cases e : s = k
  · rw [e]; exact ordN_irr _
  · exact ordN_trans_not ho (h.no s (by omega) hsk)
theorem WInv.skip {P : List (List Int)} {k : Nat} {l : List Nat} (h : WInv P k l) (ho : ¬ (okW P k = true ∧ ordN (outK k P.length) l)) : WInv P (k + 1) l := by
  refine ⟨h.is, fun s hs hsk => ?_⟩
  by_cases e : s = k
  · rw [e] at hsk ⊢; exact fun q => ho ⟨hsk, q⟩
  · exact h.no s (by omega) hsk
theorem out_ge {P : List (List Int)} {l : List Nat} (h : WrongP P l) : ¬ ordN (outK (2 ^ P.length - 1) P.length) l := by
  obtain ⟨s, hs, _, rfl⟩ := h
  have hfull : outK (2 ^ P.length - 1) P.length = List.range P.length := List.filter_eq_self.2 fun x hx => full_all x (List.mem_range.1 hx)
  rw [hfull]
  intro q
  have hle := outK_len s P.length
  rcases q with q | ⟨q1, q2⟩
  · rw [List.length_range] at q; omega
  · rw [List.length_range] at q1
    have : outK s P.length = List.range P.length := by
      have hsub : (outK s P.length).Sublist (List.range P.length) := List.filter_sublist
      exact hsub.eq_of_length (by rw [List.length_range]; omega)
    rw [this] at q2
    exact lexN_irr _ q2
theorem WInv.fin {P : List (List Int)} {l : List Nat} (h : WInv P (2 ^ P.length - 1) l) : BestW P l := by
  refine ⟨h.is, fun m ⟨s, hs, hok, hm⟩ => ?_⟩
  by_cases e : s = 2 ^ P.length - 1
  · rw [hm, e]; exact out_ge h.is
  · rw [hm]; exact h.no s (by omega) hok
theorem WInv.fin' {P : List (List Int)} {l : List Nat} (h : WInv P (2 ^ P.length) l) : BestW P l :=
  ⟨h.is, fun m ⟨s, hs, hok, hm⟩ => by rw [hm]; exact h.no s hs hok⟩
theorem WrongP.len {P : List (List Int)} {l : List Nat} (h : WrongP P l) : l.length ≤ P.length ∧ ∀ x ∈ l, x < P.length := by
  obtain ⟨s, _, _, rfl⟩ := h
  exact ⟨outK_len _ _, outK_lt⟩
end Go.Proofs.Yteopjpfhhekkoaa.Tt

/- divide, only, isBefore, wrong, Wrong. -/
namespace Go.Proofs.Yteopjpfhhekkoaa.Tt
open Go Go.Abs Go.Mth
set_option linter.unusedVariables false
set_option linter.unusedSimpArgs false
attribute [local irreducible] gOK WS WC WR WD Ends FS YS OpV seqK blockK loopK midK retK rdK asgK rangeEnd sat Cell
section
variable {M : HL} {n0 : Nat} {H : Heap} {v w : Value}
def WrongOut (M : HL) (g : Int) (S : List Sal) (e : Value) : Prop := ∃ u, e = .tuple #[u, .int .i64 (errS g S)] ∧ one u = true ∧ ((errS g S = 0 ∧ ∃ l, BestW (matS S) l ∧ Sl M 1 u (nodes l)) ∨ (errS g S ≠ 0 ∧ u = .slice none 0 0))
theorem WrongOut.ok {M : HL} {g : Nat} {S : List Sal} {e : Value} (hok : OKS g S) (h : WrongOut M g S e) : ∃ u l, one u = true ∧ BestW (matS S) l ∧ Sl M 1 u (nodes l) ∧ e = .tuple #[u, .int .i64 0] := by
  obtain ⟨u, he, hu, ⟨_, l, k1, k2⟩ | ⟨k1, _⟩⟩ := h
  · rw [err0 hok] at he; exact ⟨u, l, hu, k1, k2, he⟩
  · exact absurd (err0 hok) k1
end
end Go.Proofs.Yteopjpfhhekkoaa.Tt

/- TasteLeft. -/
namespace Go.Proofs.Yteopjpfhhekkoaa.Tt
open Go Go.Abs Go.Mth
set_option linter.unusedVariables false
set_option linter.unusedSimpArgs false
def LInv (P : List (List Int)) (k : Nat) (f : Bool) (l : List Nat) : Prop := (f = false ∧ l = [] ∧ ∀ s, s < k → okW P s = false) ∨ (f = true ∧ WInv P k l)
theorem LInv.skip {P : List (List Int)} {k : Nat} {f : Bool} {l : List Nat} (h : LInv P k f l) (hok : okW P k = false) : LInv P (k + 1) f l := by
  rcases h with ⟨h1, h2, h3⟩ | ⟨h1, h2⟩
  · refine .inl ⟨h1, h2, fun s hs => ?_⟩
    by_cases e : s = k
    · rw [e]; exact hok
    · exact h3 s (by omega)
  · exact .inr ⟨h1, h2.skip fun q => by rw [hok] at q; cases q.1⟩
theorem LInv.first {P : List (List Int)} {k : Nat} {l : List Nat} (h : LInv P k false l) (hk : k < 2 ^ P.length) (hok : okW P k = true) : LInv P (k + 1) true (outK k P.length) := by
  rcases h with ⟨_, _, h3⟩ | ⟨h1, _⟩
  · refine .inr ⟨rfl, ⟨k, hk, hok, rfl⟩, fun s hs hsk => ?_⟩
    by_cases e : s = k
    · rw [e]; exact ordN_irr _
    · rw [h3 s (by omega)] at hsk; cases hsk
  · cases h1
theorem LInv.take {P : List (List Int)} {k : Nat} {l : List Nat} (h : LInv P k true l) (hk : k < 2 ^ P.length) (hok : okW P k = true) (ho : ordN (outK k P.length) l) : LInv P (k + 1) true (outK k P.length) := by
  rcases h with ⟨h1, _⟩ | ⟨_, h2⟩
  · cases h1
  · exact .inr ⟨rfl, h2.take hk hok ho⟩
theorem LInv.keep {P : List (List Int)} {k : Nat} {l : List Nat} (h : LInv P k true l) (ho : ¬ ordN (outK k P.length) l) : LInv P (k + 1) true l := by
  rcases h with ⟨h1, _⟩ | ⟨_, h2⟩
  · cases h1
  · exact .inr ⟨rfl, h2.skip fun q => ho q.2⟩
theorem LInv.fin {P : List (List Int)} {f : Bool} {l : List Nat} (h : LInv P (2 ^ P.length) f l) : BestW P l := by
  rcases h with ⟨_, _, h3⟩ | ⟨_, h2⟩
  · have := h3 (2 ^ P.length - 1) (Nat.sub_lt (Nat.two_pow_pos _) (by omega))
    rw [okW, keep_full] at this; cases this
  · exact h2.fin'
theorem LInv.len {P : List (List Int)} {k : Nat} {f : Bool} {l : List Nat} (h : LInv P k f l) : l.length ≤ P.length := by
  rcases h with ⟨_, rfl, _⟩ | ⟨_, h⟩
  · exact Nat.zero_le _
  · exact h.is.len.1
theorem BestW.unique {P : List (List Int)} {l m : List Nat} (h : BestW P l) (k : BestW P m) : l = m := LeastP.unique h k
end Go.Proofs.Yteopjpfhhekkoaa.Tt

/- Proves; TasteRinged's closure. -/
namespace Go.Proofs.Yteopjpfhhekkoaa.Tt
open Go Go.Abs Go.Mth
set_option linter.unusedVariables false
set_option linter.unusedSimpArgs false
theorem flatB_len {α β : Type} {f : α → List β} {B : Nat} : ∀ {xs : List α}, (∀ x ∈ xs, (f x).length ≤ B) → (xs.flatMap f).length ≤ xs.length * B
  | [], _ => by simp
  | x :: xs, h => by
    have h1 := h x (.head _)
    have h2 := flatB_len (f := f) (B := B) (xs := xs) fun y hy => h y (.tail _ hy)
    rw [List.flatMap_cons, List.length_append, List.length_cons, Nat.succ_mul]; omega
theorem clos_chain {D : Nat → Nat → Int} {n : Nat} {l : List Nat} (h0 : l ≠ []) (hd : Dis n l) (h : closB D l = true) : Chain (gD D) n l := by
  refine chain_iff.2 ⟨h0, hd, chB_iff.2 fun j hj => ?_⟩
  have h1 : cycB D l = true := by unfold closB at h; exact (Bool.and_eq_true _ _ ▸ h).1
  have h2 := List.all_eq_true.1 h1 j (List.mem_range.2 (by omega))
  rw [Bool.and_eq_true, decide_eq_true_eq, decide_eq_true_eq] at h2
  have h3 : nxtE l j = l.getD (j + 1) 0 := by unfold nxtE; rw [Nat.mod_eq_of_lt hj]
  rw [h3] at h2; exact h2.2
def BestK (D : Nat → Nat → Int) (ds : List (List Nat)) : Option (List Nat) → Prop
  | none => ∀ d ∈ ds, ¬ closL D d
  | some m => m ∈ ds ∧ closL D m ∧ ∀ d ∈ ds, closL D d → ¬ ordN d m
theorem BestK.skip {D : Nat → Nat → Int} {ds : List (List Nat)} {z : List Nat} {bo : Option (List Nat)} (h : BestK D ds bo) (hz : ¬ closL D z) : BestK D (ds ++ [z]) bo := by
  cases bo with
  | none =>
    intro d hd
    rcases List.mem_append.1 hd with hd | hd
    · exact h d hd
    · rw [List.mem_singleton.1 hd]; exact hz
  | some m =>
    refine ⟨List.mem_append_left _ h.1, h.2.1, fun d hd hc => ?_⟩
    rcases List.mem_append.1 hd with hd | hd
    · exact h.2.2 d hd hc
    · rw [List.mem_singleton.1 hd] at hc; exact absurd hc hz
theorem BestK.first {D : Nat → Nat → Int} {ds : List (List Nat)} {z : List Nat} (h : BestK D ds none) (hz : closL D z) : BestK D (ds ++ [z]) (some z) := by
  refine ⟨by simp, hz, fun d hd hc => ?_⟩
  rcases List.mem_append.1 hd with hd | hd
  · exact absurd hc (h d hd)
  · rw [List.mem_singleton.1 hd]; exact ordN_irr _
theorem BestK.up {D : Nat → Nat → Int} {ds : List (List Nat)} {z m : List Nat} (h : BestK D ds (some m)) (hz : closL D z) (ho : ordN z m) : BestK D (ds ++ [z]) (some z) := by
  refine ⟨by simp, hz, fun d hd hc => ?_⟩
  rcases List.mem_append.1 hd with hd | hd
  · exact ordN_trans_not ho (h.2.2 d hd hc)
  · rw [List.mem_singleton.1 hd]; exact ordN_irr _
theorem BestK.stay {D : Nat → Nat → Int} {ds : List (List Nat)} {z m : List Nat} (h : BestK D ds (some m)) (ho : ¬ ordN z m) : BestK D (ds ++ [z]) (some m) := by
  refine ⟨List.mem_append_left _ h.1, h.2.1, fun d hd hc => ?_⟩
  rcases List.mem_append.1 hd with hd | hd
  · exact h.2.2 d hd hc
  · rw [List.mem_singleton.1 hd]; exact ho
theorem BestK.all {P : List (List Int)} {n : Nat} (hn : P.length = n) {bo : Option (List Nat)} (h : BestK (DP P) (preL n n []) bo) : firstRing P = bo := by
  subst hn
  have hk : ∀ m, (Chain (gD (DP P)) P.length m ∧ closB (DP P) m = true) ↔ (m ∈ preL P.length P.length [] ∧ closL (DP P) m) := fun m => by
    rw [mem_pre]
    exact ⟨fun ⟨k1, k2⟩ => ⟨⟨(chain_iff.1 k1).1, (chain_iff.1 k1).2.1⟩, (chain_iff.1 k1).2.1.1, k2⟩, fun ⟨⟨k1, k2⟩, k3⟩ => ⟨clos_chain k1 k2 k3.2, k3.2⟩⟩
  cases hf : firstRing P with
  | none =>
    cases bo with
    | none => rfl
    | some m =>
      have := List.find?_eq_none.1 hf m (mem_allC.2 ((hk m).2 ⟨h.1, h.2.1⟩).1)
      exact absurd ((hk m).2 ⟨h.1, h.2.1⟩).2 this
  | some z =>
    have hz := firstRing_least hf
    cases bo with
    | none => exact absurd ((hk z).1 hz.1).2 (h z ((hk z).1 hz.1).1)
    | some m =>
      have hm : LeastP (fun m => Chain (gD (DP P)) P.length m ∧ closB (DP P) m = true) m := ⟨(hk m).2 ⟨h.1, h.2.1⟩, fun d hd => h.2.2 d ((hk d).1 hd).1 ((hk d).1 hd).2⟩
      rw [LeastP.unique hz hm]
attribute [local irreducible] gOK WS WC WR WD Ends FS YS OpV seqK blockK loopK midK retK rdK asgK rangeEnd sat Cell
section
variable {M : HL} {n0 : Nat} {H : Heap} {v w u : Value}
theorem isIndex_fs (hH : hasH M n0 H) {S : List Sal} (hS : SalesI M v S) (a : Int) :
    FS C 79 [.int .i64 a, v] H (fun e H' => H' = H ∧ e = .bool (decide (0 ≤ a ∧ a < (S.length : Int)))) := by
  obtain ⟨ws0, hV0, hwl0, hrow0⟩ := hS.at
  refine FS.intro (pf := pf79) rfl rfl rfl ?_
  repeat' (first | refine zP ?_ | refine zA ?_ | (refine zM ?_; intro _ _) | refine zX ?_ | (refine zC ?_; intro _ _ _ _) | (refine zS ?_; intro _ _))
  by_cases h1 : 0 ≤ a
  · repeat' (first | refine zP ?_ | refine zA ?_ | (refine zM ?_; intro _ _) | refine zX ?_ | (refine zC ?_; intro _ _ _ _) | (refine zS ?_; intro _ _) | refine zO ?_ | (apply Ws <;> intro hg))
    refine WR.op (by first | exact gN | exact gS rfl) rfl (OpV.lenK pairV_len (by decide) rfl hV0) ?_
    rw [hwl0]
    repeat' (first | refine zP ?_ | refine zA ?_ | (refine zM ?_; intro _ _) | refine zX ?_ | (refine zC ?_; intro _ _ _ _) | (refine zS ?_; intro _ _) | (apply Ws <;> intro hg))
    exact Ends.ret1 rfl ⟨rfl, by congr 1; rw [decide_eq_decide]; exact ⟨fun h => ⟨h1, h⟩, fun h => h.2⟩⟩
  · repeat' (first | refine zP ?_ | refine zA ?_ | (refine zM ?_; intro _ _) | refine zX ?_ | (refine zC ?_; intro _ _ _ _) | (refine zS ?_; intro _ _) | refine zO ?_ | (apply Ws <;> intro hg))
    exact Ends.ret1 rfl ⟨rfl, by rw [decide_eq_false fun h => h1 h.1]⟩
end
end Go.Proofs.Yteopjpfhhekkoaa.Tt

/- TasteRinged's closure. -/
namespace Go.Proofs.Yteopjpfhhekkoaa.Tt
open Go Go.Abs Go.Mth
set_option linter.unusedVariables false
set_option linter.unusedSimpArgs false
def OptV (M : HL) (v : Value) : Option (List Nat) → Prop
  | none => v = .slice none 0 0
  | some m => m ≠ [] ∧ LstV M v (nodes m)
theorem OptV.mono {M M' : HL} {v : Value} {bo : Option (List Nat)} (h : OptV M v bo) (k : ∀ q ∈ M, q ∈ M') : OptV M' v bo := by
  cases bo with
  | none => exact h
  | some m => exact ⟨h.1, h.2.mono k⟩
theorem OptV.one_ {M : HL} {v : Value} {bo : Option (List Nat)} (h : OptV M v bo) : one v = true := by
  cases bo with
  | none => rw [show v = .slice none 0 0 from h]; rfl
  | some m => exact h.2.one_
theorem OptV.shape {M : HL} {v : Value} {m : List Nat} (h : OptV M v (some m)) : ∃ b o u c, v = .slice (some ⟨b, o, some u⟩) m.length c ∧ Sl M 1 v (nodes m) := by
  have hs := h.2.sl
  rcases h.2 with ⟨h0, _⟩ | ⟨_, b, o, u, cap, rfl, _⟩
  · exact absurd (by simpa [nodes] using h0) h.1
  · exact ⟨b, o, u, cap, by simp [nodes], hs⟩
attribute [local irreducible] gOK WS WC WR WD Ends FS YS OpV seqK blockK loopK midK retK rdK asgK rangeEnd sat Cell
section
variable {M : HL} {n0 : Nat} {H : Heap} {v w u : Value}
end
end Go.Proofs.Yteopjpfhhekkoaa.Tt

/- Pairs of sales; Cost, Shows, Better. -/
namespace Go.Proofs.Yteopjpfhhekkoaa.Tt
open Go Go.Abs Go.Mth
set_option linter.unusedVariables false
set_option linter.unusedSimpArgs false
theorem equal_k {P : Program} {e : TypeId} {k : IntKind} (h : P.underlying e = some (.int k)) (a b : Int) (d : Nat) : pureRun P (Op.equalIn (d + 1) e (.int k a) (.int k b)) = some (a == b) := by
  unfold Op.equalIn
  simp only [pureRun_bind, pureRun_underlying P h, Option.bind_some]
  cases k <;> rfl
theorem eqArr (a b c d : Int) (k : Nat) : pureRun C.c.P (Op.equalIn (k + 1 + 1) 76 (.agg #[.int .i64 a, .int .i64 b]) (.agg #[.int .i64 c, .int .i64 d])) = some (a == c && b == d) := by
  have hu : C.c.P.underlying 76 = some (.array 2 3) := by kernel_rfl
  have hz : pureRun C.c.P (sizeOf 3) = some 1 := by kernel_rfl
  have hp0 : ∀ x y : Int, pureRun C.c.P (part 3 #[.int .i64 x, .int .i64 y] 0) = some (.int .i64 x) := fun x y => by kernel_rfl
  have hp1 : ∀ x y : Int, pureRun C.c.P (part 3 #[.int .i64 x, .int .i64 y] 1) = some (.int .i64 y) := fun x y => by kernel_rfl
  have hk := equal_k (P := C.c.P) (e := 3) (k := .i64) (by kernel_rfl)
  unfold Op.equalIn
  simp only [pureRun_bind, pureRun_underlying C.c.P hu, Option.bind_some, hz, Std.Legacy.Range.forIn_eq_forIn_range', Std.Legacy.Range.size]
  simp only [show (2 - 0 + 1 - 1) / 1 = 2 from rfl, List.range', List.forIn_cons, List.forIn_nil, pureRun_bind, Nat.zero_mul, Nat.one_mul, Nat.zero_add, hp0, hp1, hk, Option.bind_some]
  cases h1 : (a == c) <;> cases h2 : (b == d) <;> simp [pureRun_bind, pureRun_pure, h1, h2, hp0, hp1, hk]
theorem neArrOp (a b c d : Int) : pureRun C.c.P (binOp .neq 76 (.agg #[.int .i64 a, .int .i64 b]) (.agg #[.int .i64 c, .int .i64 d])) = some (.bool (!(a == c && b == d))) := by
  have := eqArr a b c d 9998
  show pureRun C.c.P (Op.equal 76 _ _ >>= fun q => (pure (Value.bool (!q)) : Sem Value)) = _
  rw [pureRun_bind]
  show Option.bind (pureRun C.c.P (Op.equalIn (9998 + 1 + 1) 76 _ _)) _ = _
  rw [this]
  simp [pureRun_pure]
theorem neArrG (x y : Operand) (a b c d : Int) : pureRun C.c.P (eqGuard .neq 76 x y (.agg #[.int .i64 a, .int .i64 b]) (.agg #[.int .i64 c, .int .i64 d])) = some () := by kernel_rfl
theorem OpV.opAgg {op : BinOp} {L : Env} {H : Heap} {dst : Option Tmp} {x y : Operand} {ty ty2 ty3 : TypeId} {pos : String} {af : Array Edge} {g : Option (Nat × Bool)} {A B : Array Value} {r : Bool} (e1 : pureRun C.c.P (eqGuard op ty x y (.agg A) (.agg B)) = some ()) (e2 : pureRun C.c.P (binOp op ty (.agg A) (.agg B)) = some (.bool r))
    (hx : ev L x = some (.agg A)) (hy : ev L y = some (.agg B)) (hA : plainV (.agg A) = true) (hB : plainV (.agg B) = true) :
    OpV C (.plain ⟨dst, .binOp op ty x y ty2, ty3, pos, af, g⟩) L H (.bool r) H := by
  refine OpV.plain (fun t ht => ?_) (fun t ht => by simp [Op.operands, ev_ok ht hx, ev_ok ht hy, hA, hB]) rfl
  simp only [pureNext, execOp, ev_ok ht hx, ev_ok ht hy, pureRun_bind, e1, e2, Option.bind_some]
  rfl
abbrev prV (q : Nat × Nat) : List Value := [.int .i64 (q.1 : Nat), .int .i64 (q.2 : Nat)]
theorem prV_len (q : Nat × Nat) : (prV q).length = 2 := rfl
theorem pr_snoc (qs : List (Nat × Nat)) (a b : Nat) : cellsF prV qs ++ [.int .i64 (a : Nat), .int .i64 (b : Nat)] = cellsF prV (qs ++ [(a, b)]) := by simp [cellsF]
def rowK (h : Nat → Nat → Bool) (a b : Nat) : List (Nat × Nat) := ((List.range b).filter fun j => decide (a ≠ j) && h a j).map fun j => (a, j)
def prs (h : Nat → Nat → Bool) (n a b : Nat) : List (Nat × Nat) := ((List.range a).flatMap fun i => rowK h i n) ++ rowK h a b
theorem rowK_succ (h : Nat → Nat → Bool) (a b : Nat) : rowK h a (b + 1) = rowK h a b ++ if a ≠ b ∧ h a b = true then [(a, b)] else [] := by
  unfold rowK
  rw [List.range_succ, List.filter_append, List.map_append]
  congr 1
  by_cases e : a ≠ b ∧ h a b = true
  · rw [if_pos e]; simp [List.filter, e.1, e.2]
  · rw [if_neg e]
    by_cases e1 : a = b
    · simp [List.filter, e1]
    · have : h a b = false := by cases k : h a b with
        | false => rfl
        | true => exact absurd ⟨e1, k⟩ e
      simp [List.filter, this]
theorem prs_succ (h : Nat → Nat → Bool) (n a b : Nat) : prs h n a (b + 1) = prs h n a b ++ if a ≠ b ∧ h a b = true then [(a, b)] else [] := by
  unfold prs; rw [rowK_succ, List.append_assoc]
theorem prs_next (h : Nat → Nat → Bool) (n a : Nat) : prs h n (a + 1) 0 = prs h n a n := by
  unfold prs; rw [List.range_succ, List.flatMap_append]; simp [rowK]
theorem rowK_len (h : Nat → Nat → Bool) (a b : Nat) : (rowK h a b).length ≤ b := by
  unfold rowK; rw [List.length_map]; exact Nat.le_trans (List.length_filter_le _ _) (by simp)
theorem prs_len {h : Nat → Nat → Bool} {n a b : Nat} (hn : n ≤ 6) (ha : a ≤ 6) (hb : b ≤ 6) : (prs h n a b).length ≤ 42 := by
  have h1 := rowK_len h a b
  have h2 := flatB_len (f := fun i => rowK h i n) (B := 6) (xs := List.range a) fun i _ => Nat.le_trans (rowK_len h i n) hn
  rw [List.length_range] at h2
  unfold prs; rw [List.length_append]; omega
structure PR where
  k : Nat
  v : Value
  Mo : HL
  n : Nat
attribute [local irreducible] gOK WS WC WR WD Ends FS YS OpV seqK blockK loopK midK retK rdK asgK rangeEnd sat Cell
section
variable {M : HL} {n0 : Nat} {H : Heap} {v w u : Value}
set_option maxHeartbeats 1000000 in
theorem cpairs_fs (hH : hasH M n0 H) {P : List (List Int)} (hP : SqP P) (hR : RowsI M v P) {f : FuncId} {h : Nat → Nat → Bool}
    (hf : ∀ {M' : HL} {n' : Nat} {H' : Heap} {a b : Nat}, hasH M' n' H' → RowsI M' v P → a < P.length → b < P.length → FS C f [v, .int .i64 (a : Int), .int .i64 (b : Int)] H' (fun e H'' => H'' = H' ∧ e = .bool (h a b))) :
    FS C 66 [v, .func (.func f) [].toArray [].toArray] H (fun e H' => ∃ n' M2, n0 ≤ n' ∧ hasH (M2 ++ M) n' H' ∧ Sl (M2 ++ M) 2 e (cellsF prV (prs h P.length P.length 0))) := by
  have hRR := hR
  obtain ⟨cws, hcS, hcl, hcrow⟩ := hR
  have hlen6 := hP.len
  refine FS.intro (pf := pf66) rfl rfl rfl ?_
  repeat' (first | refine zP ?_ | refine zA ?_ | (refine zM ?_; intro _ _) | refine zX ?_ | (refine zC ?_; intro _ _ _ _) | (refine zS ?_; intro _ _) | (apply Ws <;> intro hg))
  rw [hcl]
  refine WC.loopX [(0, _), (1, _), (8, _), (9, .int .i64 (P.length : Int))] (fun s : PR => [(5, s.v), (10, .int .i64 (s.k : Int))]) [] (fun s H' => s.k ≤ P.length ∧ n0 ≤ s.n ∧ Own 76 2 s.v (cellsF prV (prs h P.length s.k 0)) s.Mo ∧ hasH (s.Mo ++ M) s.n H') (fun s => P.length - s.k) ⟨0, .slice none 0 0, [], n0⟩ (by repeat' (first | exact .nil | refine .cons rfl ?_)) rfl
    ⟨Nat.zero_le _, Nat.le_refl _, .nil, hH⟩ ?_
  clear hH
  rintro ⟨a, va, Mo, n1⟩ H1 ⟨ha, hn1, hO, hH1⟩
  simp only at ha hn1 hO hH1
  dsimp only [List.cons_append, List.nil_append]
  repeat' (first | refine zP ?_ | refine zA ?_ | (refine zM ?_; intro _ _) | refine zX ?_ | (refine zC ?_; intro _ _ _ _) | (refine zS ?_; intro _ _) | (apply Ws <;> intro hg))
  refine WC.condP rfl (fun hlta => ?_) (fun hlta => ?_)
  · have ha' : a < P.length := by omega
    have hcS1 : Sl (Mo ++ M) 1 v cws := hcS.mono fun q hq => List.mem_append_right _ hq
    repeat' (first | refine zP ?_ | refine zA ?_ | (refine zM ?_; intro _ _) | refine zX ?_ | (refine zC ?_; intro _ _ _ _) | (refine zS ?_; intro _ _) | (apply Ws <;> intro hg))
    rw [hcl]
    refine WC.loopX [(0, _), (1, _), (6, .int .i64 (a : Int)), (8, _), (9, .int .i64 (P.length : Int)), (10, .int .i64 (a : Int)), (14, .int .i64 (P.length : Int))] (fun s : PR => [(5, s.v), (15, .int .i64 (s.k : Int))]) [] (fun s H' => s.k ≤ P.length ∧ n0 ≤ s.n ∧ Own 76 2 s.v (cellsF prV (prs h P.length a s.k)) s.Mo ∧ hasH (s.Mo ++ M) s.n H') (fun s => P.length - s.k) ⟨0, va, Mo, n1⟩ (by repeat' (first | exact .nil | refine .cons rfl ?_)) rfl
      ⟨Nat.zero_le _, hn1, hO, hH1⟩ ?_
    clear hH1 hO hcS1
    rintro ⟨b, vb, Mo, n2⟩ H2 ⟨hb, hn2, hO, hH2⟩
    simp only at hb hn2 hO hH2
    have hpl := prs_len (h := h) hlen6 (show a ≤ 6 by omega) (show b ≤ 6 by omega)
    have hsu := prs_succ h P.length a b
    dsimp only [List.cons_append, List.nil_append]
    repeat' (first | refine zP ?_ | refine zA ?_ | (refine zM ?_; intro _ _) | refine zX ?_ | (refine zC ?_; intro _ _ _ _) | (refine zS ?_; intro _ _) | (apply Ws <;> intro hg))
    refine WC.condP rfl (fun hltb => ?_) (fun hltb => ?_)
    · have hb' : b < P.length := by omega
      by_cases hab : a = b
      · have hab' : (a : Int) = (b : Int) := by omega
        rw [if_neg (fun k => k.1 hab), List.append_nil] at hsu
        repeat' (first | refine zP ?_ | refine zA ?_ | (refine zM ?_; intro _ _) | refine zX ?_ | (refine zC ?_; intro _ _ _ _) | (refine zS ?_; intro _ _) | refine zO ?_ | (apply Ws <;> intro hg))
        exact Ends.loop ⟨b + 1, vb, Mo, n2⟩ (by simp only; omega) (by repeat' (first | exact .nil | refine .cons rfl ?_)) rfl ⟨by simp only; omega, hn2, by simp only; rw [hsu]; exact hO, hH2⟩
      · have hab' : ¬ (a : Int) = (b : Int) := by omega
        repeat' (first | refine zP ?_ | refine zA ?_ | (refine zM ?_; intro _ _) | refine zX ?_ | (refine zC ?_; intro _ _ _ _) | (refine zS ?_; intro _ _) | refine zO ?_ | (apply Ws <;> intro hg))
        refine WR.callV (by first | exact gN | exact gS rfl) rfl rfl rfl (hf hH2 (hRR.mono fun q hq => List.mem_append_right _ hq) ha' hb') ?_
        rintro _ _ ⟨rfl, rfl⟩
        cases hh : h a b with
        | false =>
          rw [if_neg (fun k => by rw [k.2] at hh; cases hh), List.append_nil] at hsu
          repeat' (first | refine zP ?_ | refine zA ?_ | (refine zM ?_; intro _ _) | refine zX ?_ | (refine zC ?_; intro _ _ _ _) | (refine zS ?_; intro _ _) | (apply Ws <;> intro hg))
          exact Ends.loop ⟨b + 1, vb, Mo, n2⟩ (by simp only; omega) (by repeat' (first | exact .nil | refine .cons rfl ?_)) rfl ⟨by simp only; omega, hn2, by simp only; rw [hsu]; exact hO, hH2⟩
        | true =>
          rw [if_pos ⟨hab, hh⟩] at hsu
          repeat' (first | refine zP ?_ | refine zA ?_ | (refine zM ?_; intro _ _) | refine zX ?_ | (refine zC ?_; intro _ _ _ _) | (refine zS ?_; intro _ _) | (apply Ws <;> intro hg))
          refine WR.op (by first | exact gN | exact gS rfl) rfl (OpV.bldA (cs := [Value.int .i64 (a : Nat), .int .i64 (b : Nat)].toArray) rfl rfl) ?_
          refine WR.append1F [] Mo M rfl rfl rfl rfl hO hH2 (new := [.int .i64 (a : Nat), .int .i64 (b : Nat)]) (by rfl) rfl rfl (by decide) (by decide) (by rw [cellsF_len prV_len]; simp; omega) fun v3 M3 n3 H9 hO3 hH9 hn3 => ?_
          repeat' (first | refine zP ?_ | refine zA ?_ | (refine zM ?_; intro _ _) | refine zX ?_ | (refine zC ?_; intro _ _ _ _) | (refine zS ?_; intro _ _) | (apply Ws <;> intro hg))
          refine Ends.loop ⟨b + 1, v3, M3, n3⟩ (by simp only; omega) (by repeat' (first | exact .nil | refine .cons rfl ?_)) rfl ⟨by simp only; omega, by simp only; omega, ?_, hH9⟩
          simp only
          rw [hsu, ← pr_snoc]; exact hO3
    · have hbl : b = P.length := by omega
      subst hbl
      repeat' (first | refine zP ?_ | refine zA ?_ | (refine zM ?_; intro _ _) | refine zX ?_ | (refine zC ?_; intro _ _ _ _) | (refine zS ?_; intro _ _) | (apply Ws <;> intro hg))
      refine Ends.loop ⟨a + 1, vb, Mo, n2⟩ (by simp only; omega) (by repeat' (first | exact .nil | refine .cons rfl ?_)) rfl ⟨by simp only; omega, hn2, ?_, hH2⟩
      simp only
      rw [prs_next]; exact hO
  · have hal : a = P.length := by omega
    subst hal
    repeat' (first | refine zP ?_ | refine zA ?_ | (refine zM ?_; intro _ _) | refine zX ?_ | (refine zC ?_; intro _ _ _ _) | (refine zS ?_; intro _ _) | (apply Ws <;> intro hg))
    exact Ends.ret1 rfl ⟨n1, Mo, hn1, hH1, hO.sl M⟩
end
end Go.Proofs.Yteopjpfhhekkoaa.Tt

/- Cost, Shows, Better; pairs of the law. -/
namespace Go.Proofs.Yteopjpfhhekkoaa.Tt
open Go Go.Abs Go.Mth
set_option linter.unusedVariables false
set_option linter.unusedSimpArgs false
attribute [local irreducible] gOK WS WC WR WD Ends FS YS OpV seqK blockK loopK midK retK rdK asgK rangeEnd sat Cell
section
variable {M : HL} {n0 : Nat} {H : Heap} {v w u : Value}
theorem both_fs (hH : hasH M n0 H) {g : Nat} {S : List Sal} (hok : OKS g S) (hS : SalesI M v S) (a b : Int) :
    FS C 62 [.int .i64 (g : Int), v, .int .i64 a, .int .i64 b] H (fun e H' => ∃ n' M2, n0 ≤ n' ∧ hasH (M2 ++ M) n' H' ∧
      (((0 ≤ a ∧ a < (S.length : Int)) ∧ (0 ≤ b ∧ b < (S.length : Int)) ∧ ∃ u, e = .tuple #[u, .int .i64 0] ∧ RowsI (M2 ++ M) u (matS S)) ∨ (¬ ((0 ≤ a ∧ a < (S.length : Int)) ∧ (0 ≤ b ∧ b < (S.length : Int))) ∧ e = .tuple #[.slice none 0 0, .int .i64 2]))) := by
  have h0 := err0 hok
  refine FS.intro (pf := pf62) rfl rfl rfl ?_
  repeat' (first | refine zP ?_ | refine zA ?_ | (refine zM ?_; intro _ _) | refine zX ?_ | (refine zC ?_; intro _ _ _ _) | (refine zS ?_; intro _ _) | (apply Ws <;> intro hg))
  refine WR.call (by first | exact gN | exact gS rfl) rfl rfl (reckon_fs hH hS hok.lens g) ?_
  rintro _ H2 ⟨n2, M2, c, hn2, hH2, hu, rfl, ⟨he, rfl⟩ | ⟨_, _, hP, hR⟩⟩
  · exact absurd h0 he
  · clear hH
    rw [h0]
    replace hS := hS.mono (M' := M2 ++ M) fun q hq => List.mem_append_right _ hq
    repeat' (first | refine zP ?_ | refine zA ?_ | (refine zM ?_; intro _ _) | refine zX ?_ | (refine zC ?_; intro _ _ _ _) | (refine zS ?_; intro _ _) | refine zO ?_ | (apply Ws <;> intro hg))
    refine WR.call (by first | exact gN | exact gS rfl) rfl rfl (isIndex_fs hH2 hS _) ?_
    rintro _ _ ⟨rfl, rfl⟩
    by_cases h1 : 0 ≤ a ∧ a < (S.length : Int)
    · rw [decide_eq_true h1]
      repeat' (first | refine zP ?_ | refine zA ?_ | (refine zM ?_; intro _ _) | refine zX ?_ | (refine zC ?_; intro _ _ _ _) | (refine zS ?_; intro _ _) | (apply Ws <;> intro hg))
      refine WR.call (by first | exact gN | exact gS rfl) rfl rfl (isIndex_fs hH2 hS _) ?_
      rintro _ _ ⟨rfl, rfl⟩
      by_cases h2 : 0 ≤ b ∧ b < (S.length : Int)
      · rw [decide_eq_true h2]
        repeat' (first | refine zP ?_ | refine zA ?_ | (refine zM ?_; intro _ _) | refine zX ?_ | (refine zC ?_; intro _ _ _ _) | (refine zS ?_; intro _ _) | (apply Ws <;> intro hg))
        exact Ends.ret2 rfl rfl ⟨n2, M2, hn2, hH2, .inl ⟨h1, h2, c, rfl, hR⟩⟩
      · rw [decide_eq_false h2]
        repeat' (first | refine zP ?_ | refine zA ?_ | (refine zM ?_; intro _ _) | refine zX ?_ | (refine zC ?_; intro _ _ _ _) | (refine zS ?_; intro _ _) | (apply Ws <;> intro hg))
        exact Ends.ret2 rfl rfl ⟨n2, M2, hn2, hH2, .inr ⟨fun k => h2 k.2, rfl⟩⟩
    · rw [decide_eq_false h1]
      repeat' (first | refine zP ?_ | refine zA ?_ | (refine zM ?_; intro _ _) | refine zX ?_ | (refine zC ?_; intro _ _ _ _) | (refine zS ?_; intro _ _) | (apply Ws <;> intro hg))
      exact Ends.ret2 rfl rfl ⟨n2, M2, hn2, hH2, .inr ⟨fun k => h1 k.1, rfl⟩⟩
theorem Cost_fs (hH : hasH M n0 H) {g : Nat} {S : List Sal} (hok : OKS g S) (hS : SalesI M v S) {a b : Nat} (ha : a < S.length) (hb : b < S.length) :
    FS C 18 [.int .i64 (g : Int), v, .int .i64 (a : Int), .int .i64 (b : Int)] H (fun e H' => ∃ n' M2, n0 ≤ n' ∧ hasH (M2 ++ M) n' H' ∧ e = .tuple #[.int .i64 (cs S a b), .int .i64 0]) := by
  have hlen := hok.len
  refine FS.intro (pf := pf18) rfl rfl rfl ?_
  repeat' (first | refine zP ?_ | refine zA ?_ | (refine zM ?_; intro _ _) | refine zX ?_ | (refine zC ?_; intro _ _ _ _) | (refine zS ?_; intro _ _) | (apply Ws <;> intro hg))
  refine WR.call (by first | exact gN | exact gS rfl) rfl rfl (both_fs hH hok hS _ _) ?_
  rintro _ H2 ⟨n2, M2, hn2, hH2, ⟨_, _, c, rfl, hR⟩ | ⟨hf, _⟩⟩
  · clear hH
    obtain ⟨cws, hcS, hcl, hcrow⟩ := hR
    have hml := matS_len S
    have hr := hcrow a (by omega)
    rw [matS_get ha] at hr
    have hrl := rowS_len S a
    have hcw : cws[a]'(by omega) = cws.getD a undef := (getD_eq (by omega)).symm
    repeat' (first | refine zP ?_ | refine zA ?_ | (refine zM ?_; intro _ _) | refine zX ?_ | (refine zC ?_; intro _ _ _ _) | (refine zS ?_; intro _ _) | (apply Ws <;> intro hg))
    refine Ends.ret2 rfl rfl ⟨n2, M2, hn2, hH2, ?_⟩
    rw [rowS_get hb]
  · exact absurd ⟨⟨by omega, by omega⟩, by omega, by omega⟩ hf
theorem Shows_fs (hH : hasH M n0 H) {g : Nat} {S : List Sal} (hok : OKS g S) (hS : SalesI M v S) :
    FS C 20 [.int .i64 (g : Int), v] H (fun e H' => ∃ n' M2 u, n0 ≤ n' ∧ hasH (M2 ++ M) n' H' ∧ e = .tuple #[u, .int .i64 0] ∧ Sl (M2 ++ M) 2 u (cellsF prV (prs (gD (DP (matS S))) S.length S.length 0))) := by
  have h0 := err0 hok
  have hml := matS_len S
  refine FS.intro (pf := pf20) rfl rfl rfl ?_
  repeat' (first | refine zP ?_ | refine zA ?_ | (refine zM ?_; intro _ _) | refine zX ?_ | (refine zC ?_; intro _ _ _ _) | (refine zS ?_; intro _ _) | (apply Ws <;> intro hg))
  refine WR.call (by first | exact gN | exact gS rfl) rfl rfl (reckon_fs hH hS hok.lens g) ?_
  rintro _ H2 ⟨n2, M2, c, hn2, hH2, hu, rfl, ⟨he, rfl⟩ | ⟨_, _, hP, hR⟩⟩
  · exact absurd h0 he
  · clear hH
    rw [h0]
    repeat' (first | refine zP ?_ | refine zA ?_ | (refine zM ?_; intro _ _) | refine zX ?_ | (refine zC ?_; intro _ _ _ _) | (refine zS ?_; intro _ _) | refine zO ?_ | (apply Ws <;> intro hg))
    refine WR.call (by first | exact gN | exact gS rfl) rfl rfl (cpairs_fs hH2 hP hR (f := 67) (h := gD (DP (matS S))) fun k1 k2 k3 k4 => asGood_fs k1 hP k2 k3 k4) ?_
    rintro u H3 ⟨n3, M3, hn3, hH3, hSu⟩
    rw [hml] at hSu
    have hu1 := hSu.one_
    repeat' (first | refine zP ?_ | refine zA ?_ | (refine zM ?_; intro _ _) | refine zX ?_ | (refine zC ?_; intro _ _ _ _) | (refine zS ?_; intro _ _) | (apply Ws <;> intro hg))
    exact Ends.ret2 rfl rfl ⟨n3, M3 ++ M2, u, by omega, by rw [List.append_assoc]; exact hH3, rfl, by rw [List.append_assoc]; exact hSu⟩
theorem Better_fs (hH : hasH M n0 H) {g : Nat} {S : List Sal} (hok : OKS g S) (hS : SalesI M v S) :
    FS C 22 [.int .i64 (g : Int), v] H (fun e H' => ∃ n' M2 u, n0 ≤ n' ∧ hasH (M2 ++ M) n' H' ∧ e = .tuple #[u, .int .i64 0] ∧ Sl (M2 ++ M) 2 u (cellsF prV (prs (fun a b => decide (0 < DP (matS S) a b)) S.length S.length 0))) := by
  have h0 := err0 hok
  have hml := matS_len S
  refine FS.intro (pf := pf22) rfl rfl rfl ?_
  repeat' (first | refine zP ?_ | refine zA ?_ | (refine zM ?_; intro _ _) | refine zX ?_ | (refine zC ?_; intro _ _ _ _) | (refine zS ?_; intro _ _) | (apply Ws <;> intro hg))
  refine WR.call (by first | exact gN | exact gS rfl) rfl rfl (reckon_fs hH hS hok.lens g) ?_
  rintro _ H2 ⟨n2, M2, c, hn2, hH2, hu, rfl, ⟨he, rfl⟩ | ⟨_, _, hP, hR⟩⟩
  · exact absurd h0 he
  · clear hH
    rw [h0]
    repeat' (first | refine zP ?_ | refine zA ?_ | (refine zM ?_; intro _ _) | refine zX ?_ | (refine zC ?_; intro _ _ _ _) | (refine zS ?_; intro _ _) | refine zO ?_ | (apply Ws <;> intro hg))
    refine WR.call (by first | exact gN | exact gS rfl) rfl rfl (cpairs_fs hH2 hP hR (f := 69) (h := fun a b => decide (0 < DP (matS S) a b)) fun k1 k2 k3 k4 => better_fs k1 hP k2 k3 k4) ?_
    rintro u H3 ⟨n3, M3, hn3, hH3, hSu⟩
    rw [hml] at hSu
    have hu1 := hSu.one_
    repeat' (first | refine zP ?_ | refine zA ?_ | (refine zM ?_; intro _ _) | refine zX ?_ | (refine zC ?_; intro _ _ _ _) | (refine zS ?_; intro _ _) | (apply Ws <;> intro hg))
    exact Ends.ret2 rfl rfl ⟨n3, M3 ++ M2, u, by omega, by rw [List.append_assoc]; exact hH3, rfl, by rw [List.append_assoc]; exact hSu⟩
theorem lpairs_fs (hH : hasH M n0 H) {a b : List (Nat × Nat)} (hS : Sl M 2 v (cellsF prV a)) (hT : Sl M 2 w (cellsF prV b)) (ha : a.length ≤ 100000) (hab : a = b) :
    FS C 24 [v, w] H (fun e H' => H' = H ∧ e = .bool true) := by
  subst hab
  refine FS.intro (pf := pf24) rfl rfl rfl ?_
  repeat' (first | refine zP ?_ | refine zA ?_ | (refine zM ?_; intro _ _) | refine zX ?_ | (refine zC ?_; intro _ _ _ _) | (refine zS ?_; intro _ _) | (apply Ws <;> intro hg))
  refine WR.op (by first | exact gN | exact gS rfl) rfl (OpV.lenK prV_len (by decide) rfl hS) ?_
  repeat' (first | refine zP ?_ | refine zA ?_ | (refine zM ?_; intro _ _) | refine zX ?_ | (refine zC ?_; intro _ _ _ _) | (refine zS ?_; intro _ _) | (apply Ws <;> intro hg))
  refine WR.op (by first | exact gN | exact gS rfl) rfl (OpV.lenK prV_len (by decide) rfl hT) ?_
  repeat' (first | refine zP ?_ | refine zA ?_ | (refine zM ?_; intro _ _) | refine zX ?_ | (refine zC ?_; intro _ _ _ _) | (refine zS ?_; intro _ _) | refine zO ?_ | (apply Ws <;> intro hg))
  refine WC.loopX [(0, _), (1, _)] (fun k : Nat => [(5, .int .i64 (k : Int))]) [] (fun k H' => H' = H ∧ k ≤ a.length) (fun k => a.length - k) 0 (by repeat' (first | exact .nil | refine .cons rfl ?_)) rfl ⟨rfl, Nat.zero_le _⟩ ?_
  rintro k H1 ⟨rfl, hk⟩
  dsimp only [List.cons_append, List.nil_append]
  repeat' (first | refine zP ?_ | refine zA ?_ | (refine zM ?_; intro _ _) | refine zX ?_ | (refine zC ?_; intro _ _ _ _) | (refine zS ?_; intro _ _) | (apply Ws <;> intro hg))
  refine WR.op (by first | exact gN | exact gS rfl) rfl (OpV.lenK prV_len (by decide) rfl hS) ?_
  repeat' (first | refine zP ?_ | refine zA ?_ | (refine zM ?_; intro _ _) | refine zX ?_ | (refine zC ?_; intro _ _ _ _) | (refine zS ?_; intro _ _) | (apply Ws <;> intro hg))
  refine WC.condP rfl (fun hltk => ?_) (fun hltk => ?_)
  · have hk' : k < a.length := by omega
    repeat' (first | refine zP ?_ | refine zA ?_ | (refine zM ?_; intro _ _) | refine zX ?_ | (refine zC ?_; intro _ _ _ _) | (refine zS ?_; intro _ _) | (apply Ws <;> intro hg))
    refine WR.idxK prV_len (by decide) (by first | exact gN | exact gS rfl) rfl rfl hS rfl (by omega) fun b1 o1' u1' hC1 => ?_
    refine WR.op (by first | exact gN | exact gS rfl) rfl (OpV.loadK rfl hC1 hH rfl) ?_
    repeat' (first | refine zP ?_ | refine zA ?_ | (refine zM ?_; intro _ _) | refine zX ?_ | (refine zC ?_; intro _ _ _ _) | (refine zS ?_; intro _ _) | (apply Ws <;> intro hg))
    refine WR.idxK prV_len (by decide) (by first | exact gN | exact gS rfl) rfl rfl hT rfl (by omega) fun b2 o2' u2' hC2 => ?_
    refine WR.op (by first | exact gN | exact gS rfl) rfl (OpV.loadK rfl hC2 hH rfl) ?_
    refine WR.op (by first | exact gN | exact gS rfl) rfl (OpV.opAgg (neArrG _ _ _ _ _ _) (neArrOp _ _ _ _) rfl rfl rfl rfl) ?_
    rw [beq_self_eq_true, beq_self_eq_true]
    repeat' (first | refine zP ?_ | refine zA ?_ | (refine zM ?_; intro _ _) | refine zX ?_ | (refine zC ?_; intro _ _ _ _) | (refine zS ?_; intro _ _) | (apply Ws <;> intro hg))
    exact Ends.loop (k + 1) (by omega) (by repeat' (first | exact .nil | refine .cons rfl ?_)) rfl ⟨rfl, by omega⟩
  · repeat' (first | refine zP ?_ | refine zA ?_ | (refine zM ?_; intro _ _) | refine zX ?_ | (refine zC ?_; intro _ _ _ _) | (refine zS ?_; intro _ _) | (apply Ws <;> intro hg))
    exact Ends.ret1 rfl ⟨rfl, rfl⟩
end
end Go.Proofs.Yteopjpfhhekkoaa.Tt

/- Least. -/
namespace Go.Abs
set_option linter.unusedSectionVars false
variable [Globs]
open Go
section
variable {C : CW} {nt : Nat} {L : Env} {D : List Nat} {H : Heap} {K : St → Prop} {M M' : HL} {n i d : Nat}
theorem retC2D {a b : Nat} {p r : Addr} {v w : Value} {R : Value → Heap → Prop} {M0 : HL} {e : Ex} (he : (match e with | .normal => True | .ret => True | _ => False)) (hx : ev L (.tmp a) = some (.pointer (some p))) (hy : ev L (.tmp b) = some (.pointer (some r))) (hH : hasH M n H) (hM : M'.Sublist M)
    (hp : M'.Perm (D.map (fun b => (b, Ch.defd false)) ++ M0)) (k2 : ∀ H', hasH M0 n H' → H'.read p = some v ∧ H'.read r = some w ∧ R (.tuple #[v, w]) H') : Abs.Ends (retK [.cell a none, .cell b none] R) e L D H :=
  Abs.Ends.retD he hH hM hp fun H' h' t ht => by
    obtain ⟨h1, h2, h3⟩ := k2 H' h'
    exact ⟨_, H', by simp only [leaveC, resultOf, ev_ok ht hx, ev_ok ht hy, h1, h2, retVal], h3⟩
end
end Go.Abs
namespace Go.Proofs.Yteopjpfhhekkoaa.Tt
open Go Go.Abs Go.Mth
set_option linter.unusedVariables false
set_option linter.unusedSimpArgs false
def leastL (P : List (List Int)) (a b : Nat) : Option (List Nat) := (allC (gD (DP P)) P.length).find? fun l => fromTo l a b
attribute [local irreducible] gOK WS WC WR WD Ends FS YS OpV seqK blockK loopK midK retK rdK asgK rangeEnd sat Cell
section
variable {M : HL} {n0 : Nat} {H : Heap} {v w u : Value}
set_option maxHeartbeats 4000000 in
theorem Least_fs (hH : hasH M n0 H) {g : Nat} {S : List Sal} (hok : OKS g S) (hS : SalesI M v S) (a b : Nat) :
    FS C 27 [.int .i64 (g : Int), v, .int .i64 (a : Int), .int .i64 (b : Int)] H (fun e H' => ∃ n' M2, n0 ≤ n' ∧ hasH (M2 ++ M) n' H' ∧
      (((a < S.length ∧ b < S.length) ∧ ((∃ z u, leastL (matS S) a b = some z ∧ one u = true ∧ Sl (M2 ++ M) 1 u (nodes z) ∧ e = .tuple #[u, .int .i64 0]) ∨ (leastL (matS S) a b = none ∧ e = .tuple #[.slice none 0 0, .int .i64 12]))) ∨
       (¬ (a < S.length ∧ b < S.length) ∧ e = .tuple #[.slice none 0 0, .int .i64 2]))) := by
  have hlen := hok.len
  have hP := hok.sq
  have hml := matS_len S
  have hv := hS.one_
  refine FS.intro (pf := pf27) rfl rfl rfl ?_
  repeat' (first | refine zP ?_ | refine zA ?_ | (refine zM ?_; intro _ _) | refine zX ?_ | (refine zC ?_; intro _ _ _ _) | (refine zS ?_; intro _ _) | (apply Ws <;> intro hg))
  rename_i H1 hH1 H2 hH2 H3 hH3 H4 hH4
  obtain ⟨q1, hq1⟩ : ∃ q1, n0 + 1 = q1 := ⟨_, rfl⟩
  obtain ⟨q2, hq2⟩ : ∃ q2, n0 + 1 + 1 = q2 := ⟨_, rfl⟩
  obtain ⟨q3, hq3⟩ : ∃ q3, n0 + 1 + 1 + 1 = q3 := ⟨_, rfl⟩
  obtain ⟨q4, hq4⟩ : ∃ q4, n0 + 1 + 1 + 1 + 1 = q4 := ⟨_, rfl⟩
  replace hH4 : hasH ((n0 + 1 + 1 + 1, .row 27 0 0 [.int .i64 0]) :: (n0 + 1 + 1, .row 39 0 0 [.slice none 0 0]) :: (n0 + 1, .row 3 0 0 [.int .i64 (b : Int)]) :: (n0, .row 3 0 0 [.int .i64 (a : Int)]) :: M) (n0 + 1 + 1 + 1 + 1) H4 := hH4
  rw [hq4, hq3, hq2, hq1] at hH4
  rw [hq3, hq2, hq1]
  clear hH hH1 hH2 hH3
  refine WR.call (by first | exact gN | exact gS rfl) rfl rfl (both_fs hH4 hok (hS.mono fun q hq => .tail _ (.tail _ (.tail _ (.tail _ hq)))) _ _) ?_
  rintro _ H5 ⟨n5, M5, hn5, hH5, hout⟩
  replace hH5 : hasH ((q3, .row 27 0 0 [.int .i64 0]) :: (q2, .row 39 0 0 [.slice none 0 0]) :: (q1, .row 3 0 0 [.int .i64 (b : Int)]) :: (n0, .row 3 0 0 [.int .i64 (a : Int)]) :: (M5 ++ M)) n5 H5 := hH5.perm (by classical exact List.perm_iff_count.2 (fun a => by simp only [defds, List.map_cons, List.map_nil, List.count_append, List.count_cons, List.count_nil, List.cons_append, List.nil_append, List.append_nil]; omega))
  have hn0 : n0 ≤ n5 := by omega
  clear hH4 hq1 hq2 hq3 hq4 hn5
  rcases hout with ⟨h1, h2, c, rfl, hR⟩ | ⟨hf, rfl⟩
  · have hc := hR.one_
    have hR0 := hR
    replace hR : RowsI ((q3, .row 27 0 0 [.int .i64 0]) :: (q2, .row 39 0 0 [.slice none 0 0]) :: (q1, .row 3 0 0 [.int .i64 (b : Int)]) :: (n0, .row 3 0 0 [.int .i64 (a : Int)]) :: (M5 ++ M)) c (matS S) := hR.mono fun q hq => by simp at hq ⊢; rcases hq with h | h | h | h | h | h <;> simp [h]
    have hPm : leastL (matS S) a b = leastL (matS S) a b := rfl
    repeat' (first | refine zP ?_ | refine zA ?_ | (refine zM ?_; intro _ _) | refine zX ?_ | (refine zC ?_; intro _ _ _ _) | (refine zS ?_; intro _ _) | refine zO ?_ | (apply Ws <;> intro hg))
    refine WR.call (by first | exact gN | exact gS rfl) rfl rfl (chains_fs hH5 hc) ?_
    rintro _ H6 ⟨rfl, hH6⟩
    clear hH5
    repeat' (first | refine zP ?_ | refine zA ?_ | (refine zM ?_; intro _ _) | refine zX ?_ | (refine zC ?_; intro _ _ _ _) | (refine zS ?_; intro _ _) | (apply Ws <;> intro hg))
    refine WC.range0 (va := []) (vb := [.pointer (some ⟨n5, 0, some 0⟩)]) rfl hH6 fun t ht H7 hH7 => ?_
    generalize hRR : ({ state := .ready, pending := none, fn := 27, tmps := t, params := [28], assign := _, body := _, nt := _ } : LoopE) = R at hH7
    obtain ⟨nn, hnn, hnn0⟩ : ∃ nn, n5 + 1 + 2 = nn ∧ n5 ≤ nn := ⟨_, rfl, by omega⟩
    rw [hnn] at hH7
    generalize n5 + 1 + 1 = lp at hH7 ⊢
    generalize n5 + 1 = df at hH7 ⊢
    clear hH6 hnn
    have hPl : (matS S).length ≤ 6 := by omega
    refine FS.mono (chainsIt_fs (l := lp) (bc := n5) (eC := 90) (uC := 0) (cv := c) hP (B := (n5, .row 90 0 0 [c]) :: (q3, .row 27 0 0 [.int .i64 0]) :: (q2, .row 39 0 0 [.slice none 0 0]) :: (q1, .row 3 0 0 [.int .i64 (b : Int)]) :: (n0, .row 3 0 0 [.int .i64 (a : Int)]) :: (M5 ++ M))
      (J := fun zs Mc => ∃ ds, ds ++ zs = allC (gD (DP (matS S))) (matS S).length ∧ (∀ d ∈ ds, fromTo d a b = false) ∧
        Mc = (lp, .loop R) :: (df, .defd false) :: (n5, .row 90 0 0 [c]) :: (q3, .row 27 0 0 [.int .i64 0]) :: (q2, .row 39 0 0 [.slice none 0 0]) :: (q1, .row 3 0 0 [.int .i64 (b : Int)]) :: (n0, .row 3 0 0 [.int .i64 (a : Int)]) :: (M5 ++ M))
      (Stop := fun z u Mc => fromTo z a b = true ∧ (∃ ds zs, ds ++ z :: zs = allC (gD (DP (matS S))) (matS S).length ∧ ∀ d ∈ ds, fromTo d a b = false) ∧
        Mc = (lp, .loop { R with state := .done, pending := some .ret }) :: (df, .defd false) :: (n5, .row 90 0 0 [c]) :: (q3, .row 27 0 0 [.int .i64 0]) :: (q2, .row 39 0 0 [u]) :: (q1, .row 3 0 0 [.int .i64 (b : Int)]) :: (n0, .row 3 0 0 [.int .i64 (a : Int)]) :: (M5 ++ M))
      hH7 (.head _) (hR.mono fun q hq => .tail _ hq) ?_ ⟨[], rfl, fun d hd => (by cases hd), rfl⟩ ?_) ?_
    · rintro zs Mc ⟨ds, _, _, rfl⟩ p hp
      exact .tail _ (.tail _ hp)
    · rintro z zs Mc T0 u n' H8 hn' ⟨ds, hds, hno, rfl⟩ hz hSz hH8
      simp only [List.cons_append] at hH8
      have hzl := hz.len
      have hu1 := hSz.one_
      have hSz8 : Sl ((q3, Ch.row 27 0 0 [.int .i64 0]) :: (q2, Ch.row 39 0 0 [.slice none 0 0]) :: (q1, Ch.row 3 0 0 [.int .i64 (b : Int)]) :: (n0, Ch.row 3 0 0 [.int .i64 (a : Int)]) :: (M5 ++ M ++ T0)) 1 u (nodes z) := hSz.mono fun q hq => .tail _ (.tail _ (.tail _ (.tail _ (List.mem_append_right _ hq))))
      refine YS.intro hH8 (.head _) (by rw [← hRR]) (by rw [← hRR]) (by rw [← hRR]; rfl) (by rw [← hRR]; exact ht) ?_
      subst hRR
      dsimp only
      repeat' (first | refine zA ?_ | (refine zM ?_; intro _ _) | (apply Ws <;> intro hg))
      refine Ends.asg hH8 .here fun H9 hH9 => ?_
      dsimp only
      clear hH8
      repeat' (first | refine zP ?_ | refine zA ?_ | (refine zM ?_; intro _ _) | refine zX ?_ | (refine zC ?_; intro _ _ _ _) | (refine zS ?_; intro _ _) | (apply Ws <;> intro hg))
      refine WR.call (by first | exact gN | exact gS rfl) rfl rfl (ends_fs hH9 (hSz8.mono fun q hq => .tail _ (.tail _ (.tail _ hq))) hzl.1 (by omega)) ?_
      rintro _ H10 ⟨rfl, rfl⟩
      repeat' (first | refine zP ?_ | refine zA ?_ | (refine zM ?_; intro _ _) | refine zX ?_ | (refine zC ?_; intro _ _ _ _) | (refine zS ?_; intro _ _))
      by_cases ha : z.getD 0 0 = a
      · have ha' : ((z.getD 0 0 : Nat) : Int) = (a : Int) := by rw [ha]
        rw [decide_eq_true ha']
        repeat' (first | refine zP ?_ | refine zA ?_ | (refine zM ?_; intro _ _) | refine zX ?_ | (refine zC ?_; intro _ _ _ _) | (refine zS ?_; intro _ _))
        by_cases hb : z.getD (z.length - 1) 0 = b
        · have hb' : ((z.getD (z.length - 1) 0 : Nat) : Int) = (b : Int) := by rw [hb]
          rw [decide_eq_true hb']
          repeat' (first | refine zP ?_ | refine zA ?_ | (refine zM ?_; intro _ _) | refine zX ?_ | (refine zC ?_; intro _ _ _ _) | (refine zS ?_; intro _ _) | refine zO ?_ | (apply Ws <;> intro hg))
          refine WR.op (by first | exact gN | exact gS rfl) rfl (OpV.pickT rfl rfl) ?_
          repeat' (first | refine zP ?_ | refine zA ?_ | (refine zM ?_; intro _ _) | refine zX ?_ | (refine zC ?_; intro _ _ _ _) | (refine zS ?_; intro _ _) | refine zO ?_ | (apply Ws <;> intro hg))
          refine WR.storeBox (by first | exact gN | exact gS rfl) hH9 rfl rfl hu1 (.there (.there (.there (.there .here)))) fun H11 hH11 => ?_
          refine WR.storeBox (by first | exact gN | exact gS rfl) hH11 rfl rfl rfl (.there (.there (.there .here))) fun H12 hH12 => ?_
          repeat' (first | refine zP ?_ | refine zA ?_ | (refine zM ?_; intro _ _) | refine zX ?_ | (refine zC ?_; intro _ _ _ _) | (refine zS ?_; intro _ _) | refine zO ?_ | (apply Ws <;> intro hg))
          refine Ends.rd rfl rfl rfl hH12 .here fun H' h' => ⟨_ :: _ :: _ :: _ :: _ :: _ :: _ :: (M5 ++ M), n', Nat.le_refl _, h', .inr ⟨rfl, fromTo_iff.2 ⟨ha, hb⟩, ⟨ds, zs, hds, hno⟩, rfl⟩⟩
        · have hb' : ¬ ((z.getD (z.length - 1) 0 : Nat) : Int) = (b : Int) := by omega
          have hno2 : ∀ d ∈ ds ++ [z], fromTo d a b = false := fun d hd => by
            rcases List.mem_append.1 hd with hd | hd
            · exact hno d hd
            · rw [List.mem_singleton.1 hd]
              cases h : fromTo z a b with
              | false => rfl
              | true => exact absurd (fromTo_iff.1 h).2 hb
          have hds2 : (ds ++ [z]) ++ zs = allC (gD (DP (matS S))) (matS S).length := by rw [← hds]; simp
          rw [decide_eq_false hb']
          repeat' (first | refine zP ?_ | refine zA ?_ | (refine zM ?_; intro _ _) | refine zX ?_ | (refine zC ?_; intro _ _ _ _) | (refine zS ?_; intro _ _) | refine zO ?_ | (apply Ws <;> intro hg))
          refine WR.op (by first | exact gN | exact gS rfl) rfl (OpV.pickT rfl rfl) ?_
          repeat' (first | refine zP ?_ | refine zA ?_ | (refine zM ?_; intro _ _) | refine zX ?_ | (refine zC ?_; intro _ _ _ _) | (refine zS ?_; intro _ _) | refine zO ?_ | (apply Ws <;> intro hg))
          exact Ends.rd rfl rfl rfl hH9 .here fun H' h' => ⟨_ :: _ :: _ :: _ :: _ :: _ :: _ :: (M5 ++ M), n', Nat.le_refl _, h', .inl ⟨rfl, ds ++ [z], hds2, hno2, rfl⟩⟩
      · have ha' : ¬ ((z.getD 0 0 : Nat) : Int) = (a : Int) := by omega
        have hno2 : ∀ d ∈ ds ++ [z], fromTo d a b = false := fun d hd => by
          rcases List.mem_append.1 hd with hd | hd
          · exact hno d hd
          · rw [List.mem_singleton.1 hd]
            cases h : fromTo z a b with
            | false => rfl
            | true => exact absurd (fromTo_iff.1 h).1 ha
        have hds2 : (ds ++ [z]) ++ zs = allC (gD (DP (matS S))) (matS S).length := by rw [← hds]; simp
        rw [decide_eq_false ha']
        repeat' (first | refine zP ?_ | refine zA ?_ | (refine zM ?_; intro _ _) | refine zX ?_ | (refine zC ?_; intro _ _ _ _) | (refine zS ?_; intro _ _) | refine zO ?_ | (apply Ws <;> intro hg))
        refine WR.op (by first | exact gN | exact gS rfl) rfl (OpV.pickF rfl rfl) ?_
        repeat' (first | refine zP ?_ | refine zA ?_ | (refine zM ?_; intro _ _) | refine zX ?_ | (refine zC ?_; intro _ _ _ _) | (refine zS ?_; intro _ _) | refine zO ?_ | (apply Ws <;> intro hg))
        exact Ends.rd rfl rfl rfl hH9 .here fun H' h' => ⟨_ :: _ :: _ :: _ :: _ :: _ :: _ :: (M5 ++ M), n', Nat.le_refl _, h', .inl ⟨rfl, ds ++ [z], hds2, hno2, rfl⟩⟩
    · rintro _ H7 ⟨M7, T0, n7, hn7, hH7, ⟨ds, hds, hno, rfl⟩ | ⟨z, u, hSz, hcb, ⟨ds, zs, hds, hno⟩, rfl⟩⟩
      · rw [List.append_nil] at hds
        simp only [List.cons_append] at hH7
        refine rangeEnd_of hH7 .here (by rw [← hRR]; simp) (by rw [← hRR]; rfl) fun H8 hH8 => ?_
        clear hH7
        have hnone : leastL (matS S) a b = none := List.find?_eq_none.2 fun d hd => by rw [← hds] at hd; rw [hno d hd]; simp
        generalize ({ R with state := .exhausted } : LoopE) = R2 at hH8
        have hH9 : hasH ((q3, .row 27 0 0 [.int .i64 0]) :: (q2, .row 39 0 0 [.slice none 0 0]) :: (df, .defd false) :: (M5 ++ M)) n7 H8 := by
          refine (hH8.sub (M' := (df, .defd false) :: (q3, .row 27 0 0 [.int .i64 0]) :: (q2, .row 39 0 0 [.slice none 0 0]) :: (M5 ++ M)) ?_).perm (by classical exact List.perm_iff_count.2 (fun a => by simp only [defds, List.map_cons, List.map_nil, List.count_append, List.count_cons, List.count_nil, List.cons_append, List.nil_append, List.append_nil]; omega))
          exact .cons _ (.cons_cons _ (.cons _ (.cons_cons _ (.cons_cons _ (.cons _ (.cons _ (List.sublist_append_left _ _)))))))
        clear hH8
        repeat' (first | refine zP ?_ | refine zA ?_ | (refine zM ?_; intro _ _) | refine zX ?_ | (refine zC ?_; intro _ _ _ _) | (refine zS ?_; intro _ _) | (apply Ws <;> intro hg))
        rename_i H10 hH10 H11 hH11
        exact retC2D (v := .slice none 0 0) (w := .int .i64 12) trivial rfl rfl hH11 (List.Sublist.refl _) (M0 := (q3, .row 27 0 0 [.int .i64 12]) :: (q2, .row 39 0 0 [.slice none 0 0]) :: (M5 ++ M)) (by classical exact List.perm_iff_count.2 (fun a => by simp only [defds, List.map_cons, List.map_nil, List.count_append, List.count_cons, List.count_nil, List.cons_append, List.nil_append, List.append_nil]; omega)) fun H' h' => ⟨h'.read (.tail _ (.head _)) (.row _ _ _ _) (Nat.zero_le _) rfl, h'.read (.head _) (.row _ _ _ _) (Nat.zero_le _) rfl, n7, M5, by omega, h'.tail.tail, .inl ⟨⟨by omega, by omega⟩, .inr ⟨hnone, rfl⟩⟩⟩
      · simp only [List.cons_append] at hH7
        have hu1 := hSz.one_
        refine rangeEnd_of hH7 .here (by simp) rfl fun H8 hH8 => ?_
        have hsome : leastL (matS S) a b = some z := List.find?_eq_some_iff_append.2 ⟨hcb, ds, zs, hds.symm, fun d hd => by rw [hno d hd]; rfl⟩
        repeat' (first | refine zP ?_ | refine zA ?_ | (refine zM ?_; intro _ _) | refine zX ?_ | (refine zC ?_; intro _ _ _ _) | (refine zS ?_; intro _ _) | (apply Ws <;> intro hg))
        refine retC2D (v := u) (w := .int .i64 0) trivial rfl rfl (hH8.sub (M' := (df, .defd false) :: (q3, .row 27 0 0 [.int .i64 0]) :: (q2, .row 39 0 0 [u]) :: (M5 ++ M ++ T0)) (.cons _ (.cons_cons _ (.cons _ (.cons_cons _ (.cons_cons _ (.cons _ (.cons _ (List.Sublist.refl _))))))))) (List.Sublist.refl _) (M0 := (q3, .row 27 0 0 [.int .i64 0]) :: (q2, .row 39 0 0 [u]) :: (M5 ++ M ++ T0)) (List.Perm.refl _) fun H' h' => ⟨h'.read (.tail _ (.head _)) (.row _ _ _ _) (Nat.zero_le _) rfl, h'.read (.head _) (.row _ _ _ _) (Nat.zero_le _) rfl, n7, T0 ++ M5, by omega, h'.tail.tail.perm (by classical exact List.perm_iff_count.2 (fun a => by simp only [defds, List.map_cons, List.map_nil, List.count_append, List.count_cons, List.count_nil, List.cons_append, List.nil_append, List.append_nil]; omega)), .inl ⟨⟨by omega, by omega⟩, .inl ⟨z, u, hsome, hu1, hSz.mono fun q hq => List.mem_append_left _ (List.mem_append_left _ hq), rfl⟩⟩⟩
  · repeat' (first | refine zP ?_ | refine zA ?_ | (refine zM ?_; intro _ _) | refine zX ?_ | (refine zC ?_; intro _ _ _ _) | (refine zS ?_; intro _ _) | (apply Ws <;> intro hg))
    rename_i H6 hH6 H7 hH7
    exact retC2D (v := .slice none 0 0) (w := .int .i64 2) trivial rfl rfl hH7 (List.Sublist.refl _) (List.Perm.refl _) fun H' h' => ⟨h'.read (.tail _ (.head _)) (.row _ _ _ _) (Nat.zero_le _) rfl, h'.read (.head _) (.row _ _ _ _) (Nat.zero_le _) rfl, n5, M5, by omega, h'.tail.tail.tail.tail, .inr ⟨fun k => hf ⟨by omega, by omega⟩, rfl⟩⟩
end
end Go.Proofs.Yteopjpfhhekkoaa.Tt

/- TasteShown's closure. -/
namespace Go.Proofs.Yteopjpfhhekkoaa.Tt
open Go Go.Abs Go.Mth
set_option linter.unusedVariables false
set_option linter.unusedSimpArgs false
def BestQ (q : List Nat → Prop) (ds : List (List Nat)) : Option (List Nat) → Prop
  | none => ∀ d ∈ ds, ¬ q d
  | some m => m ∈ ds ∧ q m ∧ ∀ d ∈ ds, q d → ¬ ordN d m
section
variable {q : List Nat → Prop} {ds : List (List Nat)} {z m : List Nat} {bo : Option (List Nat)}
theorem BestQ.skip (h : BestQ q ds bo) (hz : ¬ q z) : BestQ q (ds ++ [z]) bo := by
  cases bo with
  | none =>
    intro d hd
    rcases List.mem_append.1 hd with hd | hd
    · exact h d hd
    · rw [List.mem_singleton.1 hd]; exact hz
  | some m =>
    refine ⟨List.mem_append_left _ h.1, h.2.1, fun d hd hc => ?_⟩
    rcases List.mem_append.1 hd with hd | hd
    · exact h.2.2 d hd hc
    · rw [List.mem_singleton.1 hd] at hc; exact absurd hc hz
theorem BestQ.first (h : BestQ q ds none) (hz : q z) : BestQ q (ds ++ [z]) (some z) := by
  refine ⟨by simp, hz, fun d hd hc => ?_⟩
  rcases List.mem_append.1 hd with hd | hd
  · exact absurd hc (h d hd)
  · rw [List.mem_singleton.1 hd]; exact ordN_irr _
theorem BestQ.up (h : BestQ q ds (some m)) (hz : q z) (ho : ordN z m) : BestQ q (ds ++ [z]) (some z) := by
  refine ⟨by simp, hz, fun d hd hc => ?_⟩
  rcases List.mem_append.1 hd with hd | hd
  · exact ordN_trans_not ho (h.2.2 d hd hc)
  · rw [List.mem_singleton.1 hd]; exact ordN_irr _
theorem BestQ.stay (h : BestQ q ds (some m)) (ho : ¬ ordN z m) : BestQ q (ds ++ [z]) (some m) := by
  refine ⟨List.mem_append_left _ h.1, h.2.1, fun d hd hc => ?_⟩
  rcases List.mem_append.1 hd with hd | hd
  · exact h.2.2 d hd hc
  · rw [List.mem_singleton.1 hd]; exact ho
end
def goP (D : Nat → Nat → Int) (a b : Nat) (l : List Nat) : Prop := chB D l = true ∧ fromTo l a b = true
theorem BestQ.least {P : List (List Int)} {n a b : Nat} (hn : P.length = n) {bo : Option (List Nat)} (h : BestQ (goP (DP P) a b) (preL n n []) bo) : leastL P a b = bo := by
  subst hn
  have hk : ∀ m, (Chain (gD (DP P)) P.length m ∧ fromTo m a b = true) ↔ (m ∈ preL P.length P.length [] ∧ goP (DP P) a b m) := fun m => by
    rw [mem_pre, chain_iff]
    exact ⟨fun ⟨⟨k1, k2, k3⟩, k4⟩ => ⟨⟨k1, k2⟩, k3, k4⟩, fun ⟨⟨k1, k2⟩, k3, k4⟩ => ⟨⟨k1, k2, k3⟩, k4⟩⟩
  cases hf : leastL P a b with
  | none =>
    cases bo with
    | none => rfl
    | some m =>
      have := List.find?_eq_none.1 hf m (mem_allC.2 ((hk m).2 ⟨h.1, h.2.1⟩).1)
      exact absurd ((hk m).2 ⟨h.1, h.2.1⟩).2 this
  | some z =>
    have hz := find_least hf
    cases bo with
    | none => exact absurd ((hk z).1 hz.1).2 (h z ((hk z).1 hz.1).1)
    | some m =>
      have hm : LeastP (fun m => Chain (gD (DP P)) P.length m ∧ fromTo m a b = true) m := ⟨(hk m).2 ⟨h.1, h.2.1⟩, fun d hd => h.2.2 d ((hk d).1 hd).1 ((hk d).1 hd).2⟩
      rw [LeastP.unique hz hm]
attribute [local irreducible] gOK WS WC WR WD Ends FS YS OpV seqK blockK loopK midK retK rdK asgK rangeEnd sat Cell
section
variable {M : HL} {n0 : Nat} {H : Heap} {v w u : Value}
set_option maxHeartbeats 4000000 in
theorem shown1_fs {g : Nat} {S : List Sal} (hok : OKS g S) {bA bC bS bB a b : Nat} {vb : Value} {X : HL} {bo : Option (List Nat)} {ds : List (List Nat)} (hS : SalesI X v S)
    (hmS : (bS, Ch.row 22 0 0 [v]) ∈ X) (hmA : (bA, Ch.row 3 0 0 [.int .i64 (a : Int)]) ∈ X) (hmC : (bC, Ch.row 3 0 0 [.int .i64 (b : Int)]) ∈ X)
    (hB : BestQ (goP (DP (matS S)) a b) ds bo) (hvb : OptV X vb bo) (hdsD : ∀ m ∈ ds, Dis S.length m) {z : List Nat} (hz0 : z ≠ []) (hzd : Dis S.length z) (hZ : LstV X w (nodes z))
    (hH : hasH ((bB, .row 39 0 0 [vb]) :: X) n0 H) :
    FS C 51 ([] ++ [w] ++ [ptrT bA, ptrT bC, ptrT bS, ptrT bB]) H (fun _ H2 => ∃ n2 vb2 bo2, n0 ≤ n2 ∧ BestQ (goP (DP (matS S)) a b) (ds ++ [z]) bo2 ∧ OptV X vb2 bo2 ∧
      hasH ((bB, .row 39 0 0 [vb2]) :: X) n2 H2) := by
  obtain ⟨ws, hV, hwl, hrow⟩ := hS.at
  have hlen := hok.len
  have hzl := hzd.len
  have hz1 : 0 < z.length := List.length_pos_iff.2 hz0
  obtain ⟨bz, oz, uz, cz, hwe, hSz⟩ := OptV.shape (v := w) (m := z) ⟨hz0, hZ⟩
  have hw1 := hSz.one_
  have hvb1 := hvb.one_
  have mS : (bS, Ch.row 22 0 0 [v]) ∈ (bB, Ch.row 39 0 0 [vb]) :: X := .tail _ hmS
  have mA : (bA, Ch.row 3 0 0 [.int .i64 (a : Int)]) ∈ (bB, Ch.row 39 0 0 [vb]) :: X := .tail _ hmA
  have mC : (bC, Ch.row 3 0 0 [.int .i64 (b : Int)]) ∈ (bB, Ch.row 39 0 0 [vb]) :: X := .tail _ hmC
  have hSz2 := hSz.mono (M' := (bB, Ch.row 39 0 0 [vb]) :: X) fun q hq => .tail _ hq
  have hVV := hV.mono (M' := (bB, Ch.row 39 0 0 [vb]) :: X) fun q hq => .tail _ hq
  refine FS.intro (pf := pf51) rfl rfl rfl ?_
  repeat' (first | refine zP ?_ | refine zA ?_ | (refine zM ?_; intro _ _) | refine zX ?_ | (refine zC ?_; intro _ _ _ _) | (refine zS ?_; intro _ _))
  by_cases ha : z.getD 0 0 = a
  · have ha' : ¬ ((z.getD 0 0 : Nat) : Int) ≠ (a : Int) := by omega
    repeat' (first | refine zP ?_ | refine zA ?_ | (refine zM ?_; intro _ _) | refine zX ?_ | (refine zC ?_; intro _ _ _ _) | (refine zS ?_; intro _ _))
    rw [decide_eq_false ha']
    repeat' (first | refine zP ?_ | refine zA ?_ | (refine zM ?_; intro _ _) | refine zX ?_ | (refine zC ?_; intro _ _ _ _) | (refine zS ?_; intro _ _))
    refine WC.condP rfl (fun hb => ?_) (fun hb => ?_)
    · have hbad : ¬ goP (DP (matS S)) a b z := fun h => by have := (fromTo_iff.1 h.2).2; omega
      repeat' (first | refine zP ?_ | refine zA ?_ | (refine zM ?_; intro _ _) | refine zX ?_ | (refine zC ?_; intro _ _ _ _) | (refine zS ?_; intro _ _) | (apply Ws <;> intro hg))
      exact Ends.ret0 ⟨n0, _, _, Nat.le_refl _, hB.skip hbad, hvb, hH⟩
    · have hft : fromTo z a b = true := fromTo_iff.2 ⟨ha, by omega⟩
      repeat' (first | refine zP ?_ | refine zA ?_ | (refine zM ?_; intro _ _) | refine zX ?_ | (refine zC ?_; intro _ _ _ _) | (refine zS ?_; intro _ _) | (apply Ws <;> intro hg))
      refine WC.loopX [(0, w), (1, ptrT bA), (2, ptrT bC), (3, ptrT bS), (4, ptrT bB)] (fun s : Nat × Nat => [(6, .int .i64 (s.1 : Int))]) [] (fun s H' => 1 ≤ s.1 ∧ s.1 ≤ z.length ∧ n0 ≤ s.2 ∧ (∀ j, j + 1 < s.1 → 0 ≤ DP (matS S) (z.getD j 0) (z.getD (j + 1) 0)) ∧ hasH ((bB, .row 39 0 0 [vb]) :: X) s.2 H') (fun s => z.length - s.1) (1, n0) (by repeat' (first | exact .nil | refine .cons rfl ?_)) rfl
        ⟨Nat.le_refl _, hz1, Nat.le_refl _, fun j hj => by simp only at hj; omega, hH⟩ ?_
      clear hH
      rintro ⟨k, n1⟩ H1 ⟨hk1, hk, hn1, hno, hH1⟩
      simp only at hk1 hk hn1 hno hH1
      dsimp only [List.cons_append, List.nil_append]
      repeat' (first | refine zP ?_ | refine zA ?_ | (refine zM ?_; intro _ _) | refine zX ?_ | (refine zC ?_; intro _ _ _ _) | (refine zS ?_; intro _ _) | (apply Ws <;> intro hg))
      refine WC.condP rfl (fun hltk => ?_) (fun hltk => ?_)
      · have hk' : k < z.length := by omega
        have hka := hzd.2 _ (getD_mem (a := 0) (show k - 1 < z.length by omega))
        have hkb := hzd.2 _ (getD_mem (a := 0) hk')
        obtain ⟨hpa, hta⟩ := hrow _ hka
        obtain ⟨hpb, htb⟩ := hrow _ hkb
        have hwa : ws[z.getD (k - 1) 0] = ws.getD (z.getD (k - 1) 0) noVal := (getD_eq (by omega)).symm
        have hwb : ws[z.getD k 0] = ws.getD (z.getD k 0) noVal := (getD_eq (by omega)).symm
        repeat' (first | refine zP ?_ | refine zA ?_ | (refine zM ?_; intro _ _) | refine zX ?_ | (refine zC ?_; intro _ _ _ _) | (refine zS ?_; intro _ _) | (apply Ws <;> intro hg))
        refine WR.idxK pairV_len (by decide) (by first | exact gN | exact gS rfl) rfl rfl hVV rfl (by omega) fun b1 o1' u1' hC1 => ?_
        rw [hwa] at hC1
        refine WR.op (by first | exact gN | exact gS rfl) rfl (OpV.loadK rfl hC1 hH1 rfl) ?_
        repeat' (first | refine zP ?_ | refine zA ?_ | (refine zM ?_; intro _ _) | refine zX ?_ | (refine zC ?_; intro _ _ _ _) | (refine zS ?_; intro _ _) | (apply Ws <;> intro hg))
        refine WR.idxK pairV_len (by decide) (by first | exact gN | exact gS rfl) rfl rfl hVV rfl (by omega) fun b2 o2' u2' hC2 => ?_
        rw [hwb] at hC2
        refine WR.op (by first | exact gN | exact gS rfl) rfl (OpV.loadK rfl hC2 hH1 rfl) ?_
        repeat' (first | refine zP ?_ | refine zA ?_ | (refine zM ?_; intro _ _) | refine zX ?_ | (refine zC ?_; intro _ _ _ _) | (refine zS ?_; intro _ _) | (apply Ws <;> intro hg))
        refine WR.call (by first | exact gN | exact gS rfl) rfl rfl (lead_fs hH1 hok hka hkb (hpa.mono fun q hq => .tail _ hq) (hta.mono fun q hq => .tail _ hq) hpb.one_ (htb.mono fun q hq => .tail _ hq)) ?_
        rintro _ H2 ⟨n2, hn2, hH2, rfl⟩
        clear hH1
        by_cases hd : DP (matS S) (z.getD (k - 1) 0) (z.getD k 0) < 0
        · have hbad : ¬ goP (DP (matS S)) a b z := fun h => by
            have := chB_iff.1 h.1 (k - 1) (by omega)
            rw [show k - 1 + 1 = k by omega] at this; omega
          repeat' (first | refine zP ?_ | refine zA ?_ | (refine zM ?_; intro _ _) | refine zX ?_ | (refine zC ?_; intro _ _ _ _) | (refine zS ?_; intro _ _) | refine zO ?_ | (apply Ws <;> intro hg))
          exact Ends.ret0 ⟨n2, _, _, by omega, hB.skip hbad, hvb, hH2⟩
        · have hno2 : ∀ j, j + 1 < k + 1 → 0 ≤ DP (matS S) (z.getD j 0) (z.getD (j + 1) 0) := fun j hj => by
            by_cases he : j + 1 = k
            · rw [he, show j = k - 1 by omega]; omega
            · exact hno j (by omega)
          repeat' (first | refine zP ?_ | refine zA ?_ | (refine zM ?_; intro _ _) | refine zX ?_ | (refine zC ?_; intro _ _ _ _) | (refine zS ?_; intro _ _) | refine zO ?_ | (apply Ws <;> intro hg))
          exact Ends.loop (k + 1, n2) (by simp only; omega) (by repeat' (first | exact .nil | refine .cons rfl ?_)) rfl ⟨by simp only; omega, by simp only; omega, by simp only; omega, hno2, hH2⟩
      · have hkz : k = z.length := by omega
        subst hkz
        have hgo : goP (DP (matS S)) a b z := ⟨chB_iff.2 hno, hft⟩
        cases bo with
        | none =>
          obtain rfl : vb = .slice none 0 0 := hvb
          repeat' (first | refine zP ?_ | refine zA ?_ | (refine zM ?_; intro _ _) | refine zX ?_ | (refine zC ?_; intro _ _ _ _) | (refine zS ?_; intro _ _) | (apply Ws <;> intro hg))
          rename_i H2 hH2
          exact Ends.end0 ⟨n1, _, some z, by omega, hB.first hgo, ⟨hz0, hZ⟩, hH2⟩
        | some m =>
          obtain ⟨bm, om, um, cm, hve, hSm⟩ := OptV.shape hvb
          subst hwe hve
          have hml : m.length ≤ 6 := by
            have := (hdsD m hB.1).len; omega
          have hsame : ordN z m ↔ z.length < m.length ∨ (z.length = m.length ∧ lexC (IL z) (IL m) < 0) := by rw [lexN_C]; exact Iff.rfl
          repeat' (first | refine zP ?_ | refine zA ?_ | (refine zM ?_; intro _ _) | refine zX ?_ | (refine zC ?_; intro _ _ _ _) | (refine zS ?_; intro _ _))
          by_cases h1 : z.length < m.length
          · have h1' : (z.length : Int) < (m.length : Int) := by omega
            repeat' (first | refine zP ?_ | refine zA ?_ | (refine zM ?_; intro _ _) | refine zX ?_ | (refine zC ?_; intro _ _ _ _) | (refine zS ?_; intro _ _) | refine zO ?_ | (apply Ws <;> intro hg))
            rename_i H2 hH2
            exact Ends.end0 ⟨n1, _, some z, by omega, hB.up hgo (hsame.2 (.inl h1)), ⟨hz0, hZ⟩, hH2⟩
          · have h1' : ¬ (z.length : Int) < (m.length : Int) := by omega
            by_cases h2 : z.length = m.length
            · have h2' : (z.length : Int) = (m.length : Int) := by omega
              repeat' (first | refine zP ?_ | refine zA ?_ | (refine zM ?_; intro _ _) | refine zX ?_ | (refine zC ?_; intro _ _ _ _) | (refine zS ?_; intro _ _) | refine zO ?_ | (apply Ws <;> intro hg))
              refine WR.call (by first | exact gN | exact gS rfl) rfl rfl (CompareN_fs hH1 (hSz.mono fun q hq => .tail _ hq) (hSm.mono fun q hq => .tail _ hq) (by omega) (by omega)) ?_
              rintro _ _ ⟨rfl, rfl⟩
              by_cases h3 : lexC (IL z) (IL m) < 0
              · repeat' (first | refine zP ?_ | refine zA ?_ | (refine zM ?_; intro _ _) | refine zX ?_ | (refine zC ?_; intro _ _ _ _) | (refine zS ?_; intro _ _) | refine zO ?_ | (apply Ws <;> intro hg))
                rename_i H2 hH2
                exact Ends.end0 ⟨n1, _, some z, by omega, hB.up hgo (hsame.2 (.inr ⟨h2, h3⟩)), ⟨hz0, hZ⟩, hH2⟩
              · repeat' (first | refine zP ?_ | refine zA ?_ | (refine zM ?_; intro _ _) | refine zX ?_ | (refine zC ?_; intro _ _ _ _) | (refine zS ?_; intro _ _) | refine zO ?_ | (apply Ws <;> intro hg))
                exact Ends.end0 ⟨n1, _, some m, by omega, hB.stay (fun h => by rcases hsame.1 h with h | h; exact h1 h; exact h3 h.2), hvb, hH1⟩
            · have h2' : ¬ (z.length : Int) = (m.length : Int) := by omega
              repeat' (first | refine zP ?_ | refine zA ?_ | (refine zM ?_; intro _ _) | refine zX ?_ | (refine zC ?_; intro _ _ _ _) | (refine zS ?_; intro _ _) | refine zO ?_ | (apply Ws <;> intro hg))
              exact Ends.end0 ⟨n1, _, some m, by omega, hB.stay (fun h => by rcases hsame.1 h with h | h; exact h1 h; exact h2 h.1), hvb, hH1⟩
  · have ha' : ((z.getD 0 0 : Nat) : Int) ≠ (a : Int) := by omega
    have hbad : ¬ goP (DP (matS S)) a b z := fun h => ha (fromTo_iff.1 h.2).1
    repeat' (first | refine zP ?_ | refine zA ?_ | (refine zM ?_; intro _ _) | refine zX ?_ | (refine zC ?_; intro _ _ _ _) | (refine zS ?_; intro _ _))
    rw [decide_eq_true ha']
    repeat' (first | refine zP ?_ | refine zA ?_ | (refine zM ?_; intro _ _) | refine zX ?_ | (refine zC ?_; intro _ _ _ _) | (refine zS ?_; intro _ _) | refine zO ?_ | (apply Ws <;> intro hg))
    exact Ends.ret0 ⟨n0, _, _, Nat.le_refl _, hB.skip hbad, hvb, hH⟩
end
end Go.Proofs.Yteopjpfhhekkoaa.Tt
