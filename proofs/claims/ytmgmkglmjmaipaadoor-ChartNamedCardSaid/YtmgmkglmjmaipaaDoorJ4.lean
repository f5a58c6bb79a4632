/- Texts of the law, joined. -/
import Derived.Test.YtmgmkglmjmaipaaDoorJ3
/- Maps told otherwise: the mathematics; Clone, Reverse. -/
namespace Go.Abs
set_option linter.unusedSectionVars false
set_option linter.unusedVariables false
open Go
section
variable [Globs] {C : CW} {nt : Nat} {L : Env} {D : List Nat} {H : Heap} {K : St → Prop} {M M' : HL} {n i d : Nat} {gd : Option (Tmp × Bool)} {lo' : List Nat} {l : List POp} {rs : List Rd}
/-- A slice that can be read, though it is empty. -/
def RdS (M : HL) (v : Value) : Prop := v = .slice none 0 0 ∨ ∃ (b u o lo len cap : Nat) (ch : Ch) (cs : List Value), v = .slice (some ⟨b, o, some u⟩) len cap ∧ (b, ch) ∈ M ∧ ch.cellsAre u lo cs ∧ lo ≤ o ∧ o - lo ≤ cs.length
theorem Sl.cut0 {v : Value} {l : List Value} (hS : Sl M 1 v l) {m : Nat} (hm : m < l.length) : ∃ base len cap v', v = .slice base len cap ∧ Sl M 1 v' (l.take m) ∧ RdS M v' ∧ len = l.length ∧
      (∀ lo hi, loOf lo = some 0 → hiOf len hi = some m → sliceA 1 base len (capOf base cap) lo hi none = some v') := by
  cases hS with
  | nil c => simp at hm
  | emp a0 => simp at hm
  | row hm2 hc hlo hl hv hin hp =>
    rename_i bk o u lo' len cap ch cs
    have hll : l.length = len := by omega
    have hsub : (cs.drop (o - lo')).take (l.take m).length = l.take m := by
      rw [List.length_take, Nat.min_eq_left (by omega)]
      have h0 : l.take m = ((cs.drop (o - lo')).take l.length).take m := by rw [hv]
      rw [h0, List.take_take, Nat.min_eq_left (by omega)]
    have hbnd : o - lo' + (l.take m).length ≤ cs.length := by rw [List.length_take]; omega
    have hrd : ∀ cp, RdS M (.slice (some ⟨bk, o, some u⟩) m cp) := fun cp => .inr ⟨_, _, _, _, _, _, _, _, rfl, hm2, hc, hlo, by omega⟩
    have hlm : (l.take m).length = m * 1 := by rw [List.length_take]; omega
    rcases hp with (rfl | ⟨r, rfl, hrl⟩) | ⟨c, rfl, hcl⟩
    · refine ⟨_, len, _, .slice (some ⟨bk, o, some u⟩) m (roomCode 1 len), rfl, ?_, hrd _, hll.symm, fun lo hi h1 h2 => ?_⟩
      · exact .row hm2 hc hlo hlm hsub hbnd (.inl (.inr ⟨len, rfl, by omega⟩))
      · simp only [sliceA, h1, h2, Option.isSome_none, Bool.false_and, cond_false, capOf_open _ (show 1 ≤ 1000 by decide), sliceTo]
        rw [cond_some (by simp [Nat.ble_eq]; omega), cutPart_lt (show m < len by omega) (by decide)]
        rfl
    · refine ⟨_, len, _, .slice (some ⟨bk, o, some u⟩) m (roomCode 1 r), rfl, ?_, hrd _, hll.symm, fun lo hi h1 h2 => ?_⟩
      · exact .row hm2 hc hlo hlm hsub hbnd (.inl (.inr ⟨r, rfl, by omega⟩))
      · simp only [sliceA, h1, h2, Option.isSome_none, Bool.false_and, cond_false, capOf_room _ (show 1 ≤ 1000 by decide), sliceTo]
        rw [cond_some (by simp [Nat.ble_eq]; omega), cutPart_lt (show m < r by omega) (by decide)]
        rfl
    · refine ⟨_, len, _, .slice (some ⟨bk, o, some u⟩) m (2 * c + 1), rfl, ?_, hrd _, hll.symm, fun lo hi h1 h2 => ?_⟩
      · exact .row hm2 hc hlo hlm hsub hbnd (.inr ⟨c, rfl, by omega⟩)
      · simp only [sliceA, h1, h2, Option.isSome_none, Bool.false_and, cond_false, capOf_known, sliceTo]
        rw [cond_some (by simp [Nat.ble_eq]; omega)]
        have : Nat.beq c 0 = false := by cases hb : Nat.beq c 0 with | false => rfl | true => have := Nat.eq_of_beq_eq_true hb; omega
        simp [cutKnown, this, Addr.plus]
/-- A beginning that may be empty; what is behind a place. -/
theorem OpV.cut0 {x hi : Operand} {v : Value} {xs : List Nat} {m : Nat} {kb : IntKind} (hx : ev L x = some v) (hS : Sl M 1 v (nodes xs)) (h2 : ev L hi = some (.int kb (m : Int))) (hm : m < xs.length) :
    ∃ v', OpV C (.slS x 1 none (some hi) none) L H v' H ∧ Sl M 1 v' (nodes (xs.take m)) ∧ RdS M v' := by
  obtain ⟨base, len, cap, v', rfl, h3, h4, h5, h6⟩ := hS.cut0 (m := m) (by simpa using hm)
  have hb : bnd L (some hi) = some (some (.int kb (m : Int))) := by simp [bnd, h2]
  refine ⟨v', fun t ht => ?_, by simpa [List.map_take] using h3, h4⟩
  simp only [opA, ev_ok ht hx, bnd_ok ht hb, Option.map_none, oSlS, h6 none (some (.int kb (m : Int))) rfl rfl, asVal]
theorem OpV.cutFrom {x lo : Operand} {v : Value} {xs : List Nat} {m : Nat} {kb : IntKind} (hx : ev L x = some v) (hS : Sl M 1 v (nodes xs)) (h2 : ev L lo = some (.int kb (m : Int))) (hm : m ≤ xs.length) :
    ∃ v', OpV C (.slS x 1 (some lo) none none) L H v' H ∧ Sl M 1 v' (nodes (xs.drop m)) := by
  obtain ⟨base, len, cap, v', rfl, h3, h4, h5, h6⟩ := hS.cut (a := m) (b := xs.length) hm (by simp) (Nat.le_refl _) (by decide)
  have hb : bnd L (some lo) = some (some (.int kb (m : Int))) := by simp [bnd, h2]
  have hl : len = xs.length := by simpa using h5
  refine ⟨v', fun t ht => ?_, ?_⟩
  · simp only [opA, ev_ok ht hx, bnd_ok ht hb, Option.map_none, oSlS, h6 (some (.int kb (m : Int))) none rfl (by rw [hl]; rfl), asVal]
  · have e : (nodes xs).drop (m * 1) = nodes (xs.drop m) := by rw [Nat.mul_one]; exact List.map_drop.symm
    rw [e] at h3
    rwa [Nat.mul_one, List.take_of_length_le (by simp)] at h3
theorem RdS.src0 {v : Value} (h : RdS M v) (hH : hasH M n H) : srcCells H 1 0 v = some [] := by
  rcases h with rfl | ⟨b, u, o, lo, len, cap, ch, cs, rfl, hm, hc, hlo, hin⟩
  · rfl
  · have := hH.readN (k := 0) hm hc hlo (by omega)
    simpa [srcCells] using this
theorem WD.cutFrom {x lo : Operand} {v : Value} {xs : List Nat} {m : Nat} {kb : IntKind} (hg : gOK L gd) (hd : Nat.blt d nt = true) (hx : ev L x = some v) (hS : Sl M 1 v (nodes xs)) (h2 : ev L lo = some (.int kb (m : Int))) (hm : m ≤ xs.length)
    (k : ∀ v', Sl M 1 v' (nodes (xs.drop m)) → WD C nt l rs ((d, v') :: L) D H K) : WD C nt (⟨i, some d, .slS x 1 (some lo) none none, gd, []⟩ :: l) rs L D H K := by
  obtain ⟨v', h3, h4⟩ := OpV.cutFrom (C := C) (H := H) hx hS h2 hm
  exact WD.op hg hd h3 rfl (stands_nil _ _) (k v' h4)
theorem WD.cut0 {x hi : Operand} {v : Value} {xs : List Nat} {m : Nat} {kb : IntKind} (hg : gOK L gd) (hd : Nat.blt d nt = true) (hx : ev L x = some v) (hS : Sl M 1 v (nodes xs)) (h2 : ev L hi = some (.int kb (m : Int))) (hm : m < xs.length)
    (k : ∀ v', Sl M 1 v' (nodes (xs.take m)) → RdS M v' → WD C nt l rs ((d, v') :: L) D H K) : WD C nt (⟨i, some d, .slS x 1 none (some hi) none, gd, []⟩ :: l) rs L D H K := by
  obtain ⟨v', h3, h4, h5⟩ := OpV.cut0 (C := C) (H := H) hx hS h2 hm
  exact WD.op hg hd h3 rfl (stands_nil _ _) (k v' h4 h5)
theorem RdS.mono {M M' : HL} {v : Value} (h : RdS M v) (k : ∀ q ∈ M, q ∈ M') : RdS M' v := by
  rcases h with h | ⟨b, u, o, lo, len, cap, ch, cs, h1, h2, h3⟩
  · exact .inl h
  · exact .inr ⟨b, u, o, lo, len, cap, ch, cs, h1, k _ h2, h3⟩
/-- Nothing appended, or numbers. -/
theorem WD.appR {e : Nat} {s x : Operand} {v y : Value} {xs ys : List Nat} {Mx T : HL} (F : HL) (hg : gOK L gd) (hd : Nat.blt d nt = true) (hs : ev L s = some v) (hy : ev L x = some y) (hO : OwnR e 1 v (nodes xs) Mx) (hH : hasH (F ++ (Mx ++ T)) n H)
    (hS : Sl (F ++ (Mx ++ T)) 1 y (nodes ys)) (hr : RdS (F ++ (Mx ++ T)) y) (hx : xs.length ≤ 1000) (hyl : ys.length ≤ 1000)
    (kk : ∀ v' Mx' n' H', OwnR e 1 v' (nodes (xs ++ ys)) Mx' → hasH (F ++ (Mx' ++ T)) n' H' → n ≤ n' → stands H' lo' rs = true ∧ WD C nt l rs ((d, v') :: L) D H' K) :
    WD C nt (⟨i, some d, .append e 1 s x, gd, lo'⟩ :: l) rs L D H K := by
  by_cases h0 : ys = []
  · subst h0
    have hk : srcLen y = some 0 := by
      generalize hq : nodes [] = q at hS
      cases hS with
      | nil c => rfl
      | emp a => rfl
      | row hm hc hlo hl hv hin hp =>
        rename_i len _ _ _
        have : len = 0 := by rw [← hq] at hl; simpa using hl.symm
        rw [this]; rfl
    have hc0 := hr.src0 hH
    obtain ⟨k1, k2⟩ := kk v Mx n H (by rw [List.append_nil]; exact hO) hH (Nat.le_refl _)
    refine WD.op hg hd (H' := H) (v := v) (fun t ht => ?_) rfl k1 k2
    simp only [opA, ev_ok ht hs, ev_ok ht hy]
    cases hO with
    | mk hl =>
      have hq : Nat.beq 0 0 = true := rfl
      simp only [appendA, hk, hc0, appWith, capOf_open _ (show 1 ≤ 1000 by decide), Nat.beq_refl, cond_true]
  · have hne : nodes ys ≠ [] := fun h => h0 (List.map_eq_nil_iff.1 h)
    have hl0 := List.length_pos_iff.2 h0
    obtain ⟨hk, hsr⟩ := hS.src hH hne
    refine WD.append hg hd hs hy hO.own hH (List.Sublist.refl _) (M0 := F ++ T) (List.perm_append_comm_assoc F Mx T) hk (new := nodes ys) (by have := hsr _ (Nat.le_refl _); rw [List.take_length] at this; exact this) (by simp) (by simp; omega) (by rw [List.all_eq_true]; intro q hq; obtain ⟨z, _, rfl⟩ := List.mem_map.1 hq; rfl) (Nat.le_refl _) (by decide) (by simp; omega) fun v' Mx' n' H' q1 q2 q3 => ?_
    exact kk v' Mx' n' H' (by rw [nodes, List.map_append]; exact q1) (q2.perm (List.perm_append_comm_assoc Mx' F T)) q3
end
end Go.Abs
namespace Go.Proofs.YtmgmkglmjmaipaaDoor.Ct
open Go Go.Abs Go.Mth
set_option linter.unusedVariables false
set_option linter.unusedSimpArgs false
theorem OKM.of_cyc {f : Nat → Nat} {Q O : List (List Nat)} (hQ : OKM Q) (h : CycS f (sizeL Q) O) : OKM O ∧ sizeL O = sizeL Q := by
  have hs : sizeL O = sizeL Q := by rw [← size_flat, h.len]
  exact ⟨⟨fun l hl => (h.cyc l hl).ne, h.nd, by rw [hs]; exact h.lt, by rw [hs]; exact hQ.even, by rw [hs]; exact hQ.le⟩, hs⟩
theorem PtOf.iff {f pt : Nat → Nat} {N : Nat} {Q : List (List Nat)} (h : CycS f N Q) (hp : PtOf Q pt) {x y : Nat} (hx : x < N) (hy : y < N) : pt x = pt y ↔ ∃ l, Cyc f l ∧ x ∈ l ∧ y ∈ l := by
  constructor
  · intro e
    obtain ⟨l, hl, hm⟩ := h.all x hx
    obtain ⟨m, hm2, hy2⟩ := h.all y hy
    obtain ⟨p, hp1, rfl⟩ := mem_getD hl
    obtain ⟨q, hq1, rfl⟩ := mem_getD hm2
    have h1 := hp p hp1 x hm
    have h2 := hp q hq1 y hy2
    have : p = q := by omega
    subst this
    exact ⟨_, h.cyc _ hl, hm, hy2⟩
  · rintro ⟨l, hc, hxl, hyl⟩
    obtain ⟨m, hm, hxm⟩ := h.all x hx
    exact hp.same hm hxm (((h.cyc m hm).same hc hxm hxl).2 hyl)
theorem PtOf.lt {f pt : Nat → Nat} {N : Nat} {Q : List (List Nat)} (h : CycS f N Q) (hp : PtOf Q pt) {x : Nat} (hx : x < N) : pt x < Q.length := by
  obtain ⟨l, hl, hm⟩ := h.all x hx
  obtain ⟨p, hp1, rfl⟩ := mem_getD hl
  rw [hp p hp1 x hm]; exact hp1
theorem loopy_same {f pt pt' : Nat → Nat} {L : Nat} {Q O : List (List Nat)} (h : CycS f (2 * L) Q) (k : CycS f (2 * L) O) (hp : PtOf Q pt) (hp' : PtOf O pt') : loopy pt L ↔ loopy pt' L := by
  have key : ∀ j, j < L → (pt (2 * j) = pt (2 * j + 1) ↔ pt' (2 * j) = pt' (2 * j + 1)) := fun j hj => by
    rw [hp.iff h (by omega) (by omega), hp'.iff k (by omega) (by omega)]
  exact ⟨fun ⟨j, hj, e⟩ => ⟨j, hj, (key j hj).1 e⟩, fun ⟨j, hj, e⟩ => ⟨j, hj, (key j hj).2 e⟩⟩
theorem cols_move {f pt pt' : Nat → Nat} {L c : Nat} {Q O : List (List Nat)} (h : CycS f (2 * L) Q) (k : CycS f (2 * L) O) (hp : PtOf Q pt) (hp' : PtOf O pt') {l : List Nat} (hl : colsOK pt L Q.length c l) : ∃ l', colsOK pt' L O.length c l' := by
  obtain ⟨h1, h2, h3⟩ := hl
  have hg : ∀ e, e < 2 * L → pt ((O.getD (pt' e) []).headD 0) = pt e := fun e he => by
    obtain ⟨m, hm, hem⟩ := k.all e he
    obtain ⟨p, hp1, rfl⟩ := mem_getD hm
    rw [hp' p hp1 e hem]
    have hc := k.cyc _ hm
    exact (hp.iff h (k.lt _ hm _ hc.head) he).2 ⟨_, hc, hc.head, hem⟩
  refine ⟨(List.range O.length).map fun i => l.getD (pt ((O.getD i []).headD 0)) 0, by simp, fun x hx => ?_, fun j hj => ?_⟩
  · obtain ⟨i, hi, rfl⟩ := List.mem_map.1 hx
    have hi' := List.mem_range.1 hi
    have hm := getD_memL hi'
    have := hp.lt h (k.lt _ hm _ (k.cyc _ hm).head)
    exact h2 _ (getD_mem (by omega))
  · have g1 := hp'.lt k (show 2 * j < 2 * L by omega)
    have g2 := hp'.lt k (show 2 * j + 1 < 2 * L by omega)
    have key : ∀ e, e < 2 * L → ((List.range O.length).map fun i => l.getD (pt ((O.getD i []).headD 0)) 0).getD (pt' e) 0 = l.getD (pt e) 0 := fun e he => by
      have g := hp'.lt k he
      rw [map_getD (a := 0) (by simpa using g), getD_eq (show pt' e < (List.range O.length).length by simpa using g), List.getElem_range, hg _ he]
    rw [key _ (by omega), key _ (by omega)]
    exact h3 j hj
theorem few_same {f pt pt' : Nat → Nat} {L a b : Nat} {Q O : List (List Nat)} {l l' : List Nat} (h : CycS f (2 * L) Q) (k : CycS f (2 * L) O) (hp : PtOf Q pt) (hp' : PtOf O pt') (hl : FewR pt L Q.length a l) (hl' : FewR pt' L O.length b l') : a = b := by
  rcases Nat.lt_trichotomy a b with h1 | h1 | h1
  · obtain ⟨m, hm⟩ := cols_move h k hp hp' hl.1
    exact absurd hm (hl'.2.2 a h1 m)
  · exact h1
  · obtain ⟨m, hm⟩ := cols_move k h hp' hp hl'.1
    exact absurd hm (hl.2.2 b h1 m)
/-- A list from a place on. -/
def rotN (k : Nat) (l : List Nat) : List Nat := l.drop k ++ l.take k
theorem rot_perm (k : Nat) (l : List Nat) : (rotN k l).Perm l := by
  unfold rotN
  exact List.perm_append_comm.trans (by rw [List.take_append_drop])
theorem rot_cyc {f : Nat → Nat} {l : List Nat} (h : Cyc f l) {k : Nat} (hk : k < l.length) : Cyc f (rotN k l) := by
  unfold rotN
  rw [List.drop_eq_getElem_cons hk]
  cases ht : l.take k with
  | nil =>
    have : k = 0 := by have := congrArg List.length ht; rw [List.length_take, List.length_nil] at this; omega
    subst this
    rw [List.append_nil, List.getElem_cons_drop hk, List.drop_zero]; exact h
  | cons x A =>
    have e : l = x :: (A ++ l[k] :: l.drop (k + 1)) := by
      rw [← List.cons_append, ← ht, List.getElem_cons_drop hk, List.take_append_drop]
    rw [e] at h
    have := h.rot
    rw [← List.cons_append] at this
    exact this
/-- The map, its points in another order, told from other ends on. -/
def toldRow (Q : List (List Nat)) (t i : Nat) : List Nat := rotN (t % (Q.getD ((i + t) % Q.length) []).length) (Q.getD ((i + t) % Q.length) [])
def toldTo (Q : List (List Nat)) (t k : Nat) : List (List Nat) := (List.range k).map (toldRow Q t)
theorem toldTo_succ (Q : List (List Nat)) (t k : Nat) : toldTo Q t (k + 1) = toldTo Q t k ++ [toldRow Q t k] := by simp [toldTo, List.range_succ]
theorem told_perm (Q : List (List Nat)) (t : Nat) : ((List.range Q.length).map fun i => Q.getD ((i + t) % Q.length) []).Perm Q := by
  by_cases h0 : Q.length = 0
  · have := List.length_eq_zero_iff.1 h0
    subst this; simp
  · have e : ((List.range Q.length).map fun i => Q.getD ((i + t) % Q.length) []) = Q.drop (t % Q.length) ++ Q.take (t % Q.length) := by
      have hm := Nat.mod_lt t (Nat.pos_of_ne_zero h0)
      refine ext_getD (a := []) (by simp; omega) fun i hi => ?_
      have hi' : i < Q.length := by simpa using hi
      rw [map_getD (a := 0) (by simpa using hi'), getD_eq (show i < (List.range Q.length).length by simpa using hi'), List.getElem_range]
      have hmod : (i + t) % Q.length = (i + t % Q.length) % Q.length := by rw [Nat.add_mod, Nat.mod_eq_of_lt hi']
      rw [hmod]
      by_cases h1 : i < Q.length - t % Q.length
      · rw [getD_app_l (by simp; omega), Nat.mod_eq_of_lt (by omega), List.getD_eq_getElem?_getD, List.getD_eq_getElem?_getD, List.getElem?_drop]
        congr 2; omega
      · have e2 : (i + t % Q.length) % Q.length = i + t % Q.length - Q.length := by
          rw [Nat.mod_eq_sub_mod (by omega), Nat.mod_eq_of_lt (by omega)]
        rw [e2, List.getD_eq_getElem?_getD, List.getD_eq_getElem?_getD, List.getElem?_append_right (by simp; omega), List.length_drop, List.getElem?_take_of_lt (by omega)]
        congr 2; omega
    rw [e]
    exact List.perm_append_comm.trans (by rw [List.take_append_drop])
theorem told_cyc {f : Nat → Nat} {N : Nat} {Q : List (List Nat)} (h : CycS f N Q) (t : Nat) : CycS f N (toldTo Q t Q.length).reverse := by
  have hp := told_perm Q t
  have h1 : CycS f N ((List.range Q.length).map fun i => Q.getD ((i + t) % Q.length) []) := h.of_perm hp.symm
  refine CycS.of_perm ?_ (List.reverse_perm _).symm
  have hlen : ∀ i, i < Q.length → Q.getD ((i + t) % Q.length) [] ∈ Q := fun i hi => getD_memL (Nat.mod_lt _ (by omega))
  have hne : ∀ i, i < Q.length → 0 < (Q.getD ((i + t) % Q.length) []).length := fun i hi => List.length_pos_iff.2 (h.cyc _ (hlen i hi)).ne
  have hmem : ∀ l, l ∈ toldTo Q t Q.length → ∃ i, i < Q.length ∧ l = toldRow Q t i := fun l hl => by
    obtain ⟨i, hi, rfl⟩ := List.mem_map.1 hl
    exact ⟨i, List.mem_range.1 hi, rfl⟩
  refine ⟨fun l hl => ?_, fun l hl x hx => ?_, ?_, fun x hx => ?_⟩
  · obtain ⟨i, hi, rfl⟩ := hmem l hl
    exact rot_cyc (h.cyc _ (hlen i hi)) (Nat.mod_lt _ (hne i hi))
  · obtain ⟨i, hi, rfl⟩ := hmem l hl
    exact h.lt _ (hlen i hi) x ((rot_perm _ _).mem_iff.1 hx)
  · have hpf : ∀ k, k ≤ Q.length → (toldTo Q t k).flatten.Perm ((List.range k).map fun i => Q.getD ((i + t) % Q.length) []).flatten := by
      intro k
      induction k with
      | zero => intro _; exact List.Perm.refl _
      | succ k ih =>
        intro hk
        rw [toldTo_succ, List.range_succ, List.map_append, List.flatten_append, List.flatten_append]
        refine List.Perm.append (ih (by omega)) ?_
        simp only [List.map_cons, List.map_nil, List.flatten_cons, List.flatten_nil, List.append_nil]
        exact rot_perm _ _
    exact (hpf _ (Nat.le_refl _)).nodup_iff.2 h1.nd
  · obtain ⟨l, hl, hm⟩ := h1.all x hx
    obtain ⟨i, hi, rfl⟩ := List.mem_map.1 hl
    exact ⟨toldRow Q t i, List.mem_map.2 ⟨i, hi, rfl⟩, (rot_perm _ _).mem_iff.2 hm⟩
theorem OKM.small {Q : List (List Nat)} (h : OKM Q) : (castP Q).length ≤ 1000 ∧ ∀ i, i < (castP Q).length → ((castP Q).getD i []).length ≤ 1000 := by
  have h1 := h.len
  have h2 := h.le
  refine ⟨by rw [castP_len]; omega, fun i hi => ?_⟩
  rw [castP_len] at hi
  rw [castP_get, castL_len]
  have h3 := sizeTo_succ hi
  have h4 := sizeTo_le (P := Q) (j := i + 1) (k := Q.length) hi (Nat.le_refl _)
  rw [sizeTo_all] at h4; omega
theorem tidy_same {Q O ls ls' : List (List Nat)} (hs : sizeL O = sizeL Q) (hc : ∀ f, CycS f (sizeL Q) Q → CycS f (sizeL Q) O) (h : TidyOf Q ls) (k : TidyOf O ls') : ls = ls' := by
  obtain ⟨f, h1, h2⟩ := h
  obtain ⟨g, k1, k2⟩ := k
  rw [hs] at k1 k2
  exact (h2.congr fun x hx => k1.next (hc f h1) hx).unique k2
theorem faces_same {Q O ls ls' : List (List Nat)} (he : sizeL Q % 2 = 0) (hs : sizeL O = sizeL Q) (hc : ∀ f, CycS f (sizeL Q) Q → CycS f (sizeL Q) O) (h : FacesOf Q ls) (k : FacesOf O ls') : ls = ls' := by
  obtain ⟨f, h1, h2⟩ := h
  obtain ⟨g, k1, k2⟩ := k
  rw [hs] at k1 k2
  refine (h2.congr fun x hx => k1.next (hc f h1) ?_).unique k2
  have := oth_lt (L := sizeL Q / 2) (e := x) (by omega)
  omega
theorem rowsN_rev {M : HL} {ws : List Value} {vs : List (List Nat)} (h : RowsN M ws vs) : RowsN M ws.reverse vs.reverse := by
  refine ⟨by simp [h.1], fun i hi => ?_⟩
  have hi' : i < vs.length := by simpa using hi
  rw [getD_eq (by simpa [h.1] using hi'), getD_eq hi, List.getElem_reverse, List.getElem_reverse]
  have := h.2 (vs.length - 1 - i) (by omega)
  rw [getD_eq (by rw [h.1]; omega), getD_eq (by omega)] at this
  have e : ws.length - 1 - i = vs.length - 1 - i := by rw [h.1]
  simpa only [e] using this
theorem CycL.small {f : Nat → Nat} {N : Nat} {ls : List (List Nat)} (h : CycL f N ls) (hN : N ≤ 16) : (castP ls).length ≤ 100000 ∧ ∀ i, i < (castP ls).length → ((castP ls).getD i []).length ≤ 100000 := by
  have h1 := h.count
  have h2 := h.toS.len
  rw [size_flat] at h2
  refine ⟨by rw [castP_len]; omega, fun i hi => ?_⟩
  rw [castP_len] at hi
  rw [castP_get, castL_len]
  have h3 := sizeTo_succ hi
  have h4 := sizeTo_le (P := ls) (j := i + 1) (k := ls.length) hi (Nat.le_refl _)
  rw [sizeTo_all] at h4; omega
theorem FewV.ok {Q : List (List Nat)} {M : HL} {n0 : Nat} {res : Nat → List Nat → Value → Prop} {z e : Value} (h : FewV (castP Q) M n0 res z e) (hQ : OKM Q) :
    ∃ pt, PtOf Q pt ∧ ((loopy pt (sizeL Q / 2) ∧ e = .tuple #[z, .int .i64 12]) ∨ (¬ loopy pt (sizeL Q / 2) ∧ ∃ f l u, f ≤ Q.length ∧ FewR pt (sizeL Q / 2) Q.length f l ∧ res f l u ∧ e = .tuple #[u, .int .i64 0])) := by
  rcases h with ⟨h0, _⟩ | ⟨Q', pt, h1, h2, h3⟩
  · exact absurd (ok_err hQ) h0
  · obtain rfl := castP_inj h1
    exact ⟨pt, h3⟩
theorem eqlB : ∀ a b : Bool, pureRun C.c.P (binOp .eql 4 (.bool a) (.bool b)) = some (.bool (a == b)) := by
  intro a b
  cases a <;> cases b <;> kernel_rfl
end Go.Proofs.YtmgmkglmjmaipaaDoor.Ct

/- Clone, Reverse; points in another order: the law. -/
namespace Go.Proofs.YtmgmkglmjmaipaaDoor.Ct
open Go Go.Abs Go.Mth
set_option linter.unusedVariables false
set_option linter.unusedSimpArgs false
structure NS where
  k : Nat
  v : Value
  os : List Value
  Mo : HL
  Mi : HL
  n : Nat
attribute [local irreducible] gOK WS WC WR WD Ends FS YS OpV seqK blockK loopK midK retK rdK asgK rangeEnd sat Cell
section
variable {M : HL} {n0 : Nat} {H : Heap} {v w : Value}
theorem Clone_fs (hH : hasH M n0 H) {l : List Nat} (hS : Sl M 1 v (nodes l)) (h0 : l ≠ []) (hl : l.length ≤ 1000) :
    FS C 49 [v] H (fun e H' => ∃ Mx n', OwnR 3 1 e (nodes l) Mx ∧ n0 ≤ n' ∧ hasH (Mx ++ M) n' H') := by
  have hne : nodes l ≠ [] := fun h => h0 (List.map_eq_nil_iff.1 h)
  have hl0 : 0 < l.length := List.length_pos_iff.2 h0
  have hsm : ∃ a len cap, v = .slice (some a) len cap := by
    generalize nodes l = cs at hS hne
    cases hS with
    | nil c => exact absurd rfl hne
    | emp a => exact ⟨_, _, _, rfl⟩
    | row => exact ⟨_, _, _, rfl⟩
  obtain ⟨a, len, cap, rfl⟩ := hsm
  refine FS.intro (pf := pf49) rfl rfl rfl ?_
  repeat' (first | refine zP ?_ | refine zA ?_ | (refine zM ?_; intro _ _) | refine zX ?_ | (refine zC ?_; intro _ _ _ _) | (refine zS ?_; intro _ _) | (apply Ws <;> intro hg))
  refine WR.bldS (by first | exact gN | exact gS rfl) rfl hH (vs := []) rfl (cs := []) (by rfl) rfl fun H3 hH3 => ?_
  repeat' (first | refine zP ?_ | refine zA ?_ | (refine zM ?_; intro _ _) | refine zX ?_ | (refine zC ?_; intro _ _ _ _) | (refine zS ?_; intro _ _) | (apply Ws <;> intro hg))
  obtain ⟨hk, hsr⟩ := (hS.cons (p := (n0, .row 3 0 0 []))).src hH3 hne
  refine WR.appendNew (by first | exact gN | exact gS rfl) rfl rfl rfl hH3 (.head _) (.row _ _ _ _) (Nat.zero_le _) (Nat.zero_le _) hk (by have := hsr _ (Nat.le_refl _); rw [List.take_length] at this; exact this) (by simp) (by simp; omega) (nodes_one' _) (by omega) (by omega) (by simp; omega) fun H' hH' => ?_
  repeat' (first | refine zP ?_ | refine zA ?_ | (refine zM ?_; intro _ _) | refine zX ?_ | (refine zC ?_; intro _ _ _ _) | (refine zS ?_; intro _ _) | (apply Ws <;> intro hg))
  exact Ends.ret1 rfl ⟨[(n0 + 1, .row 3 0 0 (nodes l))], n0 + 2, .mk (by simp), by omega, hH'.sub (.cons_cons _ (List.sublist_cons_self _ _))⟩
theorem ReverseV_fs {b u q cp N : Nat} {us : List Value} (hH : hasH ((b, .row 45 u q us) :: M) n0 H) (hul : us.length = N) (hN : N ≤ 1000) (hone : us.all one = true) :
    FS C 57 [.slice (some ⟨b, q, some u⟩) N cp] H (fun e H' => hasH ((b, .row 45 u q us.reverse) :: M) n0 H') := by
  have h1 : ∀ i, i < N → one (us.getD i undef) = true := fun i hi => List.all_eq_true.1 hone _ (getD_mem (by omega))
  refine FS.intro (pf := pf57) rfl rfl rfl ?_
  repeat' (first | refine zP ?_ | refine zA ?_ | (refine zM ?_; intro _ _) | refine zX ?_ | (refine zC ?_; intro _ _ _ _) | (refine zS ?_; intro _ _) | (apply Ws <;> intro hg))
  refine WC.loopX [(0, .slice (some ⟨b, q, some u⟩) N cp)] (fun s : Nat × List Value => [(2, .int .i64 (s.1 : Int)), (3, .int .i64 ((N : Int) - 1 - s.1))]) []
    (fun s H' => hasH ((b, .row 45 u q s.2) :: M) n0 H' ∧ 2 * s.1 ≤ N ∧ s.2.length = N ∧ ∀ k, k < N → s.2.getD k undef = if k < s.1 ∨ N - s.1 ≤ k then us.getD (N - 1 - k) undef else us.getD k undef) (fun s => N - s.1) (0, us) ?_ rfl
    ⟨hH, Nat.zero_le _, hul, fun k hk => by simp only; rw [if_neg (by omega)]⟩ ?_
  · refine .cons rfl (.cons ?_ (.cons rfl .nil))
    show some (Value.int .i64 ((N : Int) - 1)) = some (.int .i64 ((N : Int) - 1 - ((0 : Nat) : Int)))
    simp
  clear hH
  rintro ⟨k, ys⟩ H1 ⟨hH1, hk, hyl, hys⟩
  simp only at hH1 hk hyl hys
  dsimp only [List.cons_append, List.nil_append]
  repeat' (first | refine zP ?_ | refine zA ?_ | (refine zM ?_; intro _ _) | refine zX ?_ | (refine zC ?_; intro _ _ _ _) | (refine zS ?_; intro _ _) | (apply Ws <;> intro hg))
  refine WC.condP rfl (fun hlt => ?_) (fun hlt => ?_)
  · have hk' : k < N := by omega
    obtain ⟨j, hj⟩ : ∃ j : Nat, (N : Int) - 1 - k = j := ⟨N - 1 - k, by omega⟩
    rw [hj]
    have hjk := hys j (by omega)
    have hkk := hys k (by omega)
    rw [if_neg (by omega)] at hjk hkk
    have g1 : one (ys.getD j undef) = true := by rw [hjk]; exact h1 j (by omega)
    have g2 : one (ys.getD k undef) = true := by rw [hkk]; exact h1 k (by omega)
    repeat' (first | refine zP ?_ | refine zA ?_ | (refine zM ?_; intro _ _) | refine zX ?_ | (refine zC ?_; intro _ _ _ _) | (refine zS ?_; intro _ _) | (apply Ws <;> intro hg))
    refine WR.op (by first | exact gN | exact gS rfl) rfl (OpV.load1 (v := ys.getD j undef) rfl hH1 (.head _) (.row _ _ _ _) (Nat.le_add_right _ _) (by rw [show q + j - q = j by omega]; exact vals_get (by omega))) ?_
    repeat' (first | refine zP ?_ | refine zA ?_ | (refine zM ?_; intro _ _) | refine zX ?_ | (refine zC ?_; intro _ _ _ _) | (refine zS ?_; intro _ _) | (apply Ws <;> intro hg))
    refine WR.op (by first | exact gN | exact gS rfl) rfl (OpV.load1 (v := ys.getD k undef) rfl hH1 (.head _) (.row _ _ _ _) (Nat.le_add_right _ _) (by rw [show q + k - q = k by omega]; exact vals_get (by omega))) ?_
    repeat' (first | refine zP ?_ | refine zA ?_ | (refine zM ?_; intro _ _) | refine zX ?_ | (refine zC ?_; intro _ _ _ _) | (refine zS ?_; intro _ _) | (apply Ws <;> intro hg))
    refine WR.store1 (cs' := ys.set k (ys.getD j undef)) (by first | exact gN | exact gS rfl) hH1 rfl rfl g1 .here (Nat.le_add_right _ _) (by omega) (by rw [show q + k - q = k by omega]) fun H2 hH2 => ?_
    have hl2 : (ys.set k (ys.getD j undef)).length = N := by simp [hyl]
    repeat' (first | refine zP ?_ | refine zA ?_ | (refine zM ?_; intro _ _) | refine zX ?_ | (refine zC ?_; intro _ _ _ _) | (refine zS ?_; intro _ _) | (apply Ws <;> intro hg))
    refine WR.store1 (cs' := (ys.set k (ys.getD j undef)).set j (ys.getD k undef)) (by first | exact gN | exact gS rfl) hH2 rfl rfl g2 .here (Nat.le_add_right _ _) (by omega) (by rw [show q + j - q = j by omega]) fun H3 hH3 => ?_
    repeat' (first | refine zP ?_ | refine zA ?_ | (refine zM ?_; intro _ _) | refine zX ?_ | (refine zC ?_; intro _ _ _ _) | (refine zS ?_; intro _ _) | (apply Ws <;> intro hg))
    rw [show (j : Int) - 1 = (N : Int) - 1 - ((k + 1 : Nat) : Int) by omega]
    refine Ends.loop (k + 1, (ys.set k (ys.getD j undef)).set j (ys.getD k undef)) (by simp only; omega) (by repeat' (first | exact .nil | refine .cons rfl ?_)) rfl ⟨hH3, by simp only; omega, by simp [hyl], fun i hi => ?_⟩
    simp only
    rw [getD_set' (by omega), getD_set' (by omega)]
    by_cases h1 : i = j
    · rw [if_pos h1, if_pos (by omega), hkk]; congr 1; omega
    · rw [if_neg h1]
      by_cases h2 : i = k
      · rw [if_pos h2, if_pos (by omega), hjk]; congr 1; omega
      · rw [if_neg h2, hys i hi]
        by_cases h3 : i < k ∨ N - k ≤ i
        · rw [if_pos h3, if_pos (by omega)]
        · rw [if_neg h3, if_neg (by omega)]
  · have hre : ys = us.reverse := by
      refine ext_getD (a := undef) (by simp [hyl, hul]) fun i hi => ?_
      rw [hys i (by omega), getD_eq (show i < us.reverse.length by simp; omega), List.getElem_reverse]
      by_cases h3 : i < k ∨ N - k ≤ i
      · rw [if_pos h3, getD_eq (by omega)]
        congr 1; omega
      · rw [if_neg h3, getD_eq (by omega)]
        congr 1; omega
    subst hre
    repeat' (first | refine zP ?_ | refine zA ?_ | (refine zM ?_; intro _ _) | refine zX ?_ | (refine zC ?_; intro _ _ _ _) | (refine zS ?_; intro _ _) | (apply Ws <;> intro hg))
    exact Ends.end0 hH1
theorem Reverse0_fs (H : Heap) : FS C 57 [.slice none 0 0] H (fun e H' => H' = H) := by
  refine FS.intro (pf := pf57) rfl rfl rfl ?_
  repeat' (first | refine zP ?_ | refine zA ?_ | (refine zM ?_; intro _ _) | refine zX ?_ | (refine zC ?_; intro _ _ _ _) | (refine zS ?_; intro _ _) | (apply Ws <;> intro hg))
  refine WC.loopX [(0, .slice none 0 0)] (fun s : Nat => [(2, .int .i64 0), (3, .int .i64 (-1))]) [] (fun s H' => H' = H) (fun s => 0) 0 (by repeat' (first | exact .nil | refine .cons rfl ?_)) rfl rfl ?_
  rintro _ _ rfl
  dsimp only [List.cons_append, List.nil_append]
  repeat' (first | refine zP ?_ | refine zA ?_ | (refine zM ?_; intro _ _) | refine zX ?_ | (refine zC ?_; intro _ _ _ _) | (refine zS ?_; intro _ _) | (apply Ws <;> intro hg))
  exact Ends.end0 rfl
set_option maxHeartbeats 8000000 in
theorem ChartNamed_fs (hH : hasH M n0 H) {x b : Nat} {ord : List Nat} (hx : x ≤ 255) (ho : ord.length = 16) (hob : ∀ y ∈ ord, y ≤ 255) (hb : b < 65536) {t : Nat} (ht : t ≤ 255) :
    FS C 13 [.agg (skV x ord b).toArray, .int .u8 (t : Int)] H (fun e H' => e = .bool true) := by
  have hone := sk_one x ord b
  have hsl : (skV x ord b).length = 18 := by simp [skV, ho]
  refine FS.intro (pf := pf13) rfl rfl rfl ?_
  repeat' (first | refine zP ?_ | refine zA ?_ | (refine zM ?_; intro _ _) | refine zX ?_ | (refine zC ?_; intro _ _ _ _) | (refine zS ?_; intro _ _))
  rename_i H1 hH1
  refine WR.call (by first | exact gN | exact gS rfl) rfl rfl (made_fs hH1.tail hx ho hob hb (most := 8) (by omega)) ?_
  rintro _ H2 ⟨Q, u, hQ, hQ8, rfl, M2, n2, hn2, hH2, hRu⟩
  clear hH hH1
  have hu1 := hRu.one_
  have hle := hQ.le
  have hlen := hQ.len
  have hcp := castP_len Q
  obtain ⟨ws, hSu, hRw⟩ := rowsI_nat hRu
  have hwl := hRw.1
  repeat' (first | refine zP ?_ | refine zA ?_ | (refine zM ?_; intro _ _) | refine zX ?_ | (refine zC ?_; intro _ _ _ _) | (refine zS ?_; intro _ _) | (apply Ws <;> intro hg))
  rename_i H3 hH3
  refine WR.storeAll (by first | exact gN | exact gS rfl) hH3 rfl rfl (ls := [u]) (by simp [Value.cells]) rfl .here (one_one hu1) rfl fun H4 hH4 => ?_
  obtain ⟨M3, hM3⟩ : ∃ M3, M3 = M2 ++ M := ⟨_, rfl⟩
  rw [← hM3] at hH4
  clear hH2 hH3
  have hR3 : RowsI M3 u (castP Q) := by rw [hM3]; exact hRu.mono fun q hq => List.mem_append_left _ hq
  have hSu3 : Sl M3 1 u ws := by rw [hM3]; exact hSu.mono fun q hq => List.mem_append_left _ hq
  have hrow3 : ∀ i, i < Q.length → Sl M3 1 (ws.getD i undef) (nodes (Q.getD i [])) := fun i hi => by rw [hM3]; exact (hRw.2 i hi).mono fun q hq => List.mem_append_left _ hq
  clear hRu hSu hRw hM3
  repeat' (first | refine zP ?_ | refine zA ?_ | (refine zM ?_; intro _ _) | refine zX ?_ | (refine zC ?_; intro _ _ _ _) | (refine zS ?_; intro _ _) | (apply Ws <;> intro hg))
  rename_i H5 hH5
  rw [hwl]
  refine WC.loopX [(1, .int .u8 (t : Int)), (5, .pointer (some ⟨n2, 0, some 0⟩)), (6, .pointer (some ⟨n2 + 1, 0, some 0⟩)), (7, .int .i64 (Q.length : Int)), (27, u), (28, .int .i64 (Q.length : Int))] (fun a : NS => [(29, .int .i64 (a.k : Int))]) []
    (fun a H' => a.k ≤ Q.length ∧ n2 + 2 ≤ a.n ∧ ((a.k = 0 ∧ a.v = .slice none 0 0 ∧ a.os = [] ∧ a.Mo = []) ∨ OwnR 45 1 a.v a.os a.Mo) ∧ RowsN (a.Mi ++ []) a.os (toldTo Q t a.k) ∧ hasH ((n2 + 1, .row 24 0 0 [a.v]) :: (n2, .row 24 0 0 [u]) :: (a.Mo ++ (a.Mi ++ M3))) a.n H') (fun a => Q.length - a.k) ⟨0, .slice none 0 0, [], [], [], n2 + 2⟩ (by repeat' (first | exact .nil | refine .cons rfl ?_)) rfl
    ⟨Nat.zero_le _, Nat.le_refl _, .inl ⟨rfl, rfl, rfl, rfl⟩, ⟨rfl, fun i h => absurd h (Nat.not_lt_zero _)⟩, hH5⟩ ?_
  clear hH4 hH5
  rintro ⟨k, ov, os, Mo, Mi, n3⟩ H6 ⟨hk, hn3, hO, hRo, hH6⟩
  simp only at hk hn3 hO hRo hH6
  have hosl : os.length = k := by rw [hRo.1]; simp [toldTo]
  dsimp only [List.cons_append, List.nil_append]
  repeat' (first | refine zP ?_ | refine zA ?_ | (refine zM ?_; intro _ _) | refine zX ?_ | (refine zC ?_; intro _ _ _ _) | (refine zS ?_; intro _ _) | (apply Ws <;> intro hg))
  refine WC.condP rfl (fun hlt => ?_) (fun hlt => ?_)
  · have hk' : k < Q.length := by omega
    have hOwn : Own 45 1 ov os Mo := by
      rcases hO with ⟨_, rfl, rfl, rfl⟩ | h
      · exact .nil
      · exact h.own
    have hjl : (k + t) % Q.length < Q.length := Nat.mod_lt _ (by omega)
    have hSj := hrow3 _ hjl
    obtain ⟨hnd, hl1, hlt16⟩ := hQ.row hjl
    have hrl16 : (Q.getD ((k + t) % Q.length) []).length ≤ 16 := by
      have h1 := sizeTo_succ hjl
      have h2 := sizeTo_le (P := Q) (j := (k + t) % Q.length + 1) (k := Q.length) hjl (Nat.le_refl _)
      rw [sizeTo_all] at h2; omega
    have hmn : ∀ q ∈ M3, q ∈ (n2 + 1, Ch.row 24 0 0 [ov]) :: (n2, .row 24 0 0 [u]) :: (Mo ++ (Mi ++ M3)) := fun q hq => by simp [hq]
    have hSu6 := hSu3.mono hmn
    have hSj6 := hSj.mono hmn
    have hov1 := (hOwn.sl M3).one_
    repeat' (first | refine zP ?_ | refine zA ?_ | (refine zM ?_; intro _ _) | refine zX ?_ | (refine zC ?_; intro _ _ _ _) | (refine zS ?_; intro _ _) | (apply Ws <;> intro hg))
    refine WR.op (by first | exact gN | exact gS rfl) rfl (OpV.conv u8k i64k rfl (c := (t : Int)) (IntWalk.i64_in _ (by omega))) ?_
    repeat' (first | refine zP ?_ | refine zR ?_ | (refine zM ?_; intro _ _) | refine zX ?_ | (refine zC ?_; intro _ _ _ _) | (refine zS ?_; intro _ _))
    rw [show ((k : Int) + (t : Int)) % (Q.length : Int) = (((k + t) % Q.length : Nat) : Int) by simp]
    repeat' (first | refine zP ?_ | refine zA ?_ | (refine zM ?_; intro _ _) | refine zX ?_ | (refine zC ?_; intro _ _ _ _) | (refine zS ?_; intro _ _) | (apply Ws <;> intro hg))
    refine WR.op (by first | exact gN | exact gS rfl) rfl (OpV.conv u8k i64k rfl (c := (t : Int)) (IntWalk.i64_in _ (by omega))) ?_
    repeat' (first | refine zP ?_ | refine zR ?_ | (refine zM ?_; intro _ _) | refine zX ?_ | (refine zC ?_; intro _ _ _ _) | (refine zS ?_; intro _ _))
    rw [show (t : Int) % ((Q.getD ((k + t) % Q.length) []).length : Int) = ((t % (Q.getD ((k + t) % Q.length) []).length : Nat) : Int) by simp]
    have hmod := Nat.mod_lt t (show 0 < (Q.getD ((k + t) % Q.length) []).length by omega)
    have htr : toldRow Q t k = rotN (t % (Q.getD ((k + t) % Q.length) []).length) (Q.getD ((k + t) % Q.length) []) := rfl
    obtain ⟨r, hr⟩ : ∃ r, r = Q.getD ((k + t) % Q.length) [] := ⟨_, rfl⟩
    obtain ⟨j, hj⟩ : ∃ j, j = t % r.length := ⟨_, rfl⟩
    rw [← hr] at hSj6 hrl16 hmod htr ⊢
    rw [← hj] at hmod htr ⊢
    repeat' (first | refine zP ?_ | refine zA ?_ | (refine zM ?_; intro _ _) | refine zX ?_ | (refine zC ?_; intro _ _ _ _) | (refine zS ?_; intro _ _) | (apply Ws <;> intro hg))
    refine WC.regionD ?_
    repeat' (first | refine zD ?_ | (refine zE ?_; intro _ _ _ _))
    have hovs : same1 ov ov = true := (hOwn.sl M3).same
    refine WD.cutFrom (by first | exact gN | exact gS rfl) rfl rfl hSj6 rfl (by omega) fun v1 hs1 => ?_
    repeat' (first | refine zD ?_ | (refine zE ?_; intro _ _ _ _))
    refine WD.cut0 (by first | exact gN | exact gS rfl) rfl rfl hSj6 rfl (by omega) fun v2 hs2 hr2 => ?_
    repeat' (first | refine zD ?_ | (refine zE ?_; intro _ _ _ _))
    refine WD.call (by first | exact gN | exact gS rfl) rfl rfl (Clone_fs hH6 hs1 (fun e => by have := congrArg List.length e; rw [List.length_drop, List.length_nil] at this; omega) (by rw [List.length_drop]; omega)) ?_
    rintro vc H7 ⟨Mc, n7, hOc, hn7, hH7⟩
    refine ⟨stands_cons (.inr (holds_at (hH7.read (List.mem_append_right _ (.head _)) (.row _ _ _ _) (Nat.le_refl _) rfl) hovs)) stands_nil', ?_⟩
    refine WD.appR [] (by first | exact gN | exact gS rfl) rfl rfl rfl hOc hH7 (hs2.mono fun q hq => List.mem_append_right [] (List.mem_append_right Mc hq)) (hr2.mono fun q hq => List.mem_append_right [] (List.mem_append_right Mc hq)) (by rw [List.length_drop]; omega) (by rw [List.length_take]; omega) fun v3 M4 n8 H8 hO8 hH8 hn8 => ?_
    replace hH8 : hasH (M4 ++ ((n2 + 1, .row 24 0 0 [ov]) :: (n2, .row 24 0 0 [u]) :: (Mo ++ (Mi ++ M3)))) n8 H8 := hH8
    refine ⟨stands_cons (.inr (holds_at (hH8.read (List.mem_append_right _ (.head _)) (.row _ _ _ _) (Nat.le_refl _) rfl) hovs)) stands_nil', ?_⟩
    have hv3 := (hO8.own.sl M3).one_
    refine WD.append1F (new := v3) (M4 ++ [(n2 + 1, .row 24 0 0 [ov]), (n2, .row 24 0 0 [u])]) Mo (Mi ++ M3) rfl rfl rfl rfl hOwn (by rw [List.append_assoc]; exact hH8) (fill1 hv3) hv3 (by omega)
      (fun H9 hH9 => stands_cons (.inr (holds_at (hH9.read (b := n2 + 1) (ch := .row 24 0 0 [ov]) (.tail _ (List.mem_append_left _ (List.mem_append_right _ (.head _)))) (.row _ _ _ _) (Nat.le_refl _) rfl) hovs)) stands_nil')
      fun v4 M5 n9 H9 hO9 hH9 hn9 => ⟨stands_cons (.inl rfl) stands_nil', ?_⟩
    refine WD.toWR rfl ?_
    have hv4 := (hO9.own.sl M3).one_
    replace hH9 : hasH ((n2 + 1, .row 24 0 0 [ov]) :: (n2, .row 24 0 0 [u]) :: (M5 ++ ((M4 ++ Mi) ++ M3))) n9 H9 := by
      refine hH9.perm ?_
      rw [List.append_assoc, List.append_assoc]
      refine (List.perm_append_comm_assoc M4 [_, _] (M5 ++ (Mi ++ M3))).trans ?_
      exact List.Perm.cons _ (List.Perm.cons _ (List.perm_append_comm_assoc M4 M5 (Mi ++ M3)))
    clear hH6 hH7 hH8
    repeat' (first | refine zP ?_ | refine zA ?_ | (refine zM ?_; intro _ _) | refine zX ?_ | (refine zC ?_; intro _ _ _ _) | (refine zS ?_; intro _ _) | (apply Ws <;> intro hg))
    rename_i H10 hH10
    refine Ends.loop ⟨k + 1, v4, os ++ [v3], M5, M4 ++ Mi, n9⟩ (by simp only; omega) (by repeat' (first | exact .nil | refine .cons rfl ?_)) rfl ⟨hk', by simp only; omega, .inr hO9, ?_, hH10⟩
    simp only
    rw [toldTo_succ, htr]
    exact rowsN_snoc hRo (hO8.own.sl [])
  · have hkQ : k = Q.length := by omega
    subst hkQ
    obtain ⟨O, hOO⟩ : ∃ O, O = (toldTo Q t Q.length).reverse := ⟨_, rfl⟩
    have hrev : FS C 57 [ov] H6 (fun e H' => ∃ Mo', hasH ((n2 + 1, .row 24 0 0 [ov]) :: (n2, .row 24 0 0 [u]) :: (Mo' ++ (Mi ++ M3))) n3 H' ∧ Sl Mo' 1 ov os.reverse) := by
      rcases hO with ⟨hk0, rfl, rfl, rfl⟩ | h
      · exact (Reverse0_fs H6).mono fun e H' h => ⟨[], by rw [h]; exact hH6, .nil 0⟩
      · have hoa : os.all one = true := by
          rw [List.all_eq_true]
          intro q hq
          obtain ⟨i, hi, rfl⟩ := List.mem_iff_getElem.1 hq
          have := hRo.2 i (by rw [← hRo.1]; exact hi)
          rw [getD_eq hi] at this
          exact this.one_
        have hop := h.own.sl []
        cases h with
        | mk hl =>
          rename_i bo uo oo len
          have hln : len = Q.length := by omega
          subst hln
          have hH7 : hasH ((bo, .row 45 uo oo os) :: (n2 + 1, .row 24 0 0 [.slice (some ⟨bo, oo, some uo⟩) Q.length (2 * 1)]) :: (n2, .row 24 0 0 [u]) :: (Mi ++ M3)) n3 H6 := hH6.perm (List.perm_middle (l₁ := [_, _]))
          refine (ReverseV_fs hH7 hosl (by omega) hoa).mono fun e H' h => ⟨[(bo, .row 45 uo oo os.reverse)], h.perm (List.perm_middle (l₁ := [_, _])).symm, ?_⟩
          exact .row (.head _) (.row _ _ _ _) (Nat.le_refl _) (by simp [hosl]) (by rw [Nat.sub_self, List.drop_zero, List.take_of_length_le (Nat.le_refl _)]) (by simp) (.inl (.inl rfl))
    repeat' (first | refine zP ?_ | refine zA ?_ | (refine zM ?_; intro _ _) | refine zX ?_ | (refine zC ?_; intro _ _ _ _) | (refine zS ?_; intro _ _) | (apply Ws <;> intro hg))
    refine WR.call (by first | exact gN | exact gS rfl) rfl rfl hrev ?_
    rintro _ H7 ⟨Mo', hH7, hSo⟩
    clear hH6 hrev hO
    have hov1 := hSo.one_
    have hRO : RowsI (Mo' ++ (Mi ++ M3)) ov (castP O) := by
      rw [hOO]
      exact rowsI_of (ws := os.reverse) (hSo.mono fun q hq => List.mem_append_left _ hq) ((rowsN_rev hRo).mono fun q hq => List.mem_append_right _ (List.mem_append_left _ (by simpa using hq)))
    have hRQ : RowsI (Mo' ++ (Mi ++ M3)) u (castP Q) := hR3.mono fun q hq => List.mem_append_right _ (List.mem_append_right _ hq)
    generalize Mo' ++ (Mi ++ M3) = X at hH7 hRO hRQ
    clear hRo hSo hR3 hSu3 hrow3 hosl
    have hcO : ∀ f, CycS f (sizeL Q) Q → CycS f (sizeL Q) O := fun f hf => by rw [hOO]; exact told_cyc hf t
    obtain ⟨hQ1, hQ2⟩ := hQ.small
    repeat' (first | refine zP ?_ | refine zA ?_ | (refine zM ?_; intro _ _) | refine zX ?_ | (refine zC ?_; intro _ _ _ _) | (refine zS ?_; intro _ _) | (apply Ws <;> intro hg))
    refine WR.call (by first | exact gN | exact gS rfl) rfl rfl (Tidy_fs hH7 hRQ.cons.cons hQ1 hQ2) ?_
    rintro _ H8 h8
    obtain ⟨ls1, M4, n4, w1, hT1, hn4, hH8, hR8, rfl⟩ := h8.ok hQ
    obtain ⟨f0, hf0, _⟩ := id hT1
    obtain ⟨hO, hsO⟩ := hQ.of_cyc (hcO f0 hf0)
    obtain ⟨hO1, hO2⟩ := hO.small
    have hw1 := hR8.one_
    repeat' (first | refine zP ?_ | refine zA ?_ | (refine zM ?_; intro _ _) | refine zX ?_ | (refine zC ?_; intro _ _ _ _) | (refine zS ?_; intro _ _) | (apply Ws <;> intro hg))
    rename_i H9 hH9
    refine WR.storeAll (by first | exact gN | exact gS rfl) hH9 rfl rfl (ls := [w1]) (by simp [Value.cells]) rfl .here (one_one hw1) rfl fun H10 hH10 => ?_
    clear hH7 hH8 hH9
    replace hH10 : hasH ((n4, .row 24 0 0 [w1]) :: (n2 + 1, .row 24 0 0 [ov]) :: (n2, .row 24 0 0 [u]) :: (M4 ++ X)) (n4 + 1) H10 := hH10.perm (List.Perm.cons _ (List.perm_append_comm_assoc M4 [_, _] X))
    replace hRQ := hRQ.mono (M' := M4 ++ X) fun q hq => List.mem_append_right _ hq
    replace hRO := hRO.mono (M' := M4 ++ X) fun q hq => List.mem_append_right _ hq
    replace hR8 := hR8.mono (M' := M4 ++ X) fun q hq => List.mem_append_left _ hq
    generalize M4 ++ X = X at hH10 hRQ hRO hR8
    repeat' (first | refine zP ?_ | refine zA ?_ | (refine zM ?_; intro _ _) | refine zX ?_ | (refine zC ?_; intro _ _ _ _) | (refine zS ?_; intro _ _) | (apply Ws <;> intro hg))
    refine WR.call (by first | exact gN | exact gS rfl) rfl rfl (Tidy_fs hH10 hRO.cons.cons.cons hO1 hO2) ?_
    rintro _ H11 h11
    obtain ⟨ls2, M5, n5, w2, hT2, hn5, hH11, hR11, rfl⟩ := h11.ok hO
    have hw2 := hR11.one_
    repeat' (first | refine zP ?_ | refine zA ?_ | (refine zM ?_; intro _ _) | refine zX ?_ | (refine zC ?_; intro _ _ _ _) | (refine zS ?_; intro _ _) | (apply Ws <;> intro hg))
    rename_i H12 hH12
    refine WR.storeAll (by first | exact gN | exact gS rfl) hH12 rfl rfl (ls := [w2]) (by simp [Value.cells]) rfl .here (one_one hw2) rfl fun H13 hH13 => ?_
    clear hH10 hH11 hH12
    replace hH13 : hasH ((n5, .row 24 0 0 [w2]) :: (n4, .row 24 0 0 [w1]) :: (n2 + 1, .row 24 0 0 [ov]) :: (n2, .row 24 0 0 [u]) :: (M5 ++ X)) (n5 + 1) H13 := hH13.perm (List.Perm.cons _ (List.perm_append_comm_assoc M5 [_, _, _] X))
    replace hRQ := hRQ.mono (M' := M5 ++ X) fun q hq => List.mem_append_right _ hq
    replace hRO := hRO.mono (M' := M5 ++ X) fun q hq => List.mem_append_right _ hq
    replace hR8 := hR8.mono (M' := M5 ++ X) fun q hq => List.mem_append_right _ hq
    replace hR11 := hR11.mono (M' := M5 ++ X) fun q hq => List.mem_append_left _ hq
    generalize M5 ++ X = X at hH13 hRQ hRO hR8 hR11
    repeat' (first | refine zP ?_ | refine zA ?_ | (refine zM ?_; intro _ _) | refine zX ?_ | (refine zC ?_; intro _ _ _ _) | (refine zS ?_; intro _ _) | (apply Ws <;> intro hg))
    refine WR.call (by first | exact gN | exact gS rfl) rfl rfl (Faces_fs hH13 hRQ.cons.cons.cons.cons hQ1 hQ2) ?_
    rintro _ H14 h14
    obtain ⟨ls3, M6, n6, w3, hT3, hn6, hH14, hR14, rfl⟩ := h14.ok hQ
    clear hH13
    replace hH14 : hasH ((n5, .row 24 0 0 [w2]) :: (n4, .row 24 0 0 [w1]) :: (n2 + 1, .row 24 0 0 [ov]) :: (n2, .row 24 0 0 [u]) :: (M6 ++ X)) n6 H14 := hH14.perm (List.perm_append_comm_assoc M6 [_, _, _, _] X)
    replace hRQ := hRQ.mono (M' := M6 ++ X) fun q hq => List.mem_append_right _ hq
    replace hRO := hRO.mono (M' := M6 ++ X) fun q hq => List.mem_append_right _ hq
    replace hR8 := hR8.mono (M' := M6 ++ X) fun q hq => List.mem_append_right _ hq
    replace hR11 := hR11.mono (M' := M6 ++ X) fun q hq => List.mem_append_right _ hq
    replace hR14 := hR14.mono (M' := M6 ++ X) fun q hq => List.mem_append_left _ hq
    generalize M6 ++ X = X at hH14 hRQ hRO hR8 hR11 hR14
    repeat' (first | refine zP ?_ | refine zA ?_ | (refine zM ?_; intro _ _) | refine zX ?_ | (refine zC ?_; intro _ _ _ _) | (refine zS ?_; intro _ _) | (apply Ws <;> intro hg))
    refine WR.call (by first | exact gN | exact gS rfl) rfl rfl (Faces_fs hH14 hRO.cons.cons.cons.cons hO1 hO2) ?_
    rintro _ H15 h15
    obtain ⟨ls4, M7, n7, w4, hT4, hn7, hH15, hR15, rfl⟩ := h15.ok hO
    clear hH14
    replace hH15 : hasH ((n5, .row 24 0 0 [w2]) :: (n4, .row 24 0 0 [w1]) :: (n2 + 1, .row 24 0 0 [ov]) :: (n2, .row 24 0 0 [u]) :: (M7 ++ X)) n7 H15 := hH15.perm (List.perm_append_comm_assoc M7 [_, _, _, _] X)
    replace hRQ := hRQ.mono (M' := M7 ++ X) fun q hq => List.mem_append_right _ hq
    replace hRO := hRO.mono (M' := M7 ++ X) fun q hq => List.mem_append_right _ hq
    replace hR8 := hR8.mono (M' := M7 ++ X) fun q hq => List.mem_append_right _ hq
    replace hR11 := hR11.mono (M' := M7 ++ X) fun q hq => List.mem_append_right _ hq
    replace hR14 := hR14.mono (M' := M7 ++ X) fun q hq => List.mem_append_right _ hq
    replace hR15 := hR15.mono (M' := M7 ++ X) fun q hq => List.mem_append_left _ hq
    generalize M7 ++ X = X at hH15 hRQ hRO hR8 hR11 hR14 hR15
    obtain rfl := tidy_same hsO hcO hT1 hT2
    obtain rfl := faces_same hQ.even hsO hcO hT3 hT4
    obtain ⟨_, _, hc1⟩ := id hT1
    obtain ⟨_, _, hc3⟩ := id hT3
    obtain ⟨hz1, hz2⟩ := hc1.small hle
    obtain ⟨hz3, hz4⟩ := hc3.small hle
    repeat' (first | refine zP ?_ | refine zA ?_ | (refine zM ?_; intro _ _) | refine zX ?_ | (refine zC ?_; intro _ _ _ _) | (refine zS ?_; intro _ _) | refine zO ?_ | (apply Ws <;> intro hg))
    refine WR.call (by first | exact gN | exact gS rfl) rfl rfl (leq_fs hH15 hR8.cons.cons.cons.cons hR11.cons.cons.cons.cons hz1 hz2) ?_
    rintro _ _ ⟨rfl, rfl⟩
    rw [decide_eq_true rfl]
    repeat' (first | refine zP ?_ | refine zA ?_ | (refine zM ?_; intro _ _) | refine zX ?_ | (refine zC ?_; intro _ _ _ _) | (refine zS ?_; intro _ _) | refine zO ?_ | (apply Ws <;> intro hg))
    refine WR.call (by first | exact gN | exact gS rfl) rfl rfl (leq_fs hH15 hR14.cons.cons.cons.cons hR15.cons.cons.cons.cons hz3 hz4) ?_
    rintro _ _ ⟨rfl, rfl⟩
    rw [decide_eq_true rfl]
    repeat' (first | refine zP ?_ | refine zA ?_ | (refine zM ?_; intro _ _) | refine zX ?_ | (refine zC ?_; intro _ _ _ _) | (refine zS ?_; intro _ _) | refine zO ?_ | (apply Ws <;> intro hg))
    refine WR.call (by first | exact gN | exact gS rfl) rfl rfl (Fewest_fs hH15 hRQ.cons.cons.cons.cons hQ1 hQ2) ?_
    rintro _ H16 ⟨n8, hn8, hH16, h16⟩
    obtain ⟨pt, hpt, hcase⟩ := h16.ok hQ
    clear hH15
    have hp2 := hQ.pair
    have hS1 : CycS f0 (2 * (sizeL Q / 2)) Q := by rw [← hp2]; exact hf0
    have hS2 : CycS f0 (2 * (sizeL Q / 2)) O := by rw [← hp2]; exact hcO f0 hf0
    rcases hcase with ⟨hlo, rfl⟩ | ⟨hnl, fq, lq, uq, hfq, hFq, hres, rfl⟩
    · repeat' (first | refine zP ?_ | refine zA ?_ | (refine zM ?_; intro _ _) | refine zX ?_ | (refine zC ?_; intro _ _ _ _) | (refine zS ?_; intro _ _) | (apply Ws <;> intro hg))
      refine WR.call (by first | exact gN | exact gS rfl) rfl rfl (Fewest_fs hH16 hRO.cons.cons.cons.cons hO1 hO2) ?_
      rintro _ H17 ⟨n9, hn9, hH17, h17⟩
      obtain ⟨pt2, hpt2, hcase⟩ := h17.ok hO
      clear hH16
      rw [hsO] at hcase
      have hll := loopy_same hS1 hS2 hpt hpt2
      rcases hcase with ⟨hlo2, rfl⟩ | ⟨hnl2, _⟩
      · repeat' (first | refine zP ?_ | refine zA ?_ | (refine zM ?_; intro _ _) | refine zX ?_ | (refine zC ?_; intro _ _ _ _) | (refine zS ?_; intro _ _) | refine zO ?_ | (apply Ws <;> intro hg))
        refine WR.call (by first | exact gN | exact gS rfl) rfl rfl (looped_fs hH17 hQ hRQ.cons.cons.cons.cons) ?_
        rintro _ H18 ⟨n10, pt3, hn10, hH18, hpt3, _, bb, hbb, rfl⟩
        obtain rfl := hbb.2 ((loopy_same hS1 hS1 hpt hpt3).1 hlo)
        refine WR.op (by first | exact gN | exact gS rfl) rfl (OpV.eqB (eqlB _ _) rfl rfl) ?_
        rw [show (decide ((12 : Int) = 12) == true) = true by decide]
        repeat' (first | refine zP ?_ | refine zA ?_ | (refine zM ?_; intro _ _) | refine zX ?_ | (refine zC ?_; intro _ _ _ _) | (refine zS ?_; intro _ _) | refine zO ?_ | (apply Ws <;> intro hg))
        refine WR.call (by first | exact gN | exact gS rfl) rfl rfl (FS.works ⟨rfl, rfl⟩ : FS C _ [] _ (fun e H' => e = .bool true ∧ H' = H18)) ?_
        rintro _ _ ⟨rfl, rfl⟩
        repeat' (first | refine zP ?_ | refine zA ?_ | (refine zM ?_; intro _ _) | refine zX ?_ | (refine zC ?_; intro _ _ _ _) | (refine zS ?_; intro _ _) | (apply Ws <;> intro hg))
        exact Ends.ret1 rfl rfl
      · exact absurd (hll.1 hlo) hnl2
    · repeat' (first | refine zP ?_ | refine zA ?_ | (refine zM ?_; intro _ _) | refine zX ?_ | (refine zC ?_; intro _ _ _ _) | (refine zS ?_; intro _ _) | (apply Ws <;> intro hg))
      refine WR.call (by first | exact gN | exact gS rfl) rfl rfl (Fewest_fs hH16 hRO.cons.cons.cons.cons hO1 hO2) ?_
      rintro _ H17 ⟨n9, hn9, hH17, h17⟩
      obtain ⟨pt2, hpt2, hcase⟩ := h17.ok hO
      clear hH16
      rw [hsO] at hcase
      have hll := loopy_same hS1 hS2 hpt hpt2
      rcases hcase with ⟨hlo2, _⟩ | ⟨hnl2, fo, lo, uo, hfo, hFo, hreso, rfl⟩
      · exact absurd (hll.2 hlo2) hnl
      · obtain rfl := few_same hS1 hS2 hpt hpt2 hFq hFo
        subst hres
        subst hreso
        repeat' (first | refine zP ?_ | refine zA ?_ | (refine zM ?_; intro _ _) | refine zX ?_ | (refine zC ?_; intro _ _ _ _) | (refine zS ?_; intro _ _) | refine zO ?_ | (apply Ws <;> intro hg))
        refine WR.call (by first | exact gN | exact gS rfl) rfl rfl (looped_fs hH17 hQ hRQ.cons.cons.cons.cons) ?_
        rintro _ H18 ⟨n10, pt3, hn10, hH18, hpt3, _, bb, hbb, rfl⟩
        obtain rfl : bb = false := by
          cases bb with
          | false => rfl
          | true => exact absurd ((loopy_same hS1 hS1 hpt hpt3).2 (hbb.1 rfl)) hnl
        refine WR.op (by first | exact gN | exact gS rfl) rfl (OpV.eqB (eqlB _ _) rfl rfl) ?_
        rw [show (decide ((0 : Int) = 12) == false) = true by decide]
        repeat' (first | refine zP ?_ | refine zA ?_ | (refine zM ?_; intro _ _) | refine zX ?_ | (refine zC ?_; intro _ _ _ _) | (refine zS ?_; intro _ _) | refine zO ?_ | (apply Ws <;> intro hg))
        refine WR.call (by first | exact gN | exact gS rfl) rfl rfl (FS.works ⟨rfl, rfl⟩ : FS C _ [] _ (fun e H' => e = .bool true ∧ H' = H18)) ?_
        rintro _ _ ⟨rfl, rfl⟩
        repeat' (first | refine zP ?_ | refine zA ?_ | (refine zM ?_; intro _ _) | refine zX ?_ | (refine zC ?_; intro _ _ _ _) | (refine zS ?_; intro _ _) | (apply Ws <;> intro hg))
        exact Ends.ret1 rfl rfl
end
end Go.Proofs.YtmgmkglmjmaipaaDoor.Ct
