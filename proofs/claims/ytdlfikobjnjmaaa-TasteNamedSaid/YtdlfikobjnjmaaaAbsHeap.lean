/- What is read, written and laid in the evaluator's heap is so in the model's. -/
import Derived.Test.YtdlfikobjnjmaaaAbsRel
namespace Go.Abs
set_option linter.unusedSectionVars false
variable [Globs]
open Go
set_option linter.unusedVariables false

theorem findVer_mem {u : Nat} : ∀ {vs : List Ver} {v : Ver}, findVer u vs = some v → v ∈ vs ∧ v.id = u
  | [], v, h => by simp [findVer] at h
  | x :: l, v, h => by
    simp only [findVer] at h
    cases hb : Nat.beq x.id u with
    | true => rw [hb, cond_true] at h; cases h; exact ⟨by simp, Nat.eq_of_beq_eq_true hb⟩
    | false => rw [hb, cond_false] at h; have := findVer_mem h; exact ⟨by simp [this.1], this.2⟩

theorem dropTo_mem {u : Nat} : ∀ {vs : List Ver} {v : Ver}, v ∈ dropTo u vs → v ∈ vs
  | [], v, h => by simp [dropTo] at h
  | x :: l, v, h => by
    simp only [dropTo] at h
    cases hb : Nat.beq x.id u with
    | true => rw [hb, cond_true] at h; exact h
    | false => rw [hb, cond_false] at h; exact List.mem_cons_of_mem _ (dropTo_mem h)

theorem bif_some {α : Type} {b : Bool} {x : Option α} {y : α} (h : (bif b then x else none) = some y) : b = true ∧ x = some y := by
  cases b <;> simp_all

theorem add_plain {a : Addr} (h : a.spot = none) (j : Nat) : a.add j = ⟨a.block, a.off + j, none⟩ := by
  unfold Addr.add
  split
  · subst_vars; cases a; simp_all
  · rfl

section
variable {P : Program} {σ : Ren} {N : Nat} {H : Heap} {w : World}

theorem HR.rowOf (h : HR P σ N H w) {f e ro vs top c} (hg : H.t.get f = some (.cells e ro vs top c)) {v : Ver} (hv : v ∈ vs) {l : Loc} (hl : σ.row f v.id = some l) :
    RowAt σ N w f ro top c v l := by
  obtain ⟨l', hr⟩ := h.rows f e ro vs top c hg v hv
  have := hr.at_
  rw [hl] at this
  cases this
  exact hr

theorem HR.lt (h : HR P σ N H w) {f o} (hg : H.t.get f = some o) : f < H.next := by
  rcases Nat.lt_or_ge f H.next with h1 | h1
  · exact h1
  · have := (h.next f h1).2.2; rw [hg] at this; cases this

theorem RowAt.le {τ : Ren} (k : σ.le τ) {f ro top c v l} (h : RowAt σ N w f ro top c v l) : RowAt τ N w f ro top c v l where
  at_ := k.1 _ _ _ h.at_
  blk := by
    obtain ⟨cs, e, fz, h1, h2, h3, h4⟩ := h.blk
    exact ⟨cs, e, fz, h1, h2, h3, fun i hi hj => by obtain ⟨x, x', a, b, c⟩ := h4 i hi hj; exact ⟨x, x', a, b, c.le k⟩⟩
  lo := h.lo
  hi := h.hi
  id := h.id
  old := h.old

theorem RowAt.world {w' : World} {f ro top c v l} (h : RowAt σ N w f ro top c v l) (hw : w'.heap[l.blk]? = w.heap[l.blk]?) : RowAt σ N w' f ro top c v l where
  at_ := h.at_
  blk := by obtain ⟨cs, e, fz, h1, h2⟩ := h.blk; exact ⟨cs, e, fz, hw.trans h1, h2⟩
  lo := h.lo
  hi := h.hi
  id := h.id
  old := h.old

theorem TR.le {τ : Ren} (k : σ.le τ) {nt t tmps} (h : TR σ nt t tmps) : TR τ nt t tmps := ⟨h.size, fun i => (h.get i).le k⟩
theorem LR.le {τ : Ren} (k : σ.le τ) {r r'} (h : LR P σ r r') : LR P τ r r' := ⟨h.state, h.pending, h.fn, h.tmps.le k, h.params, h.assign, h.body⟩
theorem MR.le {τ : Ren} (k : σ.le τ) {l : List ME} {l' : List MapEntry} (h : MR σ l l') : MR τ l l' := by
  induction h with
  | nil => exact .nil
  | cons h hk _ ih => exact .cons (h.le k) hk ih

theorem OR.le {τ : Ren} (k : σ.le τ) {o o'} (h : OR P σ o o') : OR P τ o o' := by
  cases h with
  | loop h => exact .loop (h.le k)
  | defd t => exact .defd t
  | map h => exact .map (h.le k)
  | iter s p => exact .iter s p

theorem OR.notCells {o o'} (h : OR P σ o o') (cs e fz) : o' ≠ .cells cs e fz := by cases h <;> simp

/-! ### Reading -/

theorem cell_of (h : HR P σ N H w) {a a' : Addr} {l : Loc} (ha : AR σ a a' l) {e ro vs top c u v} (hg : H.t.get a.block = some (.cells e ro vs top c)) (hu : a.spot = some u)
    (hf : findVer u vs = some v) (i : Nat) (h1 : v.lo ≤ a.off + i) (h2 : a.off + i < v.hi) :
    ∃ x x', c.get (a.off + i) = some x ∧ w.cell? ⟨a'.block, a'.off + i, none⟩ = some x' ∧ VR σ x x' := by
  obtain ⟨u', hu', hrow, hb, hs, ho⟩ := ha
  rw [hu] at hu'; cases hu'
  obtain ⟨hm, hid⟩ := findVer_mem hf
  have hr := h.rowOf hg hm (by rw [hid]; exact hrow)
  obtain ⟨cs, e', fz, hw, hn, hz, hc⟩ := hr.blk
  obtain ⟨x, x', hx, hx', hv⟩ := hc (a.off + i) h1 h2
  refine ⟨x, x', hx, ?_, hv⟩
  have : a.off + i - l.sh = a'.off + i := by omega
  rw [this] at hx'
  simp [World.cell?, hb, hw, hx']

theorem read_sound (h : HR P σ N H w) {a a' : Addr} {l : Loc} (ha : AR σ a a' l) {x : Value} (hr : H.read a = some x) : ∃ x', w.cell? a' = some x' ∧ VR σ x x' := by
  unfold Heap.read at hr
  split at hr
  · rename_i e ro vs top c u hg hu
    split at hr
    · rename_i v hf
      obtain ⟨hb, hc⟩ := bif_some hr
      simp only [Bool.and_eq_true] at hb
      have h1 := Nat.le_of_ble_eq_true hb.1
      have h2 : a.off < v.hi := Nat.le_of_ble_eq_true hb.2
      obtain ⟨y, x', hy, hx', hv⟩ := cell_of h ha hg hu hf 0 (by omega) (by omega)
      simp only [Nat.add_zero] at hy hx'
      rw [hc] at hy; cases hy
      obtain ⟨_, _, _, _, hs, _⟩ := ha
      refine ⟨x', ?_, hv⟩
      have : (⟨a'.block, a'.off, none⟩ : Addr) = a' := by cases a'; simp_all
      rw [this] at hx'; exact hx'
    · cases hr
  · cases hr

theorem readL_get {c : Tr Value} : ∀ {n i : Nat} {ls : List Value}, readL c i n = some ls → ls.length = n ∧ ∀ j, j < n → c.get (i + j) = ls[j]?
  | 0, i, ls, h => by simp [readL] at h; subst h; simp
  | n + 1, i, ls, h => by
    simp only [readL] at h
    split at h
    · rename_i v hv
      split at h
      · rename_i l hl
        cases h
        obtain ⟨h1, h2⟩ := readL_get hl
        refine ⟨by simp [h1], fun j hj => ?_⟩
        cases j with
        | zero => simpa using hv
        | succ j => rw [List.getElem?_cons_succ, ← h2 j (by omega)]; congr 1; omega
      · cases h
    · cases h

theorem VL.of_fn {σ : Ren} : ∀ {n : Nat} {ls : List Value} (g : Nat → Value), ls.length = n → (∀ j x, ls[j]? = some x → VR σ x (g j)) → VL σ ls ((List.range n).map g) := by
  intro n ls g hn h
  refine VL.of_get _ _ (by simp [hn]) (fun i v v' h1 h2 => ?_)
  simp only [List.getElem?_map] at h2
  have hi : i < n := by rw [← hn]; exact (List.getElem?_eq_some_iff.1 h1).1
  rw [List.getElem?_range hi] at h2
  simp at h2; subst h2
  exact h i v h1

theorem readN_sound (h : HR P σ N H w) {a a' : Addr} {l : Loc} (ha : AR σ a a' l) {n : Nat} {ls : List Value} (hr : H.readN a n = some ls) :
    ls.length = n ∧ ∃ ls', (∀ w1 : World, w1.heap = w.heap → (loadCells a' n).run P w1 = .ok ls'.toArray w1) ∧ VL σ ls ls' := by
  unfold Heap.readN at hr
  split at hr
  · rename_i e ro vs top c u hg hu
    split at hr
    · rename_i v hf
      obtain ⟨hb, hc⟩ := bif_some hr
      simp only [Bool.and_eq_true] at hb
      have h1 := Nat.le_of_ble_eq_true hb.1
      have h2 := Nat.le_of_ble_eq_true hb.2
      obtain ⟨hlen, hget⟩ := readL_get hc
      refine ⟨hlen, (List.range n).map (fun j => (w.cell? (a'.add j)).getD undef), ?_, ?_⟩
      · intro w1 hw1
        apply run_loadCells
        intro j hj
        have hce : ∀ b, w1.cell? b = w.cell? b := fun b => by simp only [World.cell?, hw1]
        rw [hce]
        obtain ⟨y, x', hy, hx', hv⟩ := cell_of h ha hg hu hf j (by omega) (by omega)
        obtain ⟨_, _, _, _, hs, _⟩ := ha
        rw [add_plain hs, hx']; rfl
      · apply VL.of_fn _ hlen
        intro j x hx
        have hj : j < n := by rw [← hlen]; exact (List.getElem?_eq_some_iff.1 hx).1
        obtain ⟨y, x', hy, hx', hv⟩ := cell_of h ha hg hu hf j (by omega) (by omega)
        rw [hget j hj, hx] at hy; cases hy
        obtain ⟨_, _, _, _, hs, _⟩ := ha
        rw [add_plain hs, hx']; exact hv
    · cases hr
  · cases hr

/-! ### Writing -/

theorem get_upd (H : Heap) (f g : Nat) (e : Ent) : (H.upd f e).t.get g = if g = f then some e else H.t.get g := Tr.get_put _ _ _ _

theorem spliced {cur : Array Value} {ls : List Value} {o k : Nat} (ho : o + ls.length ≤ cur.size) :
    (cur.toList.take o ++ ls ++ cur.toList.drop (o + ls.length)).toArray[k]? = if o ≤ k ∧ k < o + ls.length then ls[k - o]? else cur[k]? := by
  have hs : cur.toList.length = cur.size := by simp
  simp only [List.getElem?_toArray, List.append_assoc]
  by_cases h1 : k < o
  · rw [List.getElem?_append_left (by simp; omega), List.getElem?_take_of_lt h1, if_neg (by omega)]; simp
  · rw [List.getElem?_append_right (by simp; omega)]
    have : (cur.toList.take o).length = o := by simp; omega
    rw [this]
    by_cases h2 : k < o + ls.length
    · rw [List.getElem?_append_left (by omega), if_pos (by omega)]
    · rw [List.getElem?_append_right (by omega), List.getElem?_drop, if_neg (by omega)]
      simp; congr 1; omega

theorem VL.all_one {ls ls' : List Value} (h : VL σ ls ls') (ho : ls.all one = true) : ∀ v ∈ ls', v.oneCell' = true := by
  induction h with
  | nil => simp
  | cons h _ ih =>
    simp only [List.all_cons, Bool.and_eq_true] at ho
    intro v hv
    rcases List.mem_cons.1 hv with rfl | hv
    · rw [h.one_]; exact ho.1
    · exact ih ho.2 v hv

theorem upd_old {H : Heap} {f g : Nat} {e o x : Ent} (hg : H.t.get f = some e) (h : (if g = f then some x else H.t.get g) = some o) : ∃ y, H.t.get g = some y := by
  by_cases hh : g = f
  · exact ⟨e, hh ▸ hg⟩
  · rw [if_neg hh] at h; exact ⟨o, h⟩

/-- Some cells of one row turn. -/
theorem HR.turned (h : HR P σ N H w) {f e vs top c} (hg : H.t.get f = some (.cells e false vs top c)) {v : Ver} (hv : v ∈ vs) {l : Loc} (hl : σ.row f v.id = some l)
    {cur : Array Value} {e' : TypeId} {fz : Nat × Nat} (hw : w.heap[l.blk]? = some (.cells cur e' fz)) {o : Nat} {ls ls' : List Value} (hr : VL σ ls ls') (ho : o + ls.length ≤ cur.size)
    {w' : World} (hw1 : w'.heap[l.blk]? = some (.cells (cur.toList.take o ++ ls' ++ cur.toList.drop (o + ls'.length)).toArray e' fz))
    (hw2 : ∀ b, b ≠ l.blk → w'.heap[b]? = w.heap[b]?) (hs : w'.heap.size = w.heap.size) :
    HR P σ N (H.upd f (.cells e false [v] top (c.putL (o + l.sh) ls))) w' := by
  have hll := hr.length
  have hR := h.rowOf hg hv hl
  obtain ⟨cs0, e0, fz0, k1, k2, k3, k4⟩ := hR.blk
  rw [hw] at k1; cases k1
  constructor
  · intro g e2 ro vs2 top2 c2 hg2 v2 hv2
    rw [get_upd] at hg2
    by_cases hgf : g = f
    · subst hgf
      rw [if_pos rfl] at hg2; cases hg2
      simp at hv2; subst hv2
      refine ⟨l, hl, ⟨_, e', fz, hw1, ?_, k3, ?_⟩, hR.lo, hR.hi, hR.id, hR.old⟩
      · simp; omega
      · intro i hi hj
        obtain ⟨x, x', hx, hx', hxx⟩ := k4 i hi hj
        have hlo := hR.lo
        rw [spliced (by omega), Tr.get_putL]
        by_cases hin : o + l.sh ≤ i ∧ i < o + l.sh + ls.length
        · rw [if_pos hin, if_pos (by omega)]
          have hlt : i - (o + l.sh) < ls.length := by omega
          obtain ⟨y', hy', hyy⟩ := hr.get (i - (o + l.sh)) _ (List.getElem?_eq_getElem hlt)
          refine ⟨_, y', List.getElem?_eq_getElem hlt, ?_, hyy⟩
          rw [← hy']; congr 1; omega
        · rw [if_neg hin, if_neg (by omega)]
          exact ⟨x, x', hx, hx', hxx⟩
    · rw [if_neg hgf] at hg2
      obtain ⟨l2, hr2⟩ := h.rows g e2 ro vs2 top2 c2 hg2 v2 hv2
      refine ⟨l2, hr2.world (hw2 _ (fun he => ?_))⟩
      rcases h.uniq g f _ _ _ _ _ _ _ _ _ _ hg2 hg v2 hv2 v hv l2 l hr2.at_ hl he with ⟨h1, _⟩ | ⟨_, h1⟩
      · exact hgf h1
      · cases h1
  · intro g1 g2 e1 e2 ro1 ro2 vs1 vs2 t1 t2 c1 c2 h1 h2 v1 hv1 v2 hv2 l1 l2 hl1 hl2 hb
    rw [get_upd] at h1 h2
    have A : ∃ vs c, H.t.get g1 = some (.cells e1 ro1 vs t1 c) ∧ v1 ∈ vs := by
      by_cases hh : g1 = f
      · subst hh; rw [if_pos rfl] at h1; cases h1; simp at hv1; subst hv1; exact ⟨_, _, hg, hv⟩
      · rw [if_neg hh] at h1; exact ⟨_, _, h1, hv1⟩
    have B : ∃ vs c, H.t.get g2 = some (.cells e2 ro2 vs t2 c) ∧ v2 ∈ vs := by
      by_cases hh : g2 = f
      · subst hh; rw [if_pos rfl] at h2; cases h2; simp at hv2; subst hv2; exact ⟨_, _, hg, hv⟩
      · rw [if_neg hh] at h2; exact ⟨_, _, h2, hv2⟩
    obtain ⟨_, _, A1, A2⟩ := A
    obtain ⟨_, _, B1, B2⟩ := B
    exact h.uniq g1 g2 _ _ _ _ _ _ _ _ _ _ A1 B1 v1 A2 v2 B2 l1 l2 hl1 hl2 hb
  · intro g o' hg2 hno
    rw [get_upd] at hg2
    by_cases hh : g = f
    · subst hh; rw [if_pos rfl] at hg2; cases hg2; exact absurd rfl (hno _ _ _ _ _)
    · rw [if_neg hh] at hg2
      obtain ⟨b, o'', q1, q2, q3, q4⟩ := h.objs g o' hg2 hno
      exact ⟨b, o'', q1, q2, (hw2 b (fun he => by subst he; rw [hw] at q3; cases q3; exact q4.notCells _ _ _ rfl)).trans q3, q4⟩
  · intro g1 g2 o1 o2 b h1 n1 h2 n2 h3 h4
    rw [get_upd] at h1 h2
    by_cases hh : g1 = f
    · rw [if_pos hh] at h1; cases h1; exact absurd rfl (n1 _ _ _ _ _)
    · by_cases hh2 : g2 = f
      · rw [if_pos hh2] at h2; cases h2; exact absurd rfl (n2 _ _ _ _ _)
      · rw [if_neg hh] at h1; rw [if_neg hh2] at h2
        exact h.uniqO g1 g2 _ _ b h1 n1 h2 n2 h3 h4
  · intro g hgn
    have hgn' : H.next ≤ g := hgn
    obtain ⟨q1, q2, q3⟩ := h.next g hgn'
    refine ⟨q1, q2, ?_⟩
    rw [get_upd, if_neg (fun he => by subst he; rw [hg] at q3; cases q3)]; exact q3
  · intro g e2 ro vs2 top2 c2 hg2 u hu
    rw [get_upd] at hg2
    by_cases hh : g = f
    · subst hh; rw [if_pos rfl] at hg2; cases hg2; exact h.tops _ _ _ _ _ _ hg u hu
    · rw [if_neg hh] at hg2; exact h.tops _ _ _ _ _ _ hg2 u hu
  · rw [hs]; exact h.size
  · exact h.glob.to fun b hb => hw2 b (by have := (k3 rfl).2; omega)

/-- Where a row of cells of the evaluator's own lies. -/
theorem img_row {f e vs top c v l} (hg : H.t.get f = some (.cells e false vs top c)) (hv : v ∈ vs) (hl : σ.row f v.id = some l) : Img σ H l.blk :=
  .inl ⟨f, e, vs, top, c, v, l, hg, hv, hl, rfl⟩

theorem setRow_all (w : World) (g : Nat) (cs : Array Value) (b : Nat) (h : b ≠ g) : (w.setRow g cs).heap[b]? = w.heap[b]? := setRow_other w g b cs h

theorem writeN_sound (h : HR P σ N H w) {a a' : Addr} {l : Loc} (ha : AR σ a a' l) {ls ls' : List Value} (hr : VL σ ls ls') {H' : Heap} (hw : H.writeN a ls = some H') :
    ∃ w', (storeCells a' ls').run P w = .ok () w' ∧ HR P σ N H' w' ∧ Fr σ H w σ H' w' := by
  unfold Heap.writeN at hw
  split at hw
  · rename_i e vs top c u hg hu
    split at hw
    · rename_i v hf
      obtain ⟨hb, hc⟩ := bif_some hw
      cases hc
      simp only [Bool.and_eq_true] at hb
      have h1 := Nat.le_of_ble_eq_true hb.1.1
      have h2 := Nat.le_of_ble_eq_true hb.1.2
      obtain ⟨u', hu', hrow, hb', hs, ho⟩ := ha
      rw [hu] at hu'; cases hu'
      obtain ⟨hm, hid⟩ := findVer_mem hf
      have hrow' : σ.row a.block v.id = some l := by rw [hid]; exact hrow
      have hR := h.rowOf hg hm hrow'
      obtain ⟨cur, e', fz, k1, k2, k3, k4⟩ := hR.blk
      obtain ⟨hfz, hN⟩ := k3 rfl
      subst hfz
      have hlen := hr.length
      have hsz : a'.off + ls.length ≤ cur.size := by
        have := hR.hi
        omega
      have ha' : a' = ⟨l.blk, a'.off, none⟩ := by cases a'; simp_all
      have hst := run_storeCells_at (P := P) l.blk a'.off e' ls' 0 cur w k1 (by omega) (hr.all_one hb.2)
      rw [← ha'] at hst
      simp only [Nat.add_zero] at hst
      refine ⟨_, hst, ?_, ?_⟩
      · have := h.turned hg hm hrow' k1 (o := a'.off) hr hsz (setRow_heap w l.blk cur _ e' _ k1) (setRow_all w l.blk _) (setRow_size w l.blk _)
        rw [ho]
        exact this
      · have hlt : l.blk < w.heap.size := (Array.getElem?_eq_some_iff.1 k1).1
        refine ⟨by simp, rfl, rfl, fun b hb1 hb2 => setRow_all w _ _ _ (fun he => hb2 (he ▸ img_row hg hm hrow')), ?_, ?_, ?_⟩
        · rintro b hb1 (⟨f, e2, vs2, t2, c2, v2, l2, q1, q2, q3, q4⟩ | ⟨f, o, q1, q2, q3⟩)
          · rw [get_upd] at q1
            by_cases hh : f = a.block
            · subst hh; rw [if_pos rfl] at q1; cases q1; simp at q2; subst q2
              exact .inl ⟨_, _, _, _, _, _, _, hg, hm, q3, q4⟩
            · rw [if_neg hh] at q1; exact .inl ⟨_, _, _, _, _, _, _, q1, q2, q3, q4⟩
          · rw [get_upd] at q1
            by_cases hh : f = a.block
            · subst hh; rw [if_pos rfl] at q1; cases q1; exact absurd rfl (q2 _ _ _ _ _)
            · rw [if_neg hh] at q1; exact .inr ⟨_, _, q1, q2, q3⟩
        · intro b cs e2 fz hb1 hc
          by_cases hh : b = l.blk
          · subst hh; rw [setRow_heap w l.blk cur _ e' _ k1] at hc; cases hc; exact ⟨_, k1⟩
          · rw [setRow_all w _ _ _ hh] at hc; exact ⟨_, hc⟩
        · intro b cs e2 fz hb1 hc
          rw [setRow_all w _ _ _ (by omega), Array.getElem?_eq_none hb1] at hc; cases hc
    · cases hw
  · cases hw


/-! ### New rows and objects -/

def Ren.addRow (σ : Ren) (f u : Nat) (l : Loc) : Ren := { row := fun g v => if g = f ∧ v = u then some l else σ.row g v, obj := σ.obj }
def Ren.addObj (σ : Ren) (f b : Nat) : Ren := { row := σ.row, obj := fun g => if g = f then some b else σ.obj g }

theorem le_addRow {f u : Nat} {l : Loc} (h : σ.row f u = none) : σ.le (σ.addRow f u l) :=
  ⟨fun g v m hm => by
    show (if _ then _ else _) = _
    rw [if_neg (fun hh => by obtain ⟨rfl, rfl⟩ := hh; rw [h] at hm; cases hm)]; exact hm, fun _ _ hb => hb⟩

theorem le_addObj {f b : Nat} (h : σ.obj f = none) : σ.le (σ.addObj f b) :=
  ⟨fun _ _ _ hm => hm, fun g c hc => by
    show (if _ then _ else _) = _
    rw [if_neg (fun hh => by subst hh; rw [h] at hc; cases hc)]; exact hc⟩

theorem get_add (H : Heap) (g : Nat) (e : Ent) : (H.add e).t.get g = if g = H.next then some e else H.t.get g := Tr.get_put _ _ _ _

/-- A run that only lays blocks. -/
structure Lays (w w' : World) (o : Obj) : Prop where
  heap : w'.heap = w.heap.push o
  os : w'.os = w.os
  output : w'.output = w.output

theorem Lays.at_ {w' : World} {o : Obj} (h : Lays w w' o) : w'.heap[w.heap.size]? = some o := by rw [h.heap]; simp
theorem Lays.other {w' : World} {o : Obj} (h : Lays w w' o) {b : Nat} (hb : b < w.heap.size) : w'.heap[b]? = w.heap[b]? := by rw [h.heap, Array.getElem?_push_lt hb]; simp [hb]
theorem Lays.size {w' : World} {o : Obj} (h : Lays w w' o) : w'.heap.size = w.heap.size + 1 := by rw [h.heap]; simp

theorem blk_lt {f ro top c v l} (h : RowAt σ N w f ro top c v l) : l.blk < w.heap.size := by
  obtain ⟨cs, e, fz, h1, _⟩ := h.blk
  exact (Array.getElem?_eq_some_iff.1 h1).1

/-- What the new heap says of the blocks that were there. -/
theorem Fr.lays {τ : Ren} {H' : Heap} {w' : World} {o : Obj} (k : Lays w w' o) (hi : ∀ b, b < w.heap.size → Img τ H' b → Img σ H b) (hn : ∀ cs e fz, o = .cells cs e fz → fz = (0, 0)) :
    Fr σ H w τ H' w' where
  size := by rw [k.size]; omega
  os := k.os
  output := k.output
  old b hb _ := k.other hb
  img := hi
  back b cs e fz hb hc := ⟨cs, by rw [← k.other hb]; exact hc⟩
  new b cs e fz hb hc := by
    by_cases h : b = w.heap.size
    · subst h; rw [k.at_] at hc; cases hc; exact hn _ _ _ rfl
    · have : b < w'.heap.size := (Array.getElem?_eq_some_iff.1 hc).1
      rw [k.size] at this; omega

/-- A block that is laid turns nothing. -/
theorem HR.lays (h : HR P σ N H w) {w' : World} {o : Obj} (k : Lays w w' o) : HR P σ N H w' where
  rows f e ro vs top c hg v hv := by
    obtain ⟨l, hl⟩ := h.rows f e ro vs top c hg v hv
    exact ⟨l, hl.world (k.other (blk_lt hl))⟩
  uniq := h.uniq
  objs f o hg hno := by
    obtain ⟨b, o', q1, q2, q3, q4⟩ := h.objs f o hg hno
    exact ⟨b, o', q1, q2, (k.other (Array.getElem?_eq_some_iff.1 q3).1).trans q3, q4⟩
  uniqO := h.uniqO
  next := h.next
  tops := h.tops
  size := by rw [k.size]; have := h.size; omega
  glob := h.glob.to fun b hb => k.other (Nat.lt_of_lt_of_le hb h.size)

theorem Img.lt (h : HR P σ N H w) {b : Nat} (hi : Img σ H b) : b < w.heap.size := by
  rcases hi with ⟨f, e, vs, top, c, v, l, q1, q2, q3, rfl⟩ | ⟨f, o, q1, q2, q3⟩
  · exact blk_lt (h.rowOf q1 q2 q3)
  · obtain ⟨b', o', p1, _, p3, _⟩ := h.objs f o q1 q2
    rw [q3] at p1; cases p1
    exact (Array.getElem?_eq_some_iff.1 p3).1

/-- A block that is laid becomes a new row. -/
theorem row_flush (h : HR P σ N H w) {e e' : TypeId} {ls ls' : List Value} (hr : VL σ ls ls') {cs : Array Value} (hc : ∀ (i : Nat) (x : Value), ls'[i]? = some x → cs[i]? = some x)
    (hn : ls.length ≤ cs.size) {L : Nat} (hL : w.heap[L]? = some (.cells cs e')) (hN : N ≤ L) (hI : ¬ Img σ H L) :
    ∃ τ l, σ.le τ ∧ HR P τ N (H.row e ls) w ∧ AR τ (newAddr H) ⟨L, 0, none⟩ l ∧ l.n = cs.size ∧ ∀ b, Img τ (H.row e ls) b → b = L ∨ Img σ H b := by
  obtain ⟨n1, n2, n3⟩ := h.next H.next (Nat.le_refl _)
  have hle : σ.le (σ.addRow H.next 0 ⟨L, 0, cs.size⟩) := le_addRow (n1 0)
  have hnew : (σ.addRow H.next 0 ⟨L, 0, cs.size⟩).row H.next 0 = some ⟨L, 0, cs.size⟩ := by simp [Ren.addRow]
  have hold : ∀ {f e ro vs top c v l}, H.t.get f = some (.cells e ro vs top c) → v ∈ vs → (σ.addRow H.next 0 ⟨L, 0, cs.size⟩).row f v.id = some l → σ.row f v.id = some l := by
    intro f e ro vs top c v l hg hv hl
    have hlt := h.lt hg
    have hl' : (if f = H.next ∧ v.id = 0 then _ else σ.row f v.id) = some l := hl
    rw [if_neg (by omega)] at hl'; exact hl'
  have hfree : ∀ {f e ro vs top c v l}, H.t.get f = some (.cells e ro vs top c) → v ∈ vs → σ.row f v.id = some l → l.blk ≠ L := by
    intro f e ro vs top c v l hg hv hl he
    cases ro with
    | true => have := (h.rowOf hg hv hl).old rfl; omega
    | false => exact hI (.inl ⟨f, e, vs, top, c, v, l, hg, hv, hl, he⟩)
  refine ⟨_, _, hle, ?_, ⟨0, rfl, hnew, rfl, rfl, rfl⟩, rfl, ?_⟩
  · constructor
    · intro f e2 ro vs top c hg v hv
      have hg' : (H.add _).t.get f = _ := hg
      rw [get_add] at hg'
      by_cases hf : f = H.next
      · subst hf; rw [if_pos rfl] at hg'; cases hg'
        simp at hv; subst hv
        refine ⟨_, hnew, ⟨cs, e', (0, 0), hL, rfl, fun _ => ⟨rfl, hN⟩, ?_⟩, Nat.le_refl _, by simpa using hn, by simp, fun h => by cases h⟩
        intro i h1 h2
        have h2' : i < ls.length := h2
        obtain ⟨x', hx', hxx⟩ := hr.get i _ (List.getElem?_eq_getElem h2')
        exact ⟨_, x', by rw [Tr.get_putL, if_pos (by omega)]; simp [h2'], hc _ _ hx', hxx.le hle⟩
      · rw [if_neg hf] at hg'
        obtain ⟨l, hl⟩ := h.rows f e2 ro vs top c hg' v hv
        exact ⟨l, hl.le hle⟩
    · intro f g e1 e2 ro1 ro2 vs1 vs2 t1 t2 c1 c2 h1 h2 v1 hv1 v2 hv2 l1 l2 hl1 hl2 hb
      have h1' : (H.add _).t.get f = _ := h1
      have h2' : (H.add _).t.get g = _ := h2
      rw [get_add] at h1' h2'
      by_cases hf : f = H.next
      · by_cases hg : g = H.next
        · subst hf; subst hg
          rw [if_pos rfl] at h1' h2'; cases h1'; cases h2'
          simp at hv1 hv2; subst hv1; subst hv2
          rw [hl1] at hl2; cases hl2
          exact .inl ⟨rfl, rfl⟩
        · subst hf; rw [if_pos rfl] at h1'; cases h1'; simp at hv1; subst hv1
          rw [if_neg hg] at h2'
          rw [hnew] at hl1; cases hl1
          exact absurd hb.symm (hfree h2' hv2 (hold h2' hv2 hl2))
      · rw [if_neg hf] at h1'
        by_cases hg : g = H.next
        · subst hg; rw [if_pos rfl] at h2'; cases h2'; simp at hv2; subst hv2
          rw [hnew] at hl2; cases hl2
          exact absurd hb (hfree h1' hv1 (hold h1' hv1 hl1))
        · rw [if_neg hg] at h2'
          exact h.uniq f g _ _ _ _ _ _ _ _ _ _ h1' h2' v1 hv1 v2 hv2 l1 l2 (hold h1' hv1 hl1) (hold h2' hv2 hl2) hb
    · intro f o hg hno
      have hg' : (H.add _).t.get f = _ := hg
      rw [get_add] at hg'
      by_cases hf : f = H.next
      · subst hf; rw [if_pos rfl] at hg'; cases hg'; exact absurd rfl (hno _ _ _ _ _)
      · rw [if_neg hf] at hg'
        obtain ⟨b, o', q1, q2, q3, q4⟩ := h.objs f o hg' hno
        exact ⟨b, o', q1, q2, q3, q4.le hle⟩
    · intro f g o1 o2 b h1 m1 h2 m2 h3 h4
      have h1' : (H.add _).t.get f = _ := h1
      have h2' : (H.add _).t.get g = _ := h2
      rw [get_add] at h1' h2'
      by_cases hf : f = H.next
      · subst hf; have h3' : σ.obj H.next = some b := h3; rw [n2] at h3'; cases h3'
      · by_cases hg : g = H.next
        · subst hg; have h4' : σ.obj H.next = some b := h4; rw [n2] at h4'; cases h4'
        · rw [if_neg hf] at h1'; rw [if_neg hg] at h2'
          exact h.uniqO f g o1 o2 b h1' m1 h2' m2 h3 h4
    · intro f hf
      have hf' : H.next + 1 ≤ f := hf
      obtain ⟨q1, q2, q3⟩ := h.next f (by omega)
      refine ⟨fun u => ?_, q2, ?_⟩
      · show (if _ then _ else _) = _
        rw [if_neg (by omega)]; exact q1 u
      · show (H.add _).t.get f = _
        rw [get_add, if_neg (by omega)]; exact q3
    · intro f e2 ro vs top c hg u hu
      have hg' : (H.add _).t.get f = _ := hg
      rw [get_add] at hg'
      by_cases hf : f = H.next
      · subst hf; rw [if_pos rfl] at hg'; cases hg'
        show (if _ then _ else _) = _
        rw [if_neg (by omega)]; exact n1 u
      · rw [if_neg hf] at hg'
        show (if _ then _ else _) = _
        rw [if_neg (by omega)]; exact h.tops _ _ _ _ _ _ hg' u hu
    · exact h.size
    · exact h.glob
  · rintro b (⟨f, e2, vs, top, c, v, l, q1, q2, q3, q4⟩ | ⟨f, o, q1, q2, q3⟩)
    · have q1' : (H.add _).t.get f = _ := q1
      rw [get_add] at q1'
      by_cases hf : f = H.next
      · subst hf; rw [if_pos rfl] at q1'; cases q1'; simp at q2; subst q2
        rw [hnew] at q3; cases q3; exact .inl q4.symm
      · rw [if_neg hf] at q1'
        exact .inr (.inl ⟨f, e2, vs, top, c, v, l, q1', q2, hold q1' q2 q3, q4⟩)
    · have q1' : (H.add _).t.get f = _ := q1
      rw [get_add] at q1'
      by_cases hf : f = H.next
      · subst hf; rw [if_pos rfl] at q1'; cases q1'; exact absurd rfl (q2 _ _ _ _ _)
      · rw [if_neg hf] at q1'; exact .inr (.inr ⟨f, o, q1', q2, q3⟩)

theorem row_sound (h : HR P σ N H w) {e e' : TypeId} {ls ls' : List Value} (hr : VL σ ls ls') {cs : Array Value} (hc : ∀ (i : Nat) (x : Value), ls'[i]? = some x → cs[i]? = some x)
    (hn : ls.length ≤ cs.size) {w' : World} (k : Lays w w' (.cells cs e')) :
    ∃ τ l, σ.le τ ∧ HR P τ N (H.row e ls) w' ∧ Fr σ H w τ (H.row e ls) w' ∧ AR τ (newAddr H) ⟨w.heap.size, 0, none⟩ l ∧ l.n = cs.size := by
  obtain ⟨τ, l, q1, q2, q3, q4, q5⟩ := row_flush (h.lays k) (e := e) hr hc hn k.at_ h.size (fun hi => absurd (hi.lt h) (Nat.lt_irrefl _))
  refine ⟨τ, l, q1, q2, Fr.lays k (fun b hb hi => (q5 b hi).resolve_left (by omega)) (by rintro _ _ _ ⟨⟩; rfl), q3, q4⟩

theorem obj_sound (h : HR P σ N H w) {o : Ent} {o' : Obj} (ho : OR P σ o o') (hno : ∀ e ro vs top c, o ≠ .cells e ro vs top c) {w' : World} (k : Lays w w' o') :
    σ.le (σ.addObj H.next w.heap.size) ∧ HR P (σ.addObj H.next w.heap.size) N (H.add o) w' ∧ Fr σ H w (σ.addObj H.next w.heap.size) (H.add o) w' ∧ (σ.addObj H.next w.heap.size).obj H.next = some w.heap.size := by
  obtain ⟨n1, n2, n3⟩ := h.next H.next (Nat.le_refl _)
  have hle : σ.le (σ.addObj H.next w.heap.size) := le_addObj n2
  have hnew : (σ.addObj H.next w.heap.size).obj H.next = some w.heap.size := by simp [Ren.addObj]
  have hobj : ∀ {f b}, f ≠ H.next → (σ.addObj H.next w.heap.size).obj f = some b → σ.obj f = some b := by
    intro f b hf hb
    have : (if _ then _ else _) = some b := hb
    rw [if_neg hf] at this; exact this
  have hcell : ∀ {f e ro vs top c}, (H.add o).t.get f = some (.cells e ro vs top c) → H.t.get f = some (.cells e ro vs top c) := by
    intro f e ro vs top c hg
    rw [get_add] at hg
    by_cases hf : f = H.next
    · subst hf; rw [if_pos rfl] at hg; cases hg; exact absurd rfl (hno _ _ _ _ _)
    · rw [if_neg hf] at hg; exact hg
  refine ⟨hle, ?_, ?_, hnew⟩
  · constructor
    · intro f e ro vs top c hg v hv
      obtain ⟨l, hl⟩ := h.rows f e ro vs top c (hcell hg) v hv
      exact ⟨l, (hl.le hle).world (k.other (blk_lt hl))⟩
    · intro f g e1 e2 ro1 ro2 vs1 vs2 t1 t2 c1 c2 h1 h2
      exact h.uniq f g _ _ _ _ _ _ _ _ _ _ (hcell h1) (hcell h2)
    · intro f o2 hg hno2
      rw [get_add] at hg
      by_cases hf : f = H.next
      · subst hf; rw [if_pos rfl] at hg; cases hg
        exact ⟨_, o', hnew, h.size, k.at_, ho.le hle⟩
      · rw [if_neg hf] at hg
        obtain ⟨b, o'', q1, q2, q3, q4⟩ := h.objs f o2 hg hno2
        exact ⟨b, o'', hle.2 _ _ q1, q2, (k.other (Array.getElem?_eq_some_iff.1 q3).1).trans q3, q4.le hle⟩
    · intro f g o1 o2 b h1 m1 h2 m2 h3 h4
      have fresh : ∀ {g o2 b}, g ≠ H.next → (H.add o).t.get g = some o2 → (∀ e ro vs top c, o2 ≠ .cells e ro vs top c) → (σ.addObj H.next w.heap.size).obj g = some b → b < w.heap.size := by
        intro g o2 b hg h2 m2 h4
        rw [get_add, if_neg hg] at h2
        obtain ⟨b', o'', q1, _, q3, _⟩ := h.objs g o2 h2 m2
        have h4' := hobj hg h4
        rw [q1] at h4'; cases h4'
        exact (Array.getElem?_eq_some_iff.1 q3).1
      by_cases hf : f = H.next
      · by_cases hg : g = H.next
        · rw [hf, hg]
        · have := fresh hg h2 m2 h4
          subst hf; rw [hnew] at h3; cases h3; omega
      · by_cases hg : g = H.next
        · have := fresh hf h1 m1 h3
          subst hg; rw [hnew] at h4; cases h4; omega
        · rw [get_add, if_neg hf] at h1; rw [get_add, if_neg hg] at h2
          exact h.uniqO f g o1 o2 b h1 m1 h2 m2 (hobj hf h3) (hobj hg h4)
    · intro f hf
      have hf' : H.next + 1 ≤ f := hf
      obtain ⟨q1, q2, q3⟩ := h.next f (by omega)
      refine ⟨q1, ?_, ?_⟩
      · show (if _ then _ else _) = _
        rw [if_neg (by omega)]; exact q2
      · rw [get_add, if_neg (by omega)]; exact q3
    · intro f e ro vs top c hg u hu
      exact h.tops _ _ _ _ _ _ (hcell hg) u hu
    · rw [k.size]; have := h.size; omega
    · exact h.glob.to fun b hb => k.other (Nat.lt_of_lt_of_le hb h.size)
  · refine Fr.lays k ?_ (fun cs e fz he => absurd he (ho.notCells _ _ _))
    rintro b hb (⟨f, e2, vs, top, c, v, l, q1, q2, q3, q4⟩ | ⟨f, o2, q1, q2, q3⟩)
    · exact .inl ⟨f, e2, vs, top, c, v, l, hcell q1, q2, q3, q4⟩
    · rw [get_add] at q1
      by_cases hf : f = H.next
      · subst hf; rw [hnew] at q3; cases q3; omega
      · rw [if_neg hf] at q1; exact .inr ⟨f, o2, q1, q2, hobj hf q3⟩

/-- An object turns. -/
theorem upd_sound (h : HR P σ N H w) {f : Nat} {o o2 : Ent} {o1 : Obj} {blk : Nat} (hg : H.t.get f = some o) (hno : ∀ e ro vs top c, o ≠ .cells e ro vs top c) (hno2 : ∀ e ro vs top c, o2 ≠ .cells e ro vs top c)
    (hb : σ.obj f = some blk) (ho : OR P σ o2 o1) :
    HR P σ N (H.upd f o2) { w with heap := w.heap.setIfInBounds blk o1 } ∧ Fr σ H w σ (H.upd f o2) { w with heap := w.heap.setIfInBounds blk o1 } := by
  obtain ⟨b', o', q1, q2, q3, q4⟩ := h.objs f o hg hno
  rw [hb] at q1; cases q1
  have hlt := (Array.getElem?_eq_some_iff.1 q3).1
  have hat : (w.heap.setIfInBounds blk o1)[blk]? = some o1 := Array.getElem?_setIfInBounds_self_of_lt hlt
  have hoth : ∀ c, c ≠ blk → (w.heap.setIfInBounds blk o1)[c]? = w.heap[c]? := fun c hc => Array.getElem?_setIfInBounds_ne (fun e => hc e.symm)
  have hcell : ∀ {g e ro vs top c}, (H.upd f o2).t.get g = some (.cells e ro vs top c) → H.t.get g = some (.cells e ro vs top c) := by
    intro g e ro vs top c hg2
    rw [get_upd] at hg2
    by_cases hh : g = f
    · subst hh; rw [if_pos rfl] at hg2; cases hg2; exact absurd rfl (hno2 _ _ _ _ _)
    · rw [if_neg hh] at hg2; exact hg2
  have hrow : ∀ {g ro top c v l}, RowAt σ N w g ro top c v l → l.blk ≠ blk := by
    intro g ro top c v l hr he
    obtain ⟨cs, e, fz, k1, _⟩ := hr.blk
    rw [he, q3] at k1; cases k1; exact q4.notCells _ _ _ rfl
  constructor
  · constructor
    · intro g e ro vs top c hg2 v hv
      obtain ⟨l, hl⟩ := h.rows g e ro vs top c (hcell hg2) v hv
      exact ⟨l, hl.world (hoth _ (hrow hl))⟩
    · intro f1 f2 e1 e2 r1 r2 vs1 vs2 t1 t2 c1 c2 h1 h2
      exact h.uniq f1 f2 _ _ _ _ _ _ _ _ _ _ (hcell h1) (hcell h2)
    · intro g o3 hg2 hn3
      rw [get_upd] at hg2
      by_cases hh : g = f
      · subst hh; rw [if_pos rfl] at hg2; cases hg2
        exact ⟨blk, o1, hb, q2, hat, ho⟩
      · rw [if_neg hh] at hg2
        obtain ⟨b2, o4, p1, p2, p3, p4⟩ := h.objs g o3 hg2 hn3
        refine ⟨b2, o4, p1, p2, (hoth b2 (fun he => ?_)).trans p3, p4⟩
        subst he
        exact hh (h.uniqO g f _ _ _ hg2 hn3 hg hno p1 hb)
    · intro g1 g2 o3 o4 b h1 n1 h2 n2 h3 h4
      rw [get_upd] at h1 h2
      have A : ∃ o5, H.t.get g1 = some o5 ∧ ∀ e ro vs top c, o5 ≠ .cells e ro vs top c := by
        by_cases hh : g1 = f
        · exact ⟨o, hh ▸ hg, hno⟩
        · rw [if_neg hh] at h1; exact ⟨_, h1, n1⟩
      have B : ∃ o5, H.t.get g2 = some o5 ∧ ∀ e ro vs top c, o5 ≠ .cells e ro vs top c := by
        by_cases hh : g2 = f
        · exact ⟨o, hh ▸ hg, hno⟩
        · rw [if_neg hh] at h2; exact ⟨_, h2, n2⟩
      obtain ⟨_, A1, A2⟩ := A
      obtain ⟨_, B1, B2⟩ := B
      exact h.uniqO g1 g2 _ _ b A1 A2 B1 B2 h3 h4
    · intro g hgn
      have hgn' : H.next ≤ g := hgn
      obtain ⟨p1, p2, p3⟩ := h.next g hgn'
      refine ⟨p1, p2, ?_⟩
      rw [get_upd, if_neg (fun he => by subst he; rw [hg] at p3; cases p3)]; exact p3
    · intro g e ro vs top c hg2 u hu
      exact h.tops _ _ _ _ _ _ (hcell hg2) u hu
    · show N ≤ (w.heap.setIfInBounds blk o1).size
      rw [Array.size_setIfInBounds]; exact h.size
    · exact h.glob.to fun b hb => hoth b (by omega)
  · refine ⟨by simp, rfl, rfl, fun b hb1 hb2 => hoth b (fun he => hb2 (.inr ⟨f, o, hg, hno, he ▸ hb⟩)), ?_, ?_, ?_⟩
    · rintro b hb1 (⟨g, e, vs, top, c, v, l, p1, p2, p3, p4⟩ | ⟨g, o3, p1, p2, p3⟩)
      · exact .inl ⟨g, e, vs, top, c, v, l, hcell p1, p2, p3, p4⟩
      · rw [get_upd] at p1
        by_cases hh : g = f
        · subst hh; exact .inr ⟨g, o, hg, hno, p3⟩
        · rw [if_neg hh] at p1; exact .inr ⟨g, o3, p1, p2, p3⟩
    · intro b cs e fz hb1 hc
      have hc' : (w.heap.setIfInBounds blk o1)[b]? = some (.cells cs e fz) := hc
      by_cases hh : b = blk
      · subst hh; rw [hat] at hc'; cases hc'; exact absurd rfl (ho.notCells _ _ _)
      · rw [hoth b hh] at hc'; exact ⟨_, hc'⟩
    · intro b cs e fz hb1 hc
      have hc' : (w.heap.setIfInBounds blk o1)[b]? = some (.cells cs e fz) := hc
      rw [hoth b (by omega), Array.getElem?_eq_none hb1] at hc'; cases hc'

end

end Go.Abs
