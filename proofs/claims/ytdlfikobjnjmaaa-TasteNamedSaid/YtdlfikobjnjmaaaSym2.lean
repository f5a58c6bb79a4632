/- What is known of a heap: a list of blocks, and what each of them holds. -/
import Derived.Test.YtdlfikobjnjmaaaSym1
namespace Go.Abs
set_option linter.unusedSectionVars false
variable [Globs]
open Go
set_option linter.unusedVariables false
set_option linter.unusedSimpArgs false

inductive Ch where
  /-- A row that may be turned: its type, a version, where it begins, its cells to its end. -/
  | row (e : TypeId) (u lo : Nat) (cs : List Value)
  /-- A row that is only read. -/
  | inp (e : TypeId) (u lo : Nat) (cs : List Value)
  | loop (r : LoopE)
  | defd (b : Bool)
  /-- A map's entries. -/
  | map (l : List ME)

def Ch.ok : Ch → Ent → Prop
  | .row e u lo cs, .cells e' ro vs top c => e' = e ∧ ro = false ∧ (∃ l0, findVer u vs = some ⟨u, l0, lo + cs.length⟩ ∧ l0 ≤ lo) ∧ readL c lo cs.length = some cs ∧ cs.all one = true ∧ u < top
  | .inp e u lo cs, .cells e' ro vs top c => (∃ l0 h0, findVer u vs = some ⟨u, l0, h0⟩ ∧ l0 ≤ lo ∧ lo + cs.length ≤ h0) ∧ readL c lo cs.length = some cs
  | .loop r, .loop r' => r' = r
  | .defd b, .defd b' => b' = b
  | .map l, .map l' c => l' = l ∧ c = l.length
  | _, _ => False

abbrev HL := List (Nat × Ch)

structure hasH (M : HL) (n : Nat) (H : Heap) : Prop where
  next : H.next = n
  blk : ∀ p ∈ M, p.1 < n ∧ ∃ e, H.t.get p.1 = some e ∧ p.2.ok e
  nodup : (M.map (·.1)).Nodup

theorem hasH.nil (H : Heap) : hasH [] H.next H := ⟨rfl, fun p h => (by cases h), by simp⟩

/-- Fewer blocks. -/
theorem hasH.sub {M M' : HL} {n : Nat} {H : Heap} (h : hasH M n H) (k : M'.Sublist M) : hasH M' n H :=
  ⟨h.next, fun p hp => h.blk p (k.subset hp), h.nodup.sublist (k.map _)⟩

theorem hasH.tail {p : Nat × Ch} {M : HL} {n : Nat} {H : Heap} (h : hasH (p :: M) n H) : hasH M n H := h.sub (List.sublist_cons_self _ _)

theorem hasH.lt {M : HL} {n : Nat} {H : Heap} (h : hasH M n H) {b : Nat} {ch : Ch} (hm : (b, ch) ∈ M) : b < n := (h.blk _ hm).1

theorem hasH.swap {p q : Nat × Ch} {M : HL} {n : Nat} {H : Heap} (h : hasH (p :: q :: M) n H) : hasH (q :: p :: M) n H :=
  ⟨h.next, fun x hx => h.blk x (by simp only [List.mem_cons] at hx ⊢; rcases hx with h | h | h <;> simp [h]), by
    have := h.nodup
    simp only [List.map_cons, List.nodup_cons, List.mem_cons, not_or] at this ⊢
    exact ⟨⟨fun e => this.1.1 e.symm, this.2.1⟩, this.1.2, this.2.2⟩⟩

theorem hasH.mem {M : HL} {n : Nat} {H : Heap} (h : hasH M n H) {b : Nat} {ch : Ch} (hm : (b, ch) ∈ M) : ∃ e, H.t.get b = some e ∧ ch.ok e := (h.blk _ hm).2

/-- A block in a list is turned into another. -/
inductive Upd : HL → Nat → Ch → Ch → HL → Prop where
  | here {b : Nat} {ch ch' : Ch} {M : HL} : Upd ((b, ch) :: M) b ch ch' ((b, ch') :: M)
  | there {p : Nat × Ch} {M M' : HL} {b : Nat} {ch ch' : Ch} (h : Upd M b ch ch' M') : Upd (p :: M) b ch ch' (p :: M')

theorem Upd.mem {M M' : HL} {b : Nat} {ch ch' : Ch} (h : Upd M b ch ch' M') : (b, ch) ∈ M := by
  induction h with
  | here => simp
  | there _ ih => simp [ih]

theorem Upd.same {M M' : HL} {b : Nat} {ch ch' : Ch} (h : Upd M b ch ch' M') : ch = ch' → M' = M := by
  induction h with
  | here => intro e; rw [e]
  | there _ ih => intro e; rw [ih e]

theorem Upd.keys {M M' : HL} {b : Nat} {ch ch' : Ch} (h : Upd M b ch ch' M') : M'.map (·.1) = M.map (·.1) := by
  induction h with
  | here => rfl
  | there _ ih => simp [ih]

theorem Upd.cases' {M M' : HL} {b : Nat} {ch ch' : Ch} (h : Upd M b ch ch' M') (hn : (M.map (·.1)).Nodup) : ∀ p ∈ M', p = (b, ch') ∨ (p ∈ M ∧ p.1 ≠ b) := by
  induction h with
  | here =>
    rename_i b ch ch' M
    intro p hp
    rcases List.mem_cons.1 hp with rfl | hp
    · exact .inl rfl
    · refine .inr ⟨by simp [hp], fun e => ?_⟩
      simp only [List.map_cons, List.nodup_cons] at hn
      exact hn.1 (e ▸ List.mem_map_of_mem hp)
  | there hu ih =>
    rename_i q M M' b ch ch'
    intro p hp
    simp only [List.map_cons, List.nodup_cons] at hn
    rcases List.mem_cons.1 hp with rfl | hp
    · refine .inr ⟨by simp, fun e => ?_⟩
      exact hn.1 (e ▸ List.mem_map_of_mem (f := (·.1)) hu.mem)
    · rcases ih hn.2 p hp with h | ⟨h1, h2⟩
      · exact .inl h
      · exact .inr ⟨by simp [h1], h2⟩

theorem get_upd' (H : Heap) (f g : Nat) (e : Ent) : (H.upd f e).t.get g = if g = f then some e else H.t.get g := Tr.get_put _ _ _ _

theorem hasH.upd {M M' : HL} {n : Nat} {H : Heap} {b : Nat} {ch ch' : Ch} (h : hasH M n H) (u : Upd M b ch ch' M') {e' : Ent} (hok : ch'.ok e') : hasH M' n (H.upd b e') := by
  refine ⟨h.next, fun p hp => ?_, by rw [u.keys]; exact h.nodup⟩
  rcases u.cases' h.nodup p hp with rfl | ⟨h1, h2⟩
  · exact ⟨h.lt u.mem, e', by rw [get_upd', if_pos rfl], hok⟩
  · obtain ⟨h3, e, h4, h5⟩ := h.blk p h1
    exact ⟨h3, e, by rw [get_upd', if_neg h2]; exact h4, h5⟩

theorem hasH.add {M : HL} {n : Nat} {H : Heap} (h : hasH M n H) {ch : Ch} {e : Ent} (hok : ch.ok e) : hasH ((n, ch) :: M) (n + 1) (H.add e) := by
  have hn := h.next
  refine ⟨by simp [Heap.add, hn], fun p hp => ?_, ?_⟩
  · rcases List.mem_cons.1 hp with rfl | hp
    · exact ⟨Nat.lt_succ_self _, e, by rw [get_add, if_pos hn.symm], hok⟩
    · obtain ⟨h3, e', h4, h5⟩ := h.blk p hp
      exact ⟨Nat.lt_succ_of_lt h3, e', by rw [get_add, if_neg (by omega)]; exact h4, h5⟩
  · simp only [List.map_cons, List.nodup_cons]
    refine ⟨fun hm => ?_, h.nodup⟩
    obtain ⟨p, hp, he⟩ := List.mem_map.1 hm
    have := (h.blk p hp).1
    omega

theorem readL_iff {c : Tr Value} : ∀ {n i : Nat} {ls : List Value}, ls.length = n → (readL c i n = some ls ↔ ∀ j, j < n → c.get (i + j) = ls[j]?)
  | 0, i, ls, h => by
    have : ls = [] := List.length_eq_zero_iff.1 h
    subst this
    simp [readL]
  | n + 1, i, ls, h => by
    cases ls with
    | nil => simp at h
    | cons v ls =>
      have hl : ls.length = n := by simpa using h
      have ih := readL_iff (c := c) (i := i + 1) hl
      constructor
      · intro hr j hj
        unfold readL at hr
        split at hr
        · rename_i v' hv
          split at hr
          · rename_i l' hl'
            simp only [Option.some.injEq, List.cons.injEq] at hr
            obtain ⟨rfl, rfl⟩ := hr
            cases j with
            | zero => simpa using hv
            | succ j => have := ih.1 hl' j (by omega); rw [List.getElem?_cons_succ, ← this]; congr 1; omega
          · cases hr
        · cases hr
      · intro hr
        have h0 : c.get i = some v := by have := hr 0 (by omega); simpa using this
        have h1 : readL c (i + 1) n = some ls := ih.2 (fun j hj => by have := hr (j + 1) (by omega); rw [List.getElem?_cons_succ] at this; rw [← this]; congr 1; omega)
        simp only [readL, h0, h1]
theorem row_ok (e : TypeId) {l : List Value} (h : l.all one = true) : (Ch.row e 0 0 l).ok (.cells e false [⟨0, 0, l.length⟩] 1 (Tr.putL .nil 0 l)) := by
  refine ⟨rfl, rfl, ⟨0, by simp [findVer], Nat.le_refl _⟩, ?_, h, Nat.zero_lt_one⟩
  rw [readL_iff rfl]
  intro j hj
  rw [Tr.get_putL, if_pos ⟨Nat.zero_le _, by omega⟩]; simp

theorem hasH.row {M : HL} {n : Nat} {H : Heap} (h : hasH M n H) (e : TypeId) {l : List Value} (hl : l.all one = true) : hasH ((n, .row e 0 0 l) :: M) (n + 1) (H.row e l) :=
  h.add (row_ok e hl)

/-- What a block's cells are. -/
inductive Ch.cellsAre : Ch → Nat → Nat → List Value → Prop where
  | row (e u lo cs) : Ch.cellsAre (.row e u lo cs) u lo cs
  | inp (e u lo cs) : Ch.cellsAre (.inp e u lo cs) u lo cs

theorem ok_cells {ch : Ch} {u lo : Nat} {cs : List Value} (hc : ch.cellsAre u lo cs) {e : Ent} (h : ch.ok e) :
    ∃ e' ro vs top c l0 h0, e = .cells e' ro vs top c ∧ findVer u vs = some ⟨u, l0, h0⟩ ∧ l0 ≤ lo ∧ lo + cs.length ≤ h0 ∧ readL c lo cs.length = some cs := by
  cases hc with
  | row e0 u lo cs =>
    cases e with
    | cells e' ro vs top c => obtain ⟨_, _, ⟨l0, h1, h2⟩, h3, _⟩ := h; exact ⟨e', ro, vs, top, c, l0, _, rfl, h1, h2, Nat.le_refl _, h3⟩
    | _ => exact h.elim
  | inp e0 u lo cs =>
    cases e with
    | cells e' ro vs top c => obtain ⟨⟨l0, h0, h1, h2, h3⟩, h4⟩ := h; exact ⟨e', ro, vs, top, c, l0, h0, rfl, h1, h2, h3, h4⟩
    | _ => exact h.elim

theorem hasH.read {M : HL} {n : Nat} {H : Heap} (h : hasH M n H) {b u lo o : Nat} {ch : Ch} {cs : List Value} {v : Value} (hm : (b, ch) ∈ M) (hc : ch.cellsAre u lo cs) (hlo : lo ≤ o) (hv : cs[o - lo]? = some v) :
    H.read ⟨b, o, some u⟩ = some v := by
  obtain ⟨e, he, hok⟩ := h.mem hm
  obtain ⟨e', ro, vs, top, c, l0, h0, rfl, h1, h2, h3, h4⟩ := ok_cells hc hok
  have hlt : o - lo < cs.length := by
    rcases Nat.lt_or_ge (o - lo) cs.length with h | h
    · exact h
    · rw [List.getElem?_eq_none h] at hv; cases hv
  have hg := (readL_iff rfl).1 h4 (o - lo) hlt
  rw [show lo + (o - lo) = o by omega] at hg
  have t1 : Nat.ble l0 o = true := Nat.ble_eq_true_of_le (by omega)
  have t2 : Nat.blt o h0 = true := by simp only [Nat.blt]; exact Nat.ble_eq_true_of_le (by omega)
  simp only [Heap.read, he, h1, t1, t2, Bool.and_self, cond_true, hg, hv]

theorem hasH.readN {M : HL} {n : Nat} {H : Heap} (h : hasH M n H) {b u lo o k : Nat} {ch : Ch} {cs : List Value} (hm : (b, ch) ∈ M) (hc : ch.cellsAre u lo cs) (hlo : lo ≤ o) (hk : o - lo + k ≤ cs.length) :
    H.readN ⟨b, o, some u⟩ k = some ((cs.drop (o - lo)).take k) := by
  obtain ⟨e, he, hok⟩ := h.mem hm
  obtain ⟨e', ro, vs, top, c, l0, h0, rfl, h1, h2, h3, h4⟩ := ok_cells hc hok
  have t1 : Nat.ble l0 o = true := Nat.ble_eq_true_of_le (by omega)
  have t2 : Nat.ble (o + k) h0 = true := Nat.ble_eq_true_of_le (by omega)
  have hr : readL c o k = some ((cs.drop (o - lo)).take k) := by
    rw [readL_iff (by simp; omega)]
    intro j hj
    have := (readL_iff rfl).1 h4 (o - lo + j) (by omega)
    rw [show lo + (o - lo + j) = o + j by omega] at this
    rw [this, List.getElem?_take_of_lt hj, List.getElem?_drop]
  simp only [Heap.readN, he, h1, t1, t2, Bool.and_self, cond_true, hr]

/-- A list in whose midst other cells stand. -/
def splice (cs : List Value) (i : Nat) (l : List Value) : List Value := cs.take i ++ l ++ cs.drop (i + l.length)

theorem splice_length {cs l : List Value} {i : Nat} (h : i + l.length ≤ cs.length) : (splice cs i l).length = cs.length := by simp [splice]; omega
theorem splice_whole {cs l : List Value} (h : l.length = cs.length) : splice cs 0 l = l := by simp [splice]; omega
theorem splice_one {cs : List Value} {i : Nat} {v : Value} (h : i < cs.length) : splice cs i [v] = cs.set i v := by
  simp only [splice, List.length_singleton]
  rw [List.set_eq_take_append_cons_drop, if_pos h]; simp

theorem splice_get {cs l : List Value} {i : Nat} (h : i + l.length ≤ cs.length) (j : Nat) : (splice cs i l)[j]? = if i ≤ j ∧ j < i + l.length then l[j - i]? else cs[j]? := by
  simp only [splice]
  by_cases h1 : j < i
  · rw [if_neg (by omega), List.append_assoc, List.getElem?_append_left (by simp; omega), List.getElem?_take_of_lt h1]
  · by_cases h2 : j < i + l.length
    · rw [if_pos ⟨by omega, h2⟩, List.getElem?_append_left (by simp; omega), List.getElem?_append_right (by simp; omega)]
      congr 1; simp; omega
    · rw [if_neg (by omega), List.getElem?_append_right (by simp; omega), List.getElem?_drop]
      congr 1; simp; omega

theorem hasH.writeN {M M' : HL} {n : Nat} {H : Heap} (h : hasH M n H) {b e u lo o : Nat} {cs l cs' : List Value} (hu : Upd M b (.row e u lo cs) (.row e u lo cs') M') (hl : l.all one = true) (hlo : lo ≤ o)
    (hk : o - lo + l.length ≤ cs.length) (hcs : cs' = splice cs (o - lo) l) : ∃ H', H.writeN ⟨b, o, some u⟩ l = some H' ∧ hasH M' n H' := by
  obtain ⟨ent, he, hok⟩ := h.mem hu.mem
  cases ent with
  | cells e' ro vs top c =>
    obtain ⟨rfl, rfl, ⟨l0, h1, h2⟩, h3, h4, htop⟩ := hok
    have t1 : Nat.ble l0 o = true := Nat.ble_eq_true_of_le (by omega)
    have t2 : Nat.ble (o + l.length) (lo + cs.length) = true := Nat.ble_eq_true_of_le (by omega)
    refine ⟨H.upd b (.cells e' false [⟨u, l0, lo + cs.length⟩] top (c.putL o l)), ?_, h.upd hu ?_⟩
    · simp only [Heap.writeN, he, h1, t1, t2, hl, Bool.and_self, cond_true]
    · have hlen : cs'.length = cs.length := by rw [hcs]; exact splice_length hk
      refine ⟨rfl, rfl, ⟨l0, ?_, h2⟩, ?_, ?_, htop⟩
      · simp [findVer, hlen]
      · rw [readL_iff rfl]
        intro j hj
        rw [Tr.get_putL, hcs, splice_get hk]
        by_cases hj2 : o - lo ≤ j ∧ j < o - lo + l.length
        · rw [if_pos hj2, if_pos (by omega)]; congr 1; omega
        · rw [if_neg hj2, if_neg (by omega)]; exact (readL_iff rfl).1 h3 j (by omega)
      · rw [hcs]
        simp only [splice, List.all_append, Bool.and_eq_true]
        refine ⟨⟨?_, hl⟩, ?_⟩
        · rw [List.all_eq_true] at h4 ⊢; exact fun x hx => h4 x (List.mem_of_mem_take hx)
        · rw [List.all_eq_true] at h4 ⊢; exact fun x hx => h4 x (List.mem_of_mem_drop hx)
  | _ => exact hok.elim

end Go.Abs
