/- append: in its own room, or in a new row. -/
import Derived.Test.YtdlfikobjnjmaaaAbsHeap
namespace Go.Abs
set_option linter.unusedSectionVars false
variable [Globs]
open Go
set_option linter.unusedVariables false

theorem grow_le (newLen : Nat) : ∀ (r c : Nat), c < newLen → newLen ≤ 100000 → Builtin.growBy newLen r c ≤ 130000
  | 0, c, h, hn => by unfold Builtin.growBy; omega
  | r + 1, c, h, hn => by
    unfold Builtin.growBy
    split
    · omega
    · by_cases h2 : c + (c + 768) / 4 < newLen
      · exact grow_le newLen r _ h2 hn
      · cases r with
        | zero => unfold Builtin.growBy; omega
        | succ r => unfold Builtin.growBy; rw [if_pos (by omega)]; omega

theorem nextcap_le {need cap : Nat} (h : cap < need) (hn : need ≤ 100000) : Builtin.nextslicecap need cap ≤ 1000000 := by
  unfold Builtin.nextslicecap
  split
  · omega
  · split
    · omega
    · have := grow_le need 4 cap h hn; omega

section
variable {P : Program} {w : World} {st xt elem : TypeId} {rest : List TypeId} {type : TypeId} {base : Option Addr} {len cap size : Nat} {x : Value} {n : Nat}

theorem run_sizeOf {e : TypeId} {i : TypeInfo} (h : P.info? e = some i) : (sizeOf e).run P w = .ok i.size w := by
  simp [sizeOf, typeInfo, h]

theorem run_underlying {t : TypeId} {d : TypeDesc} (h : P.underlying t = some d) : (underlying t).run P w = .ok d w := by
  simp [underlying, h]

theorem run_zeroValue {e : TypeId} {i : TypeInfo} {z : Value} (h : P.info? e = some i) (hz : i.zero = some z) : (zeroValue e).run P w = .ok z w := by
  simp [zeroValue, typeInfo, h, hz]

theorem run_append_in {at_ : Array TypeId} {i : TypeInfo} (h0 : at_[0]? = some st) (h1 : at_[1]? = some xt) (hu : P.underlying st = some (.slice elem)) (hx : srcT P xt = true)
    (hi : P.info? elem = some i) (hl : (Builtin.lenOf x).run P w = .ok n w) {new : Array Value} (hn : (Builtin.firstCells i.size n x).run P w = .ok new w) (hr : len + n ≤ cap)
    {a : Addr} {w' : World} (hs : (storeCells (a.add (len * i.size)) new.toList).run P w = .ok () w') :
    (Builtin.append_ at_ type #[.slice (some a) len cap, x]).run P w = .ok (.slice (some a) (len + n) cap) w' := by
  have e1 := run_underlying (w := w) hu
  have e3 := run_sizeOf (w := w) hi
  have key : ∀ d, P.underlying xt = some d → (d = .string ∨ ∃ e, d = .slice e) →
      (Builtin.append_ at_ type #[.slice (some a) len cap, x]).run P w = .ok (.slice (some a) (len + n) cap) w' := by
    intro d hd hk
    have e2 := run_underlying (w := w) hd
    rcases hk with rfl | ⟨e, rfl⟩ <;>
    · unfold Builtin.append_
      simp only [h0, h1, Sem.run_bind, e1, Result.andThen_ok, e3, List.getElem?_toArray, List.getElem?_cons_zero, List.getElem?_cons_succ, e2, Sem.run_pure, hl, Bool.false_eq_true, if_false,
        Bool.not_false, if_true, hr, hn, hs]
  unfold srcT at hx
  cases hd : P.underlying xt with
  | none => rw [hd] at hx; cases hx
  | some d =>
    rw [hd] at hx
    cases d <;> first | exact key _ hd (.inl rfl) | exact key _ hd (.inr ⟨_, rfl⟩) | (simp at hx)


theorem run_typeInfo {e : TypeId} {i : TypeInfo} (h : P.info? e = some i) : (typeInfo e).run P w = .ok i w := by
  simp [typeInfo, h]

theorem small_room {need cap bytes : Nat} (h : cap < need) (hn : need ≤ 100000) (hb : bytes ≤ 1000000) : ¬ Builtin.nextslicecap need cap * bytes > 2 ^ 48 := by
  have h1 := nextcap_le h hn
  have h2 : Builtin.nextslicecap need cap * bytes ≤ 1000000 * 1000000 := Nat.mul_le_mul h1 hb
  omega

theorem run_append_grow {at_ : Array TypeId} {i : TypeInfo} {z : Value} (h0 : at_[0]? = some st) (h1 : at_[1]? = some xt) (hu : P.underlying st = some (.slice elem)) (hx : srcT P xt = true)
    (hi : P.info? elem = some i) (hz : i.zero = some z) (hl : (Builtin.lenOf x).run P w = .ok n w) {old new : Array Value}
    (ho : ∀ w1 : World, w1.heap = w.heap → (Builtin.firstCells i.size len (.slice base len cap)).run P w1 = .ok old w1)
    (hn : ∀ w1 : World, w1.heap = w.heap → (Builtin.firstCells i.size n x).run P w1 = .ok new w1) (hr : ¬ len + n ≤ cap) (hs : len + n ≤ 100000) (hb : i.bytes ≤ 1000000) :
    ∃ c w', len + n ≤ c ∧ (Builtin.append_ at_ type #[.slice base len cap, x]).run P w = .ok (.slice (some ⟨w.heap.size, 0, none⟩) (len + n) c) w' ∧
      Lays w w' (.cells (old ++ new ++ Builtin.zeroCells z.cells (c - (len + n))) elem) := by
  have e1 := fun w => run_underlying (w := w) hu
  have e3 := fun w => run_sizeOf (P := P) (w := w) hi
  have e4 := fun w => run_typeInfo (P := P) (w := w) hi
  have e5 := fun w => run_zeroValue (P := P) (w := w) hi hz
  have hbig : ¬ (((len + n : Nat) : Int) > IntKind.i64.max ∧ (False ∨ i.bytes = 0)) := by
    intro h; have := h.1; simp [IntKind.max, IntKind.signed, IntKind.bits] at this; omega
  have hroom := small_room (need := len + n) (cap := cap) (bytes := i.bytes) (by omega) hs hb
  have w1 : ({ w with drawn := w.drawn + 1 } : World).heap = w.heap := rfl
  refine ⟨(len + n) + (w.tape w.drawn (.appendCap (len + n) cap elem)) % (2 ^ 63 - (len + n)),
    { w with drawn := w.drawn + 1, heap := w.heap.push (.cells (old ++ new ++ Builtin.zeroCells z.cells ((len + n) + (w.tape w.drawn (.appendCap (len + n) cap elem)) % (2 ^ 63 - (len + n)) - (len + n))) elem) },
    by omega, ?_, ⟨rfl, rfl, rfl⟩⟩
  have key : ∀ d, P.underlying xt = some d → (d = .string ∨ ∃ e, d = .slice e) →
      (Builtin.append_ at_ type #[.slice base len cap, x]).run P w = .ok (.slice (some ⟨w.heap.size, 0, none⟩) (len + n) ((len + n) + (w.tape w.drawn (.appendCap (len + n) cap elem)) % (2 ^ 63 - (len + n))))
        { w with drawn := w.drawn + 1, heap := w.heap.push (.cells (old ++ new ++ Builtin.zeroCells z.cells ((len + n) + (w.tape w.drawn (.appendCap (len + n) cap elem)) % (2 ^ 63 - (len + n)) - (len + n))) elem) } := by
    intro d hd hk
    have e2 := run_underlying (w := w) hd
    rcases hk with rfl | ⟨e, rfl⟩ <;>
    · unfold Builtin.append_
      simp only [h0, h1, Sem.run_bind, e1, Result.andThen_ok, e3, List.getElem?_toArray, List.getElem?_cons_zero, List.getElem?_cons_succ, e2, Sem.run_pure, hl, Bool.false_eq_true, if_false,
        Bool.not_false, if_true, hr, e4, hbig, hroom, run_choose, Question.forced, Question.cut, run_askRoom, ho _ w1, hn _ w1, e5, newRow, run_newObj]
  unfold srcT at hx
  cases hd : P.underlying xt with
  | none => rw [hd] at hx; cases hx
  | some d =>
    rw [hd] at hx
    cases d <;> first | exact key _ hd (.inl rfl) | exact key _ hd (.inr ⟨_, rfl⟩) | (simp at hx)

/-- nothing onto nil. -/
theorem run_append_nil {at_ : Array TypeId} {i : TypeInfo} (h0 : at_[0]? = some st) (h1 : at_[1]? = some xt) (hu : P.underlying st = some (.slice elem)) (hx : srcT P xt = true)
    (hi : P.info? elem = some i) (hl : (Builtin.lenOf x).run P w = .ok n w) {new : Array Value} (hn : (Builtin.firstCells i.size n x).run P w = .ok new w) (hr : len + n ≤ cap) :
    (Builtin.append_ at_ type #[.slice none len cap, x]).run P w = .ok (.slice none (len + n) cap) w := by
  have e1 := run_underlying (w := w) hu
  have e3 := run_sizeOf (w := w) hi
  have key : ∀ d, P.underlying xt = some d → (d = .string ∨ ∃ e, d = .slice e) →
      (Builtin.append_ at_ type #[.slice none len cap, x]).run P w = .ok (.slice none (len + n) cap) w := by
    intro d hd hk
    have e2 := run_underlying (w := w) hd
    rcases hk with rfl | ⟨e, rfl⟩ <;>
    · unfold Builtin.append_
      simp only [h0, h1, Sem.run_bind, e1, Result.andThen_ok, e3, List.getElem?_toArray, List.getElem?_cons_zero, List.getElem?_cons_succ, e2, Sem.run_pure, hl, Bool.false_eq_true, if_false,
        Bool.not_false, if_true, hr, hn]
  unfold srcT at hx
  cases hd : P.underlying xt with
  | none => rw [hd] at hx; cases hx
  | some d =>
    rw [hd] at hx
    cases d <;> first | exact key _ hd (.inl rfl) | exact key _ hd (.inr ⟨_, rfl⟩) | (simp at hx)

end

theorem keepOld_mem {h : Nat} {l : List Ver} {x : Ver} (hx : x ∈ keepOld h l) : x ∈ l ∧ x.hi ≤ h := by
  unfold keepOld at hx
  rw [List.mem_filter] at hx
  exact ⟨List.mem_of_mem_take hx.1, Nat.le_of_ble_eq_true hx.2⟩

section
variable {P : Program} {σ : Ren} {N : Nat} {H : Heap} {w : World}

theorem HR.appended (h : HR P σ N H w) {f e vs top c u v} (hg : H.t.get f = some (.cells e false vs top c)) (hf : findVer u vs = some v) {l : Loc} (hl : σ.row f v.id = some l)
    {m : Loc} {lo : Nat} {new new' : List Value} (hr : VL σ new new') {w' : World} (hsz : w.heap.size ≤ w'.heap.size)
    (hother : ∀ b, b < w.heap.size → b ≠ m.blk → w'.heap[b]? = w.heap[b]?) {cs' : Array Value} {e'' : TypeId} (hm : w'.heap[m.blk]? = some (.cells cs' e'' (0, 0))) (hn : cs'.size = m.n) (hN : N ≤ m.blk)
    (hlo : m.sh ≤ lo) (hlv : lo ≤ v.hi) (hhi : v.hi + new.length ≤ m.sh + m.n)
    (hold : ∀ i, lo ≤ i → i < v.hi → ∃ x x', c.get i = some x ∧ cs'[i - m.sh]? = some x' ∧ VR σ x x')
    (hnew : ∀ (j : Nat) (x' : Value), new'[j]? = some x' → cs'[v.hi + j - m.sh]? = some x')
    (hD : (m = l ∧ ∃ cur e1 fz, w.heap[l.blk]? = some (.cells cur e1 fz) ∧ ∀ k, k + l.sh < v.hi → cs'[k]? = cur[k]?) ∨ w.heap.size ≤ m.blk)
    (hos : w'.os = w.os) (hout : w'.output = w.output)
    (hback : ∀ b cs e fz, b < w.heap.size → w'.heap[b]? = some (.cells cs e fz) → ∃ cs0, w.heap[b]? = some (.cells cs0 e fz))
    (hnewb : ∀ b cs e fz, w.heap.size ≤ b → w'.heap[b]? = some (.cells cs e fz) → fz = (0, 0)) :
    ∃ τ, σ.le τ ∧ HR P τ N (H.upd f (.cells e false (⟨top, lo, v.hi + new.length⟩ :: keepOld v.hi (dropTo u vs)) (top + 1) (c.putL v.hi new))) w' ∧
      Fr σ H w τ (H.upd f (.cells e false (⟨top, lo, v.hi + new.length⟩ :: keepOld v.hi (dropTo u vs)) (top + 1) (c.putL v.hi new))) w' ∧ τ.row f top = some m := by
  obtain ⟨hv, hid⟩ := findVer_mem hf
  have hR := h.rowOf hg hv hl
  have hnone : σ.row f top = none := h.tops _ _ _ _ _ _ hg top (Nat.le_refl _)
  have hle : σ.le (σ.addRow f top m) := le_addRow hnone
  have hat : (σ.addRow f top m).row f top = some m := by simp [Ren.addRow]
  have hlen := hr.length
  -- what an older row says in the elder renaming
  have down : ∀ {g u l}, (g ≠ f ∨ u ≠ top) → (σ.addRow f top m).row g u = some l → σ.row g u = some l := by
    intro g u l hne hl
    have hl' : (if g = f ∧ u = top then _ else σ.row g u) = some l := hl
    rw [if_neg (by omega)] at hl'; exact hl'
  -- the elder rows' blocks
  have far : ∀ {g e2 ro2 vs2 top2 c2 v2 l2}, H.t.get g = some (.cells e2 ro2 vs2 top2 c2) → v2 ∈ vs2 → σ.row g v2.id = some l2 → l2.blk = m.blk → m = l ∧ g = f ∧ l.sh = l2.sh := by
    intro g e2 ro2 vs2 top2 c2 v2 l2 hg2 hv2 hl2 hb
    have hlt := blk_lt (h.rowOf hg2 hv2 hl2)
    rcases hD with ⟨rfl, _⟩ | hD
    · rcases h.uniq g f _ _ _ _ _ _ _ _ _ _ hg2 hg v2 hv2 v hv l2 m hl2 hl hb with ⟨q1, q2⟩ | ⟨_, q⟩
      · exact ⟨rfl, q1, q2.symm⟩
      · cases q
    · omega
  have lts : ∀ {x}, x ∈ keepOld v.hi (dropTo u vs) → x ∈ vs ∧ x.hi ≤ v.hi := fun hx => ⟨dropTo_mem (keepOld_mem hx).1, (keepOld_mem hx).2⟩
  have ltop : ∀ {x}, x ∈ vs → x.id < top := by
    intro x hx
    obtain ⟨lx, hx'⟩ := h.rows f _ _ _ _ _ hg x hx
    exact hx'.id
  -- an entry of the new heap, told by the elder one
  have cellsUpd : ∀ {g e2 ro2 vs2 top2 c2 v2}, (H.upd f (.cells e false (⟨top, lo, v.hi + new.length⟩ :: keepOld v.hi (dropTo u vs)) (top + 1) (c.putL v.hi new))).t.get g = some (.cells e2 ro2 vs2 top2 c2) → v2 ∈ vs2 →
      (g = f ∧ ro2 = false ∧ v2.id = top) ∨ ((g ≠ f ∨ v2.id ≠ top) ∧ ∃ vs3 top3 c3, H.t.get g = some (.cells e2 ro2 vs3 top3 c3) ∧ v2 ∈ vs3) := by
    intro g e2 ro2 vs2 top2 c2 v2 hg2 hv2
    rw [get_upd] at hg2
    by_cases hh : g = f
    · subst hh; rw [if_pos rfl] at hg2; cases hg2
      rcases List.mem_cons.1 hv2 with rfl | hv2
      · exact .inl ⟨rfl, rfl, rfl⟩
      · have := lts hv2
        exact .inr ⟨.inr (by have := ltop this.1; omega), _, _, _, hg, this.1⟩
    · rw [if_neg hh] at hg2; exact .inr ⟨.inl hh, _, _, _, hg2, hv2⟩
  refine ⟨_, hle, ?_, ?_, hat⟩
  · constructor
    · intro g e2 ro vs2 top2 c2 hg2 v2 hv2
      rw [get_upd] at hg2
      by_cases hgf : g = f
      · subst hgf
        rw [if_pos rfl] at hg2; cases hg2
        rcases List.mem_cons.1 hv2 with rfl | hv2
        · refine ⟨m, hat, ⟨cs', e'', (0, 0), hm, hn, fun _ => ⟨rfl, hN⟩, ?_⟩, hlo, hhi, by simp, fun h => by cases h⟩
          intro i hi hj
          have hi' : lo ≤ i := hi
          have hj' : i < v.hi + new.length := hj
          rw [Tr.get_putL]
          by_cases hin : i < v.hi
          · obtain ⟨x, x', q1, q2, q3⟩ := hold i hi' hin
            exact ⟨x, x', by rw [if_neg (by omega)]; exact q1, q2, q3.le hle⟩
          · have hlt : i - v.hi < new.length := by omega
            obtain ⟨y', hy', hyy⟩ := hr.get (i - v.hi) _ (List.getElem?_eq_getElem hlt)
            refine ⟨_, y', by rw [if_pos (by omega)]; exact List.getElem?_eq_getElem hlt, ?_, hyy.le hle⟩
            have := hnew _ _ hy'
            rw [show v.hi + (i - v.hi) = i from by omega] at this; exact this
        · obtain ⟨hvs, hhi2⟩ := lts hv2
          obtain ⟨l2, hr2⟩ := h.rows g _ _ _ _ _ hg v2 hvs
          have hid2 := hr2.id
          refine ⟨l2, hle.1 _ _ _ hr2.at_, ?_, hr2.lo, hr2.hi, by omega, fun h => by cases h⟩
          obtain ⟨cs2, e3, fz3, k1, k2, k3, k4⟩ := hr2.blk
          by_cases hb : l2.blk = m.blk
          · obtain ⟨rfl, _, hsh⟩ := far hg hvs hr2.at_ hb
            rcases hD with ⟨_, cur, e1, fz, q1, q2⟩ | hD
            · rw [hb] at k1
              rw [k1] at q1; cases q1
              refine ⟨cs', e'', (0, 0), by rw [hb]; exact hm, ?_, fun _ => ⟨rfl, by rw [hb]; exact hN⟩, ?_⟩
              · have hRb := hR.blk
                obtain ⟨cs5, e5, fz5, p1, p2, _⟩ := hRb
                rw [k1] at p1; cases p1
                omega
              · intro i hi hj
                obtain ⟨x, x', p1, p2, p3⟩ := k4 i hi hj
                have := hr2.lo
                refine ⟨x, x', by rw [Tr.get_putL, if_neg (by omega)]; exact p1, ?_, p3.le hle⟩
                rw [q2 _ (by omega)]; exact p2
            · have := blk_lt hr2; omega
          · refine ⟨cs2, e3, fz3, (hother _ (blk_lt hr2) hb).trans k1, k2, k3, ?_⟩
            intro i hi hj
            obtain ⟨x, x', p1, p2, p3⟩ := k4 i hi hj
            exact ⟨x, x', by rw [Tr.get_putL, if_neg (by omega)]; exact p1, p2, p3.le hle⟩
      · rw [if_neg hgf] at hg2
        obtain ⟨l2, hr2⟩ := h.rows g e2 ro vs2 top2 c2 hg2 v2 hv2
        refine ⟨l2, (hr2.le hle).world (hother _ (blk_lt hr2) (fun he => ?_))⟩
        exact hgf (far hg2 hv2 hr2.at_ he).2.1
    · intro g1 g2 e1 e2 ro1 ro2 vs1 vs2 t1 t2 c1 c2 h1 h2 v1 hv1 v2 hv2 l1 l2 hl1 hl2 hb
      rcases cellsUpd h1 hv1 with ⟨rfl, rfl, q1⟩ | ⟨n1, _, _, _, q1, q1'⟩
      · rw [q1, hat] at hl1; cases hl1
        rcases cellsUpd h2 hv2 with ⟨rfl, rfl, q2⟩ | ⟨n2, _, _, _, q2, q2'⟩
        · rw [q2, hat] at hl2; cases hl2; exact .inl ⟨rfl, rfl⟩
        · have hl2' := down n2 hl2
          obtain ⟨rfl, r2, r3⟩ := far q2 q2' hl2' hb.symm
          exact .inl ⟨r2.symm, r3⟩
      · have hl1' := down n1 hl1
        rcases cellsUpd h2 hv2 with ⟨rfl, rfl, q2⟩ | ⟨n2, _, _, _, q2, q2'⟩
        · rw [q2, hat] at hl2; cases hl2
          obtain ⟨rfl, r2, r3⟩ := far q1 q1' hl1' hb
          exact .inl ⟨r2, r3.symm⟩
        · exact h.uniq g1 g2 _ _ _ _ _ _ _ _ _ _ q1 q2 v1 q1' v2 q2' l1 l2 hl1' (down n2 hl2) hb
    · intro g o' hg2 hno
      rw [get_upd] at hg2
      by_cases hh : g = f
      · subst hh; rw [if_pos rfl] at hg2; cases hg2; exact absurd rfl (hno _ _ _ _ _)
      · rw [if_neg hh] at hg2
        obtain ⟨b, o'', q1, q2, q3, q4⟩ := h.objs g o' hg2 hno
        have hlt := (Array.getElem?_eq_some_iff.1 q3).1
        refine ⟨b, o'', q1, q2, (hother b hlt (fun he => ?_)).trans q3, q4.le hle⟩
        rcases hD with ⟨rfl, cur, e1, fz, r1, _⟩ | hD
        · rw [← he] at r1; rw [r1] at q3; cases q3; exact q4.notCells _ _ _ rfl
        · omega
    · intro g1 g2 o1 o2 b h1 n1 h2 n2 h3 h4
      rw [get_upd] at h1 h2
      by_cases hh : g1 = f
      · rw [if_pos hh] at h1; cases h1; exact absurd rfl (n1 _ _ _ _ _)
      · by_cases hh2 : g2 = f
        · rw [if_pos hh2] at h2; cases h2; exact absurd rfl (n2 _ _ _ _ _)
        · rw [if_neg hh] at h1; rw [if_neg hh2] at h2
          exact h.uniqO g1 g2 _ _ b h1 n1 h2 n2 h3 h4
    · intro g hgn
      have hgn' : H.next ≤ g := hgn
      obtain ⟨q1, q2, q3⟩ := h.next g hgn'
      have hne : g ≠ f := fun he => by subst he; rw [hg] at q3; cases q3
      refine ⟨fun u' => ?_, q2, ?_⟩
      · show (if _ then _ else _) = _
        rw [if_neg (by omega)]; exact q1 u'
      · rw [get_upd, if_neg hne]; exact q3
    · intro g e2 ro vs2 top2 c2 hg2 u' hu
      rw [get_upd] at hg2
      by_cases hh : g = f
      · subst hh; rw [if_pos rfl] at hg2; cases hg2
        show (if _ then _ else _) = _
        rw [if_neg (by omega)]; exact h.tops _ _ _ _ _ _ hg u' (by omega)
      · rw [if_neg hh] at hg2
        show (if _ then _ else _) = _
        rw [if_neg (by omega)]; exact h.tops _ _ _ _ _ _ hg2 u' hu
    · have := h.size; omega
    · exact h.glob.to fun b hb => hother b (Nat.lt_of_lt_of_le hb h.size) (by omega)
  · have himg : ∀ b, b < w.heap.size → Img (σ.addRow f top m) (H.upd f (.cells e false (⟨top, lo, v.hi + new.length⟩ :: keepOld v.hi (dropTo u vs)) (top + 1) (c.putL v.hi new))) b → Img σ H b := by
      rintro b hb (⟨g, e2, vs2, t2, c2, v2, l2, q1, q2, q3, q4⟩ | ⟨g, o, q1, q2, q3⟩)
      · rcases cellsUpd q1 q2 with ⟨rfl, _, r1⟩ | ⟨n1, _, _, _, r1, r2⟩
        · rw [r1, hat] at q3; cases q3
          rcases hD with ⟨rfl, _⟩ | hD
          · exact .inl ⟨_, _, _, _, _, _, _, hg, hv, hl, q4⟩
          · omega
        · exact .inl ⟨_, _, _, _, _, _, _, r1, r2, down n1 q3, q4⟩
      · rw [get_upd] at q1
        by_cases hh : g = f
        · subst hh; rw [if_pos rfl] at q1; cases q1; exact absurd rfl (q2 _ _ _ _ _)
        · rw [if_neg hh] at q1; exact .inr ⟨_, _, q1, q2, q3⟩
    refine ⟨hsz, hos, hout, fun b hb hni => hother b hb (fun he => ?_), himg, hback, hnewb⟩
    rcases hD with ⟨rfl, _⟩ | hD
    · exact hni (he ▸ img_row hg hv hl)
    · omega
end

end Go.Abs
