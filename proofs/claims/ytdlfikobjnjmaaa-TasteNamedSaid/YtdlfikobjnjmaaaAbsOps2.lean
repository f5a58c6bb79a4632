/- The operations that lay and copy rows, and the calls. -/
import Derived.Test.YtdlfikobjnjmaaaAbsOps
namespace Go.Abs
set_option linter.unusedSectionVars false
variable [Globs]
open Go
set_option linter.unusedVariables false
set_option linter.unusedSimpArgs false

theorem flat_get {z : List Value} (hz : 1 ≤ z.length) : ∀ (m i : Nat), i < m * z.length → ((List.replicate m z).flatten)[i]? = z[i % z.length]?
  | 0, i, h => by simp at h
  | m + 1, i, h => by
    rw [List.replicate_succ, List.flatten_cons]
    by_cases hi : i < z.length
    · rw [List.getElem?_append_left hi, Nat.mod_eq_of_lt hi]
    · rw [List.getElem?_append_right (by omega), flat_get hz m _ (by rw [Nat.succ_mul] at h; omega)]
      congr 1
      conv => rhs; rw [show i = (i - z.length) + z.length from by omega, Nat.add_mod_right]

theorem flat_eq {z : Array Value} (hz : 1 ≤ z.size) (m : Nat) : (Array.range (m * z.size)).map (fun i => z[i % z.size]!) = ((List.replicate m z.toList).flatten).toArray := by
  apply Array.ext_getElem?
  intro i
  have hl : z.toList.length = z.size := by simp
  by_cases hi : i < m * z.size
  · have h2 := flat_get (z := z.toList) (by omega) m i (by rw [hl]; exact hi)
    have hm : i % z.size < z.size := Nat.mod_lt _ (by omega)
    have e1 : ((List.replicate m z.toList).flatten).toArray[i]? = z.toList[i % z.size]? := by rw [List.getElem?_toArray, h2, hl]
    rw [e1]
    simp [hi, hm]
  · have e1 : ((List.replicate m z.toList).flatten).toArray[i]? = none := by
      rw [List.getElem?_toArray, List.getElem?_eq_none]
      rw [List.length_flatten]
      simp; omega
    rw [e1, Array.getElem?_eq_none (by simp; omega)]

section
variable {P : Program} {σ : Ren} {N : Nat} {H : Heap} {w : World} {ρ ρ' : Operand → Value} {o : Oper}

/-- A slice over a new row of just these cells. -/
theorem newS_OK (h : HR P σ N H w) {e : TypeId} {n m : Nat} {ls ls' : List Value} (hr : VL σ ls ls') {s : Sem Next}
    (hs : s.run P w = .ok (.value (.slice (some ⟨w.heap.size, 0, none⟩) n m)) { w with heap := w.heap.push (.cells ls'.toArray e) }) :
    OpOK P σ N H w s (.slice (some (newAddr H)) n (2 * m + 1)) (H.row e ls) := by
  obtain ⟨τ, l, q1, q2, q3, q4, q5⟩ := row_sound h (e := e) hr (cs := ls'.toArray) (fun i x hx => by simpa using hx) (by simp [hr.length]) (e' := e) (w' := { w with heap := w.heap.push (.cells ls'.toArray e) }) ⟨rfl, rfl, rfl⟩
  exact ⟨τ, _, _, _, hs, rfl, q1, q2, .slK _ _ q4, q3⟩

theorem all_flat {z : List Value} (hz : z.all plain1 = true) : ∀ m, ((List.replicate m z).flatten).all plain1 = true
  | 0 => rfl
  | m + 1 => by rw [List.replicate_succ, List.flatten_cons, List.all_append, hz, all_flat hz m]; rfl

theorem bytesT_of {e : TypeId} {i : TypeInfo} (h : P.info? e = some i) : bytesT P e = i.bytes := by simp [bytesT, h]

theorem run_mkS (w : World) {t e : TypeId} {l c : Operand} {z : List Value} (hop : o.op = .makeSlice t l c) (hd : P.underlying t = some (.slice e)) (hz : zeroT P e = some z) (hby : bytesT P e ≤ 1000000)
    (hsz : 1 ≤ sizeT P e) (hl : VR σ (ρ l) (ρ' l)) (hc : VR σ (ρ c) (ρ' c)) {n m : Nat} (hn : natOf (ρ l) = some n) (hm : natOf (ρ c) = some m) (q1 : n ≤ m) (q2 : m ≤ 100000) :
    (execOp ρ' o).run P w = .ok (.value (.slice (some ⟨w.heap.size, 0, none⟩) n m)) { w with heap := w.heap.push (.cells ((List.replicate m z).flatten).toArray e) } := by
  obtain ⟨i, zv, hi, hzv, rfl, hp, hs⟩ := zeroT_of hz
  obtain ⟨k1, _, hl'⟩ := hl.natOf_ hn
  obtain ⟨k2, _, hc'⟩ := hc.natOf_ hm
  rw [sizeT_of hi] at hsz
  have hbi : i.bytes ≤ 1000000 := by rw [← bytesT_of hi]; exact hby
  have e1 := run_underlying (w := w) hd
  have e2 := run_typeInfo (P := P) (w := w) hi
  have e3 := run_sizeOf (P := P) (w := w) hi
  have e4 := run_zeroValue (w := w) hi hzv
  have w1 : IntKind.i64.wrap (m : Int) = m := IntWalk.i64_in _ (by omega)
  have w2 : IntKind.i64.wrap (n : Int) = n := IntWalk.i64_in _ (by omega)
  have hprod : i.bytes * m ≤ 1000000 * 100000 := Nat.mul_le_mul hbi q2
  have hcast : (i.bytes : Int) * (m : Int) = ((i.bytes * m : Nat) : Int) := by rw [Int.natCast_mul]
  have t1 : ¬ ((m : Int) < 0) := by omega
  have t2 : ¬ ((i.bytes : Int) * (m : Int) > 2 ^ 48) := by rw [hcast]; omega
  have t3 : ¬ ((n : Int) < 0) := by omega
  have t4 : ¬ ((n : Int) > (m : Int)) := by omega
  have hcells : (Array.range (m * i.size)).map (fun j => (if m * i.size = 0 then #[] else zv.cells)[j % (if m * i.size = 0 then (#[] : Array Value) else zv.cells).size]!) = ((List.replicate m zv.cells.toList).flatten).toArray := by
    by_cases h0 : m * i.size = 0
    · have : m = 0 := by rcases Nat.mul_eq_zero.1 h0 with h | h <;> omega
      subst this; simp
    · simp only [if_neg h0]
      rw [← hs]; exact flat_eq (by omega) m
  have e4' := fun w => run_zeroValue (P := P) (w := w) hi hzv
  by_cases h0 : m * i.size = 0
  · simp only [h0, if_true] at hcells
    simp only [execOp, hop, Instr.makeSlice, Sem.run_bind, e1, hl', hc', asInt, asIntOf, Sem.run_pure, Result.andThen_ok, e2, Int.ofNat_eq_natCast, w1, w2, decide_eq_false t1, decide_eq_false t2,
      decide_eq_false t3, decide_eq_false t4, Bool.or_false, Bool.false_eq_true, if_false, run_askRoom, e3, Int.toNat_natCast, h0, if_true, newRow, run_newObj, hcells]
  · simp only [if_neg h0] at hcells
    simp only [execOp, hop, Instr.makeSlice, Sem.run_bind, e1, hl', hc', asInt, asIntOf, Sem.run_pure, Result.andThen_ok, e2, Int.ofNat_eq_natCast, w1, w2, decide_eq_false t1, decide_eq_false t2,
      decide_eq_false t3, decide_eq_false t4, Bool.or_false, Bool.false_eq_true, if_false, run_askRoom, e3, Int.toNat_natCast, if_neg h0, e4', newRow, run_newObj, hcells]

theorem ok_mkS (h : HR P σ N H w) {t e : TypeId} {l c : Operand} {z : List Value} (hop : o.op = .makeSlice t l c) (hd : P.underlying t = some (.slice e)) (hz : zeroT P e = some z) (hby : bytesT P e ≤ 1000000)
    (hsz : 1 ≤ sizeT P e) (hl : VR σ (ρ l) (ρ' l)) (hc : VR σ (ρ c) (ρ' c)) {v : Value} {H' : Heap} (hv : oMkS e z (ρ l) (ρ c) H = .val v H') : OpOK P σ N H w (execOp ρ' o) v H' := by
  obtain ⟨i, zv, hi, hzv, hzz, hp, hs⟩ := zeroT_of hz
  unfold oMkS at hv
  split at hv
  · rename_i n m hn hm
    cases hb : (Nat.ble n m && Nat.ble m 100000) with
    | false => rw [hb] at hv; cases hv
    | true =>
      rw [hb, cond_true] at hv; cases hv
      simp only [Bool.and_eq_true] at hb
      exact newS_OK h (VL.refl_plain (all_flat hp m)) (run_mkS w hop hd hz hby hsz hl hc hn hm (Nat.le_of_ble_eq_true hb.1) (Nat.le_of_ble_eq_true hb.2))
  · cases hv

theorem ok_plain (h : HR P σ N H w) (hsel : ∀ cs b, o.op ≠ .select cs b) (hρ : ∀ x ∈ o.op.operands, VR σ (ρ x) (ρ' x)) {v : Value} {H' : Heap} (hv : oPlain P o ρ H = .val v H') : OpOK P σ N H w (execOp ρ' o) v H' := by
  unfold oPlain at hv
  cases hb : o.op.operands.toList.all (fun x => plainV (ρ x)) with
  | false => rw [hb] at hv; cases hv
  | true =>
    rw [hb, cond_true] at hv
    obtain ⟨hr, hpl, rfl⟩ := asPlain_val hv
    have hsame : execOp ρ' o = execOp ρ o := execOp_congr o hsel (fun x hx => by
      rw [List.all_eq_true] at hb
      exact (hρ x hx).plainV_ (hb x (by simpa using hx)))
    unfold pureNext at hr
    split at hr
    · rename_i v2 hr2
      cases hr
      have := pureRun_run _ hr2 w
      exact OpOK.still h (v' := v) (by rw [hsame]; exact this) (VR.refl_plain hpl)
    · cases hr

theorem ok_len (h : HR P σ N H w) {c : Call} {x : Operand} {st e : TypeId} (hop : o.op = .call c) (hcal : c.callee = .builtin .len) (hargs : c.args = #[x]) (ht : c.argTypes[0]? = some st) (hd : P.underlying st = some (.slice e))
    (hx : VR σ (ρ x) (ρ' x)) {v : Value} {H' : Heap} (hv : oLen (ρ x) H = .val v H') : OpOK P σ N H w (execOp ρ' o) v H' := by
  unfold oLen at hv
  split at hv
  · rename_i b n k he
    cases hv
    rw [he] at hx
    have : ∃ b' k', ρ' x = .slice b' n k' := by generalize ρ' x = y at hx; cases hx <;> exact ⟨_, _, rfl⟩
    obtain ⟨b', k', hx'⟩ := this
    have e1 := run_underlying (w := w) hd
    exact OpOK.still h (v' := goInt n) (by simp [execOp, hop, resolve, hcal, hargs, invoke, builtin, Builtin.len_, ht, hx', e1]) (.int _ _)
  · cases hv

theorem ok_cap (h : HR P σ N H w) {c : Call} {x : Operand} {st e : TypeId} (hop : o.op = .call c) (hcal : c.callee = .builtin .cap) (hargs : c.args = #[x]) (ht : c.argTypes[0]? = some st) (hd : P.underlying st = some (.slice e))
    (hx : VR σ (ρ x) (ρ' x)) {v : Value} {H' : Heap} (hv : oCap (ρ x) H = .val v H') : OpOK P σ N H w (execOp ρ' o) v H' := by
  have e1 := run_underlying (w := w) hd
  unfold oCap at hv
  split at hv
  · rename_i n k he
    cases hv
    have hx' : ρ' x = .slice none n k := by rw [he] at hx; generalize ρ' x = y at hx; cases hx; rfl
    exact OpOK.still h (v' := goInt k) (by simp [execOp, hop, resolve, hcal, hargs, invoke, builtin, Builtin.cap_, ht, hx', e1]) (.int _ _)
  · rename_i a n k he
    cases hb : Nat.beq (k % 2) 1 with
    | false => rw [hb] at hv; cases hv
    | true =>
      rw [hb, cond_true] at hv; cases hv
      have hk := Nat.eq_of_beq_eq_true hb
      rw [he] at hx
      rcases hx.slice_inv with ⟨h1, _⟩ | ⟨a2, h1, a', c', hx', hcase⟩
      · cases h1
      · have : k / 2 = c' := by
          rcases hcase with ⟨l, _, h2 | ⟨z, h2, _⟩ | ⟨z, r, h2, _⟩⟩ | ⟨_, _, z, h2, _⟩
          · omega
          · omega
          · unfold roomCode at h2; omega
          · omega
        rw [this]
        exact OpOK.still h (v' := goInt c') (by simp [execOp, hop, resolve, hcal, hargs, invoke, builtin, Builtin.cap_, ht, hx', e1]) (.int _ _)
  · cases hv

theorem srcLen_sound {x x' : Value} (hx : VR σ x x') {n : Nat} (hn : srcLen x = some n) : ∀ w, (Builtin.lenOf x').run P w = .ok n w := by
  intro w
  unfold srcLen at hn
  split at hn
  · cases hn; cases hx <;> rfl
  · cases hn; cases hx; rfl
  · cases hn

theorem srcCells_sound (h : HR P σ N H w) {x x' : Value} (hx : VR σ x x') {size n : Nat} {ls : List Value} (hr : srcCells H size n x = some ls) (hn : ∀ b k c, x = .slice b k c → n ≤ k) :
    ∃ ls', (∀ w1 : World, w1.heap = w.heap → (Builtin.firstCells size n x').run P w1 = .ok ls'.toArray w1) ∧ VL σ ls ls' := by
  unfold srcCells at hr
  split at hr
  · rename_i a k c
    rcases hx.slice_inv with ⟨h1, _⟩ | ⟨a2, h1, a', c', rfl, hcase⟩
    · cases h1
    · cases h1
      rcases hcase with ⟨l, hA, _⟩ | ⟨rfl, rfl, _⟩
      · obtain ⟨_, ls', hrun, hvl⟩ := readN_sound h hA hr
        exact ⟨ls', fun w1 hw1 => hrun w1 hw1, hvl⟩
      · obtain rfl : n = 0 := by have := hn _ _ _ rfl; omega
        rw [Nat.zero_mul] at hr
        have : ls = [] := by
          unfold Heap.readN at hr
          split at hr
          · split at hr
            · obtain ⟨_, hr⟩ := bif_some hr
              simp only [readL, Option.some.injEq] at hr; exact hr.symm
            · cases hr
          · cases hr
        subst this
        exact ⟨[], fun w1 _ => by simp [Builtin.firstCells, loadCells, loadCellsFrom], .nil⟩
  · cases hr
    cases hx
    exact ⟨[], fun w1 _ => rfl, .nil⟩
  · rename_i s
    cases hr
    cases hx
    refine ⟨_, fun w1 _ => ?_, VL.refl_plain ?_⟩
    · show Result.ok _ _ = _
      congr 1
      apply Array.ext'
      simp
    · rw [List.all_eq_true]
      intro x hx
      rw [List.mem_map] at hx
      obtain ⟨b, _, rfl⟩ := hx
      rfl
  · cases hr

theorem srcCells_nil {x : Value} {size : Nat} {ls : List Value} (hr : srcCells H size 0 x = some ls) : ls = [] := by
  unfold srcCells at hr
  split at hr
  · rw [Nat.zero_mul] at hr
    unfold Heap.readN at hr
    split at hr
    · split at hr
      · obtain ⟨_, hr⟩ := bif_some hr
        simp only [readL, Option.some.injEq] at hr; exact hr.symm
      · cases hr
    · cases hr
  · cases hr; rfl
  · cases hr; simp
  · cases hr

theorem ok_copy (h : HR P σ N H w) {c : Call} {d x : Operand} {st e : TypeId} (hop : o.op = .call c) (hcal : c.callee = .builtin .copy) (hargs : c.args = #[d, x]) (ht : c.argTypes[0]? = some st)
    (hd : P.underlying st = some (.slice e)) (hi : ∃ i, P.info? e = some i) (hdd : VR σ (ρ d) (ρ' d)) (hx : VR σ (ρ x) (ρ' x)) {v : Value} {H' : Heap} (hv : copyA (sizeT P e) H (ρ d) (ρ x) = .val v H') :
    OpOK P σ N H w (execOp ρ' o) v H' := by
  obtain ⟨i, hi⟩ := hi
  have e1 := run_underlying (w := w) hd
  have e2 := run_sizeOf (w := w) hi
  unfold copyA at hv
  split at hv
  · rename_i base dl cp n he hn
    rw [he] at hdd
    have e3 := srcLen_sound (P := P) hx hn w
    simp only at hv
    split at hv
    · cases hv
    · rename_i cs hcs
      obtain ⟨ls', hrun, hvl⟩ := srcCells_sound h hx hcs (fun b k c hk => by
        rw [hk] at hn; simp only [srcLen, Option.some.injEq] at hn; subst hn; exact Nat.min_le_left _ _)
      rw [sizeT_of hi] at hrun
      have e4 := hrun w rfl
      split at hv
      · cases hv
        have : ρ' d = .slice none dl cp := by generalize ρ' d = y at hdd; cases hdd; rfl
        exact OpOK.still h (v' := goInt (Nat.min n dl)) (by simp [execOp, hop, resolve, hcal, hargs, invoke, builtin, Builtin.copy_, ht, e1, this, e3, e2, e4]) (.int _ _)
      · cases hv
        cases hvl
        rcases hdd.slice_inv with ⟨h1, _⟩ | ⟨a2, h1, a', c', hd', _⟩
        · cases h1
        · exact OpOK.still h (v' := goInt (Nat.min n dl)) (by simp [execOp, hop, resolve, hcal, hargs, invoke, builtin, Builtin.copy_, ht, e1, hd', e3, e2, e4, storeCells]) (.int _ _)
      · rename_i a c0 cs0
        split at hv
        · rename_i H2 hw2
          cases hv
          rcases hdd.slice_inv with ⟨h1, _⟩ | ⟨a2, h1, a', c', hd', hcase⟩
          · cases h1
          · cases h1
            rcases hcase with ⟨l, hA, _⟩ | ⟨rfl, rfl, _⟩
            · obtain ⟨w', q1, q2, q3⟩ := writeN_sound h hA hvl hw2
              exact ⟨σ, _, w', .value (goInt (Nat.min n dl)), by simp [execOp, hop, resolve, hcal, hargs, invoke, builtin, Builtin.copy_, ht, e1, hd', e3, e2, e4, q1], rfl, σ.le_refl, q2, .int _ _, q3⟩
            · exfalso
              have hm0 : Nat.min n 0 = 0 := Nat.min_zero n
              rw [hm0] at hcs
              have := srcCells_nil hcs
              cases this
        · cases hv
  · cases hv

theorem zeroCells_size (z : Array Value) (n : Nat) : (Builtin.zeroCells z n).size = n * z.size := by simp [Builtin.zeroCells]

/-- In its own room, which the slice does not name. -/
theorem open_in (h : HR P σ N H w) {a a' : Addr} {l : Loc} (hA : AR σ a a' l) {e0 vs top c u v} (hg : H.t.get a.block = some (.cells e0 false vs top c)) (hu : a.spot = some u) (hf : findVer u vs = some v)
    {len n size cap : Nat} (hhi : a.off + len * size = v.hi) (hlo : v.lo ≤ a.off) {new new' : List Value} (hr : VL σ new new') (hone : new.all one = true) (hnl : new.length = n * size)
    (hfit : len + n ≤ cap) (hroom : a'.off + cap * size ≤ l.n) :
    ∃ τ w', (storeCells (a'.add (len * size)) new').run P w = .ok () w' ∧ σ.le τ ∧
      HR P τ N (H.upd a.block (.cells e0 false (⟨top, a.off, v.hi + new.length⟩ :: keepOld v.hi (dropTo u vs)) (top + 1) (c.putL v.hi new))) w' ∧
      Fr σ H w τ (H.upd a.block (.cells e0 false (⟨top, a.off, v.hi + new.length⟩ :: keepOld v.hi (dropTo u vs)) (top + 1) (c.putL v.hi new))) w' ∧ τ.row a.block top = some l := by
  obtain ⟨u', hu', hrow, hb', hs, ho⟩ := hA
  rw [hu] at hu'; cases hu'
  obtain ⟨hm, hid⟩ := findVer_mem hf
  have hrow' : σ.row a.block v.id = some l := by rw [hid]; exact hrow
  have hR := h.rowOf hg hm hrow'
  obtain ⟨cur, e', fz, k1, k2, k3, k4⟩ := hR.blk
  obtain ⟨hfz, hN⟩ := k3 rfl
  subst hfz
  have hlen := hr.length
  have hmul : len * size + n * size ≤ cap * size := by rw [← Nat.add_mul]; exact Nat.mul_le_mul_right _ hfit
  have hsz : a'.off + len * size + new'.length ≤ cur.size := by omega
  have ha' : a'.add (len * size) = ⟨l.blk, a'.off + len * size, none⟩ := by rw [add_plain hs, hb']
  have hst := run_storeCells_at (P := P) l.blk (a'.off + len * size) e' new' 0 cur w k1 (by omega) (hr.all_one hone)
  rw [← ha'] at hst
  simp only [Nat.add_zero] at hst
  have hlt : l.blk < w.heap.size := (Array.getElem?_eq_some_iff.1 k1).1
  have hsp : ∀ k, (cur.toList.take (a'.off + len * size) ++ new' ++ cur.toList.drop (a'.off + len * size + new'.length)).toArray[k]? =
      if a'.off + len * size ≤ k ∧ k < a'.off + len * size + new'.length then new'[k - (a'.off + len * size)]? else cur[k]? := fun k => spliced (by omega)
  obtain ⟨τ, t1, t2, t3, t4⟩ := h.appended hg hf hrow' (m := l) (lo := a.off) hr (w' := w.setRow l.blk (cur.toList.take (a'.off + len * size) ++ new' ++ cur.toList.drop (a'.off + len * size + new'.length)).toArray)
    (by simp) (fun b _ hb => setRow_all w _ _ _ hb) (setRow_heap w l.blk cur _ e' _ k1) (by simp; omega) hN (by omega) (by omega) (by omega)
    (fun i hi1 hi2 => by
      obtain ⟨x, x', p1, p2, p3⟩ := k4 i (by omega) hi2
      refine ⟨x, x', p1, ?_, p3⟩
      rw [hsp, if_neg (by omega)]; exact p2)
    (fun j x' hj => by
      have hjl : j < new'.length := (List.getElem?_eq_some_iff.1 hj).1
      rw [hsp, if_pos (by omega), ← hj]; congr 1; omega)
    (.inl ⟨rfl, cur, e', (0, 0), k1, fun k hk => by rw [hsp, if_neg (by omega)]⟩) rfl rfl
    (fun b cs e2 fz hb1 hc => by
      by_cases hh : b = l.blk
      · subst hh; rw [setRow_heap w l.blk cur _ e' _ k1] at hc; cases hc; exact ⟨_, k1⟩
      · rw [setRow_all w _ _ _ hh] at hc; exact ⟨_, hc⟩)
    (fun b cs e2 fz hb1 hc => by rw [setRow_all w _ _ _ (by omega), Array.getElem?_eq_none hb1] at hc; cases hc)
  exact ⟨τ, _, hst, t1, t2, t3, t4⟩

/-- In a new row. -/
theorem open_new (h : HR P σ N H w) {a : Addr} {e0 e' vs top c u v} (hg : H.t.get a.block = some (.cells e0 false vs top c)) (hf : findVer u vs = some v)
    {len size : Nat} (hhi : a.off + len * size = v.hi) {old' new new' : List Value} (hr : VL σ new new') (hol : old'.length = len * size)
    (hold : ∀ j, j < len * size → ∃ x x', c.get (a.off + j) = some x ∧ old'[j]? = some x' ∧ VR σ x x') {rest : Array Value} {w' : World} (k : Lays w w' (.cells (old'.toArray ++ new'.toArray ++ rest) e')) :
    ∃ τ, σ.le τ ∧
      HR P τ N (H.upd a.block (.cells e0 false (⟨top, a.off, v.hi + new.length⟩ :: keepOld v.hi (dropTo u vs)) (top + 1) (c.putL v.hi new))) w' ∧
      Fr σ H w τ (H.upd a.block (.cells e0 false (⟨top, a.off, v.hi + new.length⟩ :: keepOld v.hi (dropTo u vs)) (top + 1) (c.putL v.hi new))) w' ∧
      τ.row a.block top = some ⟨w.heap.size, a.off, old'.length + new'.length + rest.size⟩ := by
  obtain ⟨hm, hid⟩ := findVer_mem hf
  obtain ⟨l, hR⟩ := h.rows _ _ _ _ _ _ hg v hm
  have hlen := hr.length
  have hget : ∀ (j : Nat), j < old'.length + new'.length → (old'.toArray ++ new'.toArray ++ rest)[j]? = (old' ++ new')[j]? := by
    intro j hj
    rw [Array.getElem?_append_left (by simpa using hj)]; simp
  exact h.appended hg hf hR.at_ (m := ⟨w.heap.size, a.off, old'.length + new'.length + rest.size⟩) (lo := a.off) hr (w' := w') (by rw [k.size]; omega) (fun b hb _ => k.other hb) k.at_ (by simp) h.size
    (Nat.le_refl _) (by omega) (by show v.hi + new.length ≤ a.off + (old'.length + new'.length + rest.size); omega)
    (fun i hi1 hi2 => by
      obtain ⟨x, x', p1, p2, p3⟩ := hold (i - a.off) (by omega)
      refine ⟨x, x', by rw [show a.off + (i - a.off) = i from by omega] at p1; exact p1, ?_, p3⟩
      show (old'.toArray ++ new'.toArray ++ rest)[i - a.off]? = _
      rw [hget _ (by omega), List.getElem?_append_left (by omega)]; exact p2)
    (fun j x' hj => by
      have hjl : j < new'.length := (List.getElem?_eq_some_iff.1 hj).1
      show (old'.toArray ++ new'.toArray ++ rest)[v.hi + j - a.off]? = _
      rw [hget _ (by omega), List.getElem?_append_right (by omega), ← hj]; congr 1; omega)
    (.inr (Nat.le_refl _)) k.os k.output (fun b cs e fz hb hc => ⟨cs, by rw [← k.other hb]; exact hc⟩)
    (fun b cs e fz hb hc => by
      by_cases hh : b = w.heap.size
      · subst hh; rw [k.at_] at hc; cases hc; rfl
      · have : b < w'.heap.size := (Array.getElem?_eq_some_iff.1 hc).1
        rw [k.size] at this; omega)

/-- Zero values onto nil. -/
theorem run_append_zeros {at_ : Array TypeId} {i : TypeInfo} {z : Value} {n : Nat} {st xt elem type : TypeId} (h0 : at_[0]? = some st) (h1 : at_[1]? = some xt) (hu : P.underlying st = some (.slice elem)) (hx : P.underlying xt = some (.int .i64))
    (hi : P.info? elem = some i) (hz : i.zero = some z) (hr : 1 ≤ n) (hs : n ≤ 100000) (hb : i.bytes ≤ 1000000) (hsz : 1 ≤ i.size) :
    ∃ c w', n ≤ c ∧ (Builtin.append_ at_ type #[.slice none 0 0, .int .i64 (.ofNat n)]).run P w = .ok (.slice (some ⟨w.heap.size, 0, none⟩) n c) w' ∧
      Lays w w' (.cells (Builtin.zeroCells z.cells n ++ Builtin.zeroCells z.cells (c - n)) elem) := by
  have e1 := fun w => run_underlying (w := w) hu
  have e2 := fun w => run_underlying (w := w) hx
  have e3 := fun w => run_sizeOf (P := P) (w := w) hi
  have e4 := fun w => run_typeInfo (P := P) (w := w) hi
  have e5 := fun w => run_zeroValue (P := P) (w := w) hi hz
  have hroom := small_room (need := 0 + n) (cap := 0) (bytes := i.bytes) (by omega) (by omega) hb
  have hw : IntKind.i64.wrap (Int.ofNat n) = (n : Int) := by
    exact IntWalk.i64_in _ (by simp only [Int.ofNat_eq_natCast]; omega)
  have hn0 : ¬ ((n : Int) < 0) := by omega
  have hn1 : ¬ ((n : Int) * (i.bytes : Int) > 2 ^ 48) := by
    have h2 : n * i.bytes ≤ 100000 * 1000000 := Nat.mul_le_mul hs hb
    have h3 : ((n * i.bytes : Nat) : Int) ≤ 100000000000 := by have := Int.ofNat_le.2 h2; omega
    have h4 : (n : Int) * (i.bytes : Int) = ((n * i.bytes : Nat) : Int) := by simp
    rw [h4]; omega
  have hn2 : ¬ (n * i.size = 0) := by
    intro h; rcases Nat.mul_eq_zero.1 h with h | h <;> omega
  refine ⟨(0 + n) + (w.tape w.drawn (.appendCap (0 + n) 0 elem)) % (2 ^ 63 - (0 + n)),
    { w with drawn := w.drawn + 1, heap := w.heap.push (.cells (Builtin.zeroCells z.cells n ++ Builtin.zeroCells z.cells ((0 + n) + (w.tape w.drawn (.appendCap (0 + n) 0 elem)) % (2 ^ 63 - (0 + n)) - n)) elem) },
    by omega, ?_, ⟨rfl, rfl, rfl⟩⟩
  unfold Builtin.append_
  have hmax : ¬ (((0 + n : Nat) : Int) > IntKind.i64.max ∧ (True ∨ i.bytes = 0)) := by
    intro h; have := h.1; simp [IntKind.max, IntKind.signed, IntKind.bits] at this; omega
  have hle : ¬ (0 + n ≤ 0) := by omega
  simp only [h0, h1, Sem.run_bind, e1, Result.andThen_ok, e3, List.getElem?_toArray, List.getElem?_cons_zero, List.getElem?_cons_succ, e2, Sem.run_pure, if_true, asInt, asIntOf, hw, hn0, if_false, e4, hn1, Int.toNat_natCast, Bool.not_true, Bool.false_eq_true, hle, hmax, hroom, hn2, run_choose, Question.forced, Question.cut, run_askRoom, e5, newRow, run_newObj, Builtin.firstCells]
  simp

/-- Of a slice that is appended to. -/
theorem ok_append (h : HR P σ N H w) {c : Call} {s x : Operand} {st xt e : TypeId} (hop : o.op = .call c) (hcal : c.callee = .builtin .append) (hargs : c.args = #[s, x]) (ht : c.argTypes[0]? = some st)
    (ht2 : c.argTypes[1]? = some xt) (hd : P.underlying st = some (.slice e)) (hxt : srcT P xt = true) (hby : bytesT P e ≤ 1000000) {z : List Value} (hz : zeroT P e = some z)
    (hs : VR σ (ρ s) (ρ' s)) (hx : VR σ (ρ x) (ρ' x)) {v : Value} {H' : Heap} (hv : appendA e (sizeT P e) H (ρ s) (ρ x) = .val v H') :
    OpOK P σ N H w (execOp ρ' o) v H' := by
  obtain ⟨i, zv, hi, hzv, rfl, hp, hzs⟩ := zeroT_of hz
  have hby' : i.bytes ≤ 1000000 := by rw [← bytesT_of hi]; exact hby
  have hsz := sizeT_of hi
  -- what the operation runs
  have hex : ∀ {r : Value} {w' : World}, (Builtin.append_ c.argTypes o.type #[ρ' s, ρ' x]).run P w = .ok r w' → (execOp ρ' o).run P w = .ok (.value r) w' := by
    intro r w' hr
    simp [execOp, hop, resolve, hcal, hargs, invoke, builtin, hr]
  unfold appendA at hv
  split at hv
  · rename_i base len cap n he hn
    split at hv
    · rename_i new hnew
      rw [he] at hs
      have hl := srcLen_sound (P := P) hx hn
      obtain ⟨new', hrun, hvl⟩ := srcCells_sound h hx hnew (fun b k c hk => by
        rw [hk] at hn; simp only [srcLen, Option.some.injEq] at hn; omega)
      rw [hsz] at hrun
      have hnl := hvl.length
      unfold appWith at hv
      -- a new row
      have grow : ∀ {base' : Option Addr} {cap' : Nat}, ρ' s = .slice base' len cap' → ¬ len + n ≤ cap' →
          appNew e (sizeT P e) (len + n) H (srcCells H (sizeT P e) len (.slice base len cap)) new = .val v H' → OpOK P σ N H w (execOp ρ' o) v H' := by
        intro base' cap' hs' hgt hv
        cases hold : srcCells H (sizeT P e) len (.slice base len cap) with
        | none => rw [hold] at hv; cases hv
        | some old =>
          rw [hold] at hv
          unfold appNew at hv
          cases hb : (small (sizeT P e) (len + n) && old.all one && new.all one && Nat.beq (old.length + new.length) ((len + n) * sizeT P e)) with
          | false => simp only [hb, cond_false] at hv; cases hv
          | true =>
            simp only [hb, cond_true] at hv
            cases hv
            simp only [Bool.and_eq_true, small] at hb
            have q1 : len + n ≤ 100000 := Nat.le_of_ble_eq_true hb.1.1.1.1.1
            have q2 := Nat.eq_of_beq_eq_true hb.2
            rw [hs'] at hs
            obtain ⟨old', horun, hovl⟩ := srcCells_sound h hs hold (fun b k c hk => by cases hk; exact Nat.le_refl _)
            rw [hsz] at horun
            obtain ⟨c', w', r1, r2, r3⟩ := run_append_grow (base := base') (cap := cap') (type := o.type) ht ht2 hd hxt hi hzv (hl w) horun hrun hgt q1 hby'
            have hcells : ∀ (j : Nat) (y : Value), (old' ++ new')[j]? = some y → (old'.toArray ++ new'.toArray ++ Builtin.zeroCells zv.cells (c' - (len + n)))[j]? = some y := by
              intro j y hj
              have : j < (old' ++ new').length := (List.getElem?_eq_some_iff.1 hj).1
              rw [Array.getElem?_append_left (by simpa using this)]
              simpa using hj
            obtain ⟨τ, l, p1, p2, p3, p4, p5⟩ := row_sound h (e := e) (hovl.append hvl) hcells (by
              rw [(hovl.append hvl).length]; simp) r3
            refine ⟨τ, _, w', _, hex (by rw [hs']; exact r2), rfl, p1, p2, ?_, p3⟩
            refine .slO _ _ _ p4 ?_ r1 (Nat.le_of_ble_eq_true hb.1.1.1.2)
            have hol := hovl.length
            rw [p5]
            simp only [Array.size_append, List.size_toArray, zeroCells_size, hzs]
            rw [hsz] at q2 ⊢
            have : c' * i.size = (len + n) * i.size + (c' - (len + n)) * i.size := by rw [← Nat.add_mul]; congr 1; omega
            omega
      split at hv
      · -- its room is known
        rename_i c0 hcap
        cases hfit : Nat.ble (len + n) c0 with
        | true =>
          rw [hfit, cond_true] at hv
          have hfit' := Nat.le_of_ble_eq_true hfit
          unfold appIn at hv
          rcases hs.slice_inv with ⟨rfl, hs'⟩ | ⟨a, rfl, a', c', hs', hcase⟩
          · simp only [capOf] at hcap; cases hcap
            simp only at hv
            cases hb : Nat.beq n 0 with
            | false => rw [hb] at hv; cases hv
            | true =>
              rw [hb, cond_true] at hv; cases hv
              have r := run_append_nil (type := o.type) ht ht2 hd hxt hi (hl w) (hrun w rfl) hfit'
              exact OpOK.still h (v' := .slice none (len + n) cap) (hex (by rw [hs']; exact r)) (.sl0 _ _)
          · rcases hcase with ⟨l, hA, rfl | ⟨z, rfl, _, _, hz1⟩ | ⟨z, r, rfl, _, _, _, hz1⟩⟩ | ⟨rfl, rfl, z, rfl, hz1⟩
            · rw [capOf_known] at hcap; cases hcap
              simp only at hv
              split at hv
              · rename_i H2 hw2
                cases hv
                obtain ⟨w', q1, q2, q3⟩ := writeN_sound h (hA.plus _) hvl hw2
                rw [hsz] at q1
                have r := run_append_in (type := o.type) ht ht2 hd hxt hi (hl w) (hrun w rfl) hfit' (a := a') (w' := w') (by simpa using q1)
                exact ⟨σ, _, w', _, hex (by rw [hs']; exact r), rfl, σ.le_refl, q2, .slK _ _ hA, q3⟩
              · cases hv
            · rw [capOf_open _ hz1] at hcap; cases hcap
            · rw [capOf_room _ hz1] at hcap; cases hcap
            · rw [capOf_open _ hz1] at hcap; cases hcap
        | false =>
          rw [hfit, cond_false] at hv
          have hfit' : ¬ len + n ≤ c0 := fun hle => by rw [Nat.ble_eq_true_of_le hle] at hfit; cases hfit
          rcases hs.slice_inv with ⟨rfl, hs'⟩ | ⟨a, rfl, a', c', hs', hcase⟩
          · simp only [capOf] at hcap; cases hcap
            exact grow hs' hfit' (by rw [he] at hv; exact hv)
          · rcases hcase with ⟨l, hA, rfl | ⟨z, rfl, _, _, hz1⟩ | ⟨z, r, rfl, _, _, _, hz1⟩⟩ | ⟨rfl, rfl, z, rfl, hz1⟩
            · rw [capOf_known] at hcap; cases hcap
              exact grow hs' hfit' (by rw [he] at hv; exact hv)
            · rw [capOf_open _ hz1] at hcap; cases hcap
            · rw [capOf_room _ hz1] at hcap; cases hcap
            · rw [capOf_open _ hz1] at hcap; cases hcap
      · -- it is not
        rename_i z0 hcap
        rcases hs.slice_inv with ⟨rfl, hs'⟩ | ⟨a, rfl, a', c', hs', hcase⟩
        · simp only [capOf] at hcap; cases hcap
        · simp only at hv
          cases hb0 : Nat.beq z0 (sizeT P e) with
          | false => rw [hb0] at hv; cases hv
          | true =>
            rw [hb0, cond_true] at hv
            have hz0 := Nat.eq_of_beq_eq_true hb0
            cases hn0 : Nat.beq n 0 with
            | true =>
              rw [hn0, cond_true] at hv; cases hv
              have := Nat.eq_of_beq_eq_true hn0
              subst this
              have hnil := srcCells_nil hnew
              subst hnil
              cases hvl
              have hfit : len + 0 ≤ c' := by
                rcases hcase with ⟨l, hA, rfl | ⟨z, rfl, hz1, hz2, _⟩ | ⟨z, r, rfl, _, _, _, hzz⟩⟩ | ⟨rfl, rfl, z, rfl, _⟩
                · rw [capOf_known] at hcap; cases hcap
                · omega
                · rw [capOf_room _ hzz] at hcap; cases hcap
                · omega
              have r := run_append_in (type := o.type) ht ht2 hd hxt hi (hl w) (hrun w rfl) hfit (a := a') (w' := w) (by simp [storeCells])
              refine OpOK.still h (v' := .slice (some a') len c') (hex (by rw [hs']; exact r)) ?_
              rw [he, ← hs']; exact hs
            | false =>
            rw [hn0, cond_false] at hv
            unfold appOpen at hv
            split at hv
            · rename_i e0 vs top cc u hg hu
              split at hv
              · rename_i vv hf
                cases hb : (Nat.beq e0 e && Nat.beq (a.off + len * sizeT P e) vv.hi && Nat.ble vv.lo a.off && new.all one && small (sizeT P e) (len + n) && Nat.ble 1 n && Nat.beq new.length (n * sizeT P e)) with
                | false => simp only [hb, cond_false] at hv; cases hv
                | true =>
                  simp only [hb, cond_true] at hv
                  cases hv
                  simp only [Bool.and_eq_true, small] at hb
                  have q1 := Nat.eq_of_beq_eq_true hb.1.1.1.1.1.2
                  have q2 := Nat.le_of_ble_eq_true hb.1.1.1.1.2
                  have q3 := hb.1.1.1.2
                  have q4 : len + n ≤ 100000 := Nat.le_of_ble_eq_true hb.1.1.2.1.1
                  have q5 := Nat.le_of_ble_eq_true hb.1.2
                  have q6 := Nat.eq_of_beq_eq_true hb.2
                  -- the new row, where there is no room
                  have away : ∀ {old' : List Value}, ¬ len + n ≤ c' → (∀ w1 : World, w1.heap = w.heap → (Builtin.firstCells i.size len (.slice (some a') len c')).run P w1 = .ok old'.toArray w1) → old'.length = len * sizeT P e →
                      (∀ j, j < len * sizeT P e → ∃ x x', cc.get (a.off + j) = some x ∧ old'[j]? = some x' ∧ VR σ x x') →
                      OpOK P σ N H w (execOp ρ' o) (.slice (some ⟨a.block, a.off, some top⟩) (len + n) (2 * sizeT P e))
                        (H.upd a.block (.cells e0 false (⟨top, a.off, vv.hi + new.length⟩ :: keepOld vv.hi (dropTo u vs)) (top + 1) (cc.putL vv.hi new))) := by
                    intro old' hgt horun hol hold
                    obtain ⟨c2, w', r1, r2, r3⟩ := run_append_grow (base := some a') (cap := c') (type := o.type) ht ht2 hd hxt hi hzv (hl w) horun hrun hgt q4 hby'
                    obtain ⟨τ, p1, p2, p3, p4⟩ := open_new h hg hf q1 hvl hol hold r3
                    refine ⟨τ, _, w', _, hex (by rw [hs']; exact r2), rfl, p1, p2, ?_, p3⟩
                    refine .slO (l := ⟨w.heap.size, a.off, old'.length + new'.length + (Builtin.zeroCells zv.cells (c2 - (len + n))).size⟩) _ _ _ ⟨top, rfl, p4, rfl, rfl, by simp⟩ ?_ r1 (Nat.le_of_ble_eq_true hb.1.1.2.2)
                    simp only [zeroCells_size, hzs]
                    rw [hsz] at hol q6 ⊢
                    have : c2 * i.size = len * i.size + n * i.size + (c2 - (len + n)) * i.size := by rw [← Nat.add_mul, ← Nat.add_mul]; congr 1; omega
                    omega
                  rcases hcase with ⟨l, hA, rfl | ⟨z, rfl, hz1, hz2, hzz⟩ | ⟨z, r, rfl, _, _, _, hzz⟩⟩ | ⟨rfl, rfl, z, rfl, _⟩
                  · rw [capOf_known] at hcap; cases hcap
                  · rw [capOf_open _ hzz] at hcap; cases hcap
                    by_cases hfit : len + n ≤ c'
                    · obtain ⟨τ, w', t0, t1, t2, t3, t4⟩ := open_in h hA hg hu hf q1 q2 hvl q3 q6 hfit (by rw [← hz0]; exact hz1)
                      rw [hsz] at t0
                      have r := run_append_in (type := o.type) ht ht2 hd hxt hi (hl w) (hrun w rfl) hfit (a := a') (w' := w') (by simpa using t0)
                      refine ⟨τ, _, w', _, hex (by rw [hs']; exact r), rfl, t1, t2, ?_, t3⟩
                      obtain ⟨u', hu', hrow, hb', hsp, ho⟩ := hA
                      refine .slO (l := l) _ _ _ ⟨top, rfl, t4, hb', hsp, ho⟩ (by rw [← hz0]; exact hz1) hfit (Nat.le_of_ble_eq_true hb.1.1.2.2)
                    · refine away (old' := (List.range (len * sizeT P e)).map (fun j => (w.cell? (a'.add j)).getD undef)) hfit ?_ (by simp) ?_
                      · intro w1 hw1
                        show (loadCells a' (len * i.size)).run P w1 = _
                        rw [← hsz]
                        apply run_loadCells
                        intro j hj
                        have hce : ∀ b, w1.cell? b = w.cell? b := fun b => by simp only [World.cell?, hw1]
                        obtain ⟨y, x', hy, hx', hv⟩ := cell_of h hA hg hu hf j (by omega) (by omega)
                        obtain ⟨_, _, _, _, hsp, _⟩ := hA
                        rw [hce, add_plain hsp, hx']; rfl
                      · intro j hj
                        obtain ⟨y, x', hy, hx', hv⟩ := cell_of h hA hg hu hf j (by omega) (by omega)
                        refine ⟨y, x', hy, ?_, hv⟩
                        obtain ⟨_, _, _, _, hsp, _⟩ := hA
                        rw [List.getElem?_map, List.getElem?_range hj]
                        simp only [Option.map_some]
                        rw [add_plain hsp, hx']; rfl
                  · rw [capOf_room _ hzz] at hcap; cases hcap
                  · refine away (old' := []) (by omega) ?_ (by simp) (fun j hj => by omega)
                    intro w1 _
                    simp [Builtin.firstCells, loadCells, loadCellsFrom]
              · cases hv
            · cases hv
      · -- at least so much room
        rename_i z0 r0 hcap
        rcases hs.slice_inv with ⟨rfl, hs'⟩ | ⟨a, rfl, a', c', hs', hcase⟩
        · simp only [capOf] at hcap; cases hcap
        · simp only at hv
          cases hb0 : Nat.beq z0 (sizeT P e) with
          | false => rw [hb0] at hv; cases hv
          | true =>
            rw [hb0, cond_true] at hv
            have hz0 := Nat.eq_of_beq_eq_true hb0
            rcases hcase with ⟨l, hA, rfl | ⟨z, rfl, hz1, hz2, hzz⟩ | ⟨z, r, rfl, hz1, hz2, hz3, hzz⟩⟩ | ⟨rfl, rfl, z, rfl, hzz⟩
            · rw [capOf_known] at hcap; cases hcap
            · rw [capOf_open _ hzz] at hcap; cases hcap
            · rw [capOf_room _ hzz] at hcap; cases hcap
              cases hn0 : Nat.beq n 0 with
              | true =>
                rw [hn0, cond_true] at hv; cases hv
                have := Nat.eq_of_beq_eq_true hn0
                subst this
                have hnil := srcCells_nil hnew
                subst hnil
                cases hvl
                have r' := run_append_in (type := o.type) ht ht2 hd hxt hi (hl w) (hrun w rfl) (show len + 0 ≤ c' by omega) (a := a') (w' := w) (by simp [storeCells])
                refine OpOK.still h (v' := .slice (some a') len c') (hex (by rw [hs']; exact r')) ?_
                rw [he, ← hs']; exact hs
              | false =>
                rw [hn0, cond_false] at hv
                cases hfit : Nat.ble (len + n) r0 with
                | false =>
                  rw [hfit, cond_false] at hv
                  clear hfit
                  unfold appOpen at hv
                  split at hv
                  · rename_i e0 vs top cc u hg hu
                    split at hv
                    · rename_i vv hf
                      cases hb : (Nat.beq e0 e && Nat.beq (a.off + len * sizeT P e) vv.hi && Nat.ble vv.lo a.off && new.all one && small (sizeT P e) (len + n) && Nat.ble 1 n && Nat.beq new.length (n * sizeT P e)) with
                      | false => simp only [hb, cond_false] at hv; cases hv
                      | true =>
                        simp only [hb, cond_true] at hv
                        cases hv
                        simp only [Bool.and_eq_true, small] at hb
                        have q1 := Nat.eq_of_beq_eq_true hb.1.1.1.1.1.2
                        have q2 := Nat.le_of_ble_eq_true hb.1.1.1.1.2
                        have q3 := hb.1.1.1.2
                        have q4 : len + n ≤ 100000 := Nat.le_of_ble_eq_true hb.1.1.2.1.1
                        have q5 := Nat.le_of_ble_eq_true hb.1.2
                        have q6 := Nat.eq_of_beq_eq_true hb.2
                        -- the new row, where there is no room
                        have away : ∀ {old' : List Value}, ¬ len + n ≤ c' → (∀ w1 : World, w1.heap = w.heap → (Builtin.firstCells i.size len (.slice (some a') len c')).run P w1 = .ok old'.toArray w1) → old'.length = len * sizeT P e →
                            (∀ j, j < len * sizeT P e → ∃ x x', cc.get (a.off + j) = some x ∧ old'[j]? = some x' ∧ VR σ x x') →
                            OpOK P σ N H w (execOp ρ' o) (.slice (some ⟨a.block, a.off, some top⟩) (len + n) (2 * sizeT P e))
                              (H.upd a.block (.cells e0 false (⟨top, a.off, vv.hi + new.length⟩ :: keepOld vv.hi (dropTo u vs)) (top + 1) (cc.putL vv.hi new))) := by
                          intro old' hgt horun hol hold
                          obtain ⟨c2, w', r1, r2, r3⟩ := run_append_grow (base := some a') (cap := c') (type := o.type) ht ht2 hd hxt hi hzv (hl w) horun hrun hgt q4 hby'
                          obtain ⟨τ, p1, p2, p3, p4⟩ := open_new h hg hf q1 hvl hol hold r3
                          refine ⟨τ, _, w', _, hex (by rw [hs']; exact r2), rfl, p1, p2, ?_, p3⟩
                          refine .slO (l := ⟨w.heap.size, a.off, old'.length + new'.length + (Builtin.zeroCells zv.cells (c2 - (len + n))).size⟩) _ _ _ ⟨top, rfl, p4, rfl, rfl, by simp⟩ ?_ r1 (Nat.le_of_ble_eq_true hb.1.1.2.2)
                          simp only [zeroCells_size, hzs]
                          rw [hsz] at hol q6 ⊢
                          have : c2 * i.size = len * i.size + n * i.size + (c2 - (len + n)) * i.size := by rw [← Nat.add_mul, ← Nat.add_mul]; congr 1; omega
                          omega
                        by_cases hfit : len + n ≤ c'
                        · obtain ⟨τ, w', t0, t1, t2, t3, t4⟩ := open_in h hA hg hu hf q1 q2 hvl q3 q6 hfit (by rw [← hz0]; exact hz1)
                          rw [hsz] at t0
                          have r := run_append_in (type := o.type) ht ht2 hd hxt hi (hl w) (hrun w rfl) hfit (a := a') (w' := w') (by simpa using t0)
                          refine ⟨τ, _, w', _, hex (by rw [hs']; exact r), rfl, t1, t2, ?_, t3⟩
                          obtain ⟨u', hu', hrow, hb', hsp, ho⟩ := hA
                          refine .slO (l := l) _ _ _ ⟨top, rfl, t4, hb', hsp, ho⟩ (by rw [← hz0]; exact hz1) hfit (Nat.le_of_ble_eq_true hb.1.1.2.2)
                        · refine away (old' := (List.range (len * sizeT P e)).map (fun j => (w.cell? (a'.add j)).getD undef)) hfit ?_ (by simp) ?_
                          · intro w1 hw1
                            show (loadCells a' (len * i.size)).run P w1 = _
                            rw [← hsz]
                            apply run_loadCells
                            intro j hj
                            have hce : ∀ b, w1.cell? b = w.cell? b := fun b => by simp only [World.cell?, hw1]
                            obtain ⟨y, x', hy, hx', hv⟩ := cell_of h hA hg hu hf j (by omega) (by omega)
                            obtain ⟨_, _, _, _, hsp, _⟩ := hA
                            rw [hce, add_plain hsp, hx']; rfl
                          · intro j hj
                            obtain ⟨y, x', hy, hx', hv⟩ := cell_of h hA hg hu hf j (by omega) (by omega)
                            refine ⟨y, x', hy, ?_, hv⟩
                            obtain ⟨_, _, _, _, hsp, _⟩ := hA
                            rw [List.getElem?_map, List.getElem?_range hj]
                            simp only [Option.map_some]
                            rw [add_plain hsp, hx']; rfl
                    · cases hv
                  · cases hv
                | true =>
                  rw [hfit, cond_true] at hv
                  have hfit' := Nat.le_of_ble_eq_true hfit
                  unfold appIn at hv
                  simp only at hv
                  split at hv
                  · rename_i H2 hw2
                    cases hv
                    obtain ⟨w', q1, q2, q3⟩ := writeN_sound h (hA.plus _) hvl hw2
                    rw [hsz] at q1
                    have r' := run_append_in (type := o.type) ht ht2 hd hxt hi (hl w) (hrun w rfl) (show len + n ≤ c' by omega) (a := a') (w' := w') (by simpa using q1)
                    exact ⟨σ, _, w', _, hex (by rw [hs']; exact r'), rfl, σ.le_refl, q2, .slR _ _ _ _ hA hz1 hfit' hz3 hzz, q3⟩
                  · cases hv
            · rw [capOf_open _ hzz] at hcap; cases hcap
    · cases hv
  · cases hv

end
end Go.Abs
