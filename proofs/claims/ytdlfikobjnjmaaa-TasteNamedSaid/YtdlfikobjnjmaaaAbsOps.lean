/- Each operation of prepared code does what the model's does. -/
import Derived.Test.YtdlfikobjnjmaaaAbsApp
import Derived.IntWalk
namespace Go.Abs
set_option linter.unusedSectionVars false
variable [Globs]
open Go
set_option linter.unusedVariables false
set_option linter.unusedSimpArgs false

def nextVal : Next → Option Value
  | .value v => some v
  | .skip => some undef
  | _ => none

section
variable {P : Program} {σ : Ren} {N : Nat} {H : Heap} {w : World}

/-- An operation that hands back a value. -/
def OpOK (P : Program) (σ : Ren) (N : Nat) (H : Heap) (w : World) (s : Sem Next) (v : Value) (H' : Heap) : Prop :=
  ∃ τ v' w' n, s.run P w = .ok n w' ∧ nextVal n = some v' ∧ σ.le τ ∧ HR P τ N H' w' ∧ VR τ v v' ∧ Fr σ H w τ H' w'

theorem OpOK.still (h : HR P σ N H w) {s : Sem Next} {v v' : Value} (hr : s.run P w = .ok (.value v') w) (hv : VR σ v v') : OpOK P σ N H w s v H :=
  ⟨σ, v', w, .value v', hr, rfl, σ.le_refl, h, hv, Fr.refl _ _ _⟩

theorem VL.refl_plain : ∀ {l : List Value}, l.all plain1 = true → VL σ l l
  | [], _ => .nil
  | v :: l, h => by
    simp only [List.all_cons, Bool.and_eq_true] at h
    refine .cons ?_ (VL.refl_plain h.2)
    have h1 := h.1
    cases v with
    | bool b => exact .bool b
    | int k n => exact .int k n
    | string s => exact .string s
    | pointer a => cases a with | none => exact .ptr0 | some a => simp [plain1] at h1
    | slice a n c => cases a with | none => exact .sl0 n c | some a => simp [plain1] at h1
    | map r => cases r with | none => exact .map0 | some a => simp [plain1] at h1
    | nilFunc => exact .nilFunc
    | nilIface => exact .nilIface
    | _ => simp [plain1] at h1

theorem VR.refl_plain {v : Value} (h : plainV v = true) : VR σ v v := by
  by_cases h1 : plain1 v = true
  · have := VL.refl_plain (σ := σ) (l := [v]) (by simp [h1])
    cases this; assumption
  · cases v with
    | agg cs =>
      have h2 : cs.toList.all plain1 = true := h
      exact VR.agg_list (VL.refl_plain h2)
    | _ => simp_all [plainV]

theorem AR.plus {a a' : Addr} {l : Loc} (h : AR σ a a' l) (n : Nat) : AR σ (Addr.plus a n) (a'.add n) l := by
  obtain ⟨u, h1, h2, h3, h4, h5⟩ := h
  rw [add_plain h4]
  exact ⟨u, h1, h2, h3, rfl, by simp only [Addr.plus]; omega⟩

theorem info_of {t : TypeId} {d : TypeDesc} (h : P.underlying t = some d) : ∃ i, P.info? t = some i := by
  unfold Program.underlying at h
  split at h
  · exact ⟨_, by assumption⟩
  · exact ⟨_, by assumption⟩
  · cases h

theorem run_isAgg {t : TypeId} {d : TypeDesc} (h : P.underlying t = some d) : (isAgg t).run P w = .ok (isAggD d) w := by
  have e1 := run_underlying (w := w) h
  unfold isAgg
  cases d <;> simp [e1, isAggD]

theorem sizeT_of {t : TypeId} {i : TypeInfo} (h : P.info? t = some i) : sizeT P t = i.size := by simp [sizeT, h]

theorem zeroT_of {t : TypeId} {z : List Value} (h : zeroT P t = some z) : ∃ i zv, P.info? t = some i ∧ i.zero = some zv ∧ z = zv.cells.toList ∧ z.all plain1 = true ∧ zv.cells.size = i.size := by
  unfold zeroT at h
  split at h
  · rename_i i hi
    split at h
    · rename_i zv hz
      obtain ⟨hb, h⟩ := bif_some h
      cases h
      simp only [Bool.and_eq_true] at hb
      exact ⟨i, zv, hi, hz, rfl, hb.1, Nat.eq_of_beq_eq_true hb.2⟩
    · cases h
  · cases h

theorem asVal_val {H H' : Heap} {o : Option Value} {v : Value} (h : asVal H o = .val v H') : o = some v ∧ H' = H := by
  cases o with
  | none => cases h
  | some x => cases h; exact ⟨rfl, rfl⟩

theorem asPlain_val {H H' : Heap} {o : Option Value} {v : Value} (h : asPlain H o = .val v H') : o = some v ∧ plainV v = true ∧ H' = H := by
  cases o with
  | none => cases h
  | some x =>
    unfold asPlain at h
    cases hp : Abs.plainV x with
    | false => simp only [hp, cond_false] at h; cases h
    | true => simp only [hp, cond_true] at h; cases h; exact ⟨rfl, hp, rfl⟩

theorem VR.ptr_inv {a : Addr} {v' : Value} (h : VR σ (.pointer (some a)) v') : ∃ a' l, v' = .pointer (some a') ∧ AR σ a a' l := by
  cases h with
  | ptr h => exact ⟨_, _, rfl, h⟩

theorem VR.gptr_inv {k : FloatKind} {g off : Nat} {v' : Value} (h : VR σ (.complex k g off) v') : v' = .pointer (some ⟨g, off, none⟩) := by
  cases h with
  | gptr => rfl

theorem VR.of_plain1 {v : Value} (h : plain1 v = true) : VR σ v v := by
  unfold plain1 at h
  split at h <;> first | constructor | cases h

theorem VR.of_plainV {v : Value} (h : plainV v = true) : VR σ v v := by
  unfold plainV at h
  split at h
  · rename_i cs
    refine .agg rfl fun i x y h1 h2 => ?_
    rw [h1] at h2; cases h2
    rw [List.all_eq_true] at h
    exact VR.of_plain1 (h x (by obtain ⟨hi, rfl⟩ := Array.getElem?_eq_some_iff.1 h1; simp))
  · exact VR.of_plain1 h

theorem gRead_sound (h : HR P σ N H w) {g off : Nat} {v : Value} (hr : gRead g off = some v) : w.cell? ⟨g, off, none⟩ = some v ∧ plain1 v = true := by
  unfold gRead at hr
  split at hr
  · rename_i l hl
    split at hr
    · rename_i u hu
      obtain ⟨hb, hc⟩ := bif_some hr
      cases hc
      obtain ⟨_, cs, e, fz, h1, h2⟩ := h.glob g l hl
      exact ⟨by simp [World.cell?, h1, h2 _ _ hu], hb⟩
    · cases hr
  · cases hr

theorem gReadN_sound (h : HR P σ N H w) {g off n : Nat} {ls : List Value} (hr : gReadN g off n = some ls) : (loadCells ⟨g, off, none⟩ n).run P w = .ok ls.toArray w ∧ ls.all plain1 = true := by
  unfold gReadN at hr
  split at hr
  · rename_i l hl
    obtain ⟨hb, hc⟩ := bif_some hr
    cases hc
    simp only [Bool.and_eq_true] at hb
    have hb1 := Nat.le_of_ble_eq_true hb.1
    obtain ⟨_, cs, e, fz, h1, h2⟩ := h.glob g l hl
    have hlen : ((l.drop off).take n).length = n := by simp; omega
    have hget : ∀ j, j < n → w.cell? ((⟨g, off, none⟩ : Addr).add j) = ((l.drop off).take n)[j]? := fun j hj => by
      have hj' : off + j < l.length := by omega
      rw [add_plain rfl, List.getElem?_take_of_lt hj, List.getElem?_drop, List.getElem?_eq_getElem hj']
      simp [World.cell?, h1, h2 _ _ (List.getElem?_eq_getElem hj')]
    refine ⟨?_, ?_⟩
    · have e0 : ((l.drop off).take n) = (List.range n).map (fun j => (w.cell? ((⟨g, off, none⟩ : Addr).add j)).getD undef) := by
        apply List.ext_getElem?
        intro j
        by_cases hj : j < n
        · have := hget j hj
          rw [List.getElem?_eq_getElem (by omega)] at this ⊢
          rw [List.getElem?_map, List.getElem?_range hj, Option.map_some, this]; rfl
        · rw [List.getElem?_eq_none (by omega), List.getElem?_eq_none (by simpa using hj)]
      rw [e0]
      apply run_loadCells
      intro j hj
      rw [hget j hj, List.getElem?_eq_getElem (by omega)]; rfl
    · rw [List.all_eq_true]; intro x hx
      exact (List.all_eq_true.1 hb.2) x (List.mem_of_mem_drop (List.mem_of_mem_take hx))
  · cases hr

/-- A new row of just these cells. -/
theorem new_OK (h : HR P σ N H w) {e : TypeId} {ls ls' : List Value} (hr : VL σ ls ls') {s : Sem Next}
    (hs : s.run P w = .ok (.value (.pointer (some ⟨w.heap.size, 0, none⟩))) { w with heap := w.heap.push (.cells ls'.toArray e) }) :
    OpOK P σ N H w s (.pointer (some (newAddr H))) (H.row e ls) := by
  obtain ⟨τ, l, q1, q2, q3, q4, q5⟩ := row_sound h (e := e) hr (cs := ls'.toArray) (fun i x hx => by simpa using hx) (by simp [hr.length]) (e' := e) (w' := { w with heap := w.heap.push (.cells ls'.toArray e) }) ⟨rfl, rfl, rfl⟩
  exact ⟨τ, _, _, _, hs, rfl, q1, q2, .ptr q4, q3⟩

variable {ρ ρ' : Operand → Value} {o : Oper}

theorem ok_load1 (h : HR P σ N H w) {t : TypeId} {x : Operand} {d : TypeDesc} (hop : o.op = .load t x) (hd : P.underlying t = some d) (ha : isAggD d = false) (hx : VR σ (ρ x) (ρ' x)) {v : Value} {H' : Heap}
    (hv : oLoad1 (ρ x) H = .val v H') : OpOK P σ N H w (execOp ρ' o) v H' := by
  unfold oLoad1 at hv
  split at hv
  · rename_i a he
    rw [he] at hx
    obtain ⟨a', l, hx', hA⟩ := hx.ptr_inv
    obtain ⟨hr, rfl⟩ := asVal_val hv
    obtain ⟨x', hc, hvr⟩ := read_sound h hA hr
    refine OpOK.still h (v' := x') ?_ hvr
    have e1 := run_isAgg (w := w) hd
    rw [ha] at e1
    simp [execOp, hop, Instr.loadAt, Instr.sureAddr, hx', loadVar, e1, hc]
  · rename_i k g off he
    rw [he] at hx
    have hx' := hx.gptr_inv
    obtain ⟨hr, rfl⟩ := asVal_val hv
    obtain ⟨hc, hp⟩ := gRead_sound h hr
    refine OpOK.still h (v' := v) ?_ (VR.of_plain1 hp)
    have e1 := run_isAgg (w := w) hd
    rw [ha] at e1
    simp [execOp, hop, Instr.loadAt, Instr.sureAddr, hx', loadVar, e1, hc]
  · cases hv

theorem ok_loadN (h : HR P σ N H w) {t : TypeId} {x : Operand} {d : TypeDesc} (hop : o.op = .load t x) (hd : P.underlying t = some d) (ha : isAggD d = true) (hx : VR σ (ρ x) (ρ' x)) {v : Value} {H' : Heap}
    (hv : oLoadN (ρ x) (sizeT P t) H = .val v H') : OpOK P σ N H w (execOp ρ' o) v H' := by
  unfold oLoadN at hv
  split at hv
  · rename_i a he
    rw [he] at hx
    obtain ⟨a', l, hx', hA⟩ := hx.ptr_inv
    obtain ⟨hr, rfl⟩ := asVal_val hv
    cases hr2 : H'.readN a (sizeT P t) with
    | none => rw [hr2] at hr; cases hr
    | some ls =>
      rw [hr2] at hr; cases hr
      obtain ⟨hl, ls', hrun0, hvl⟩ := readN_sound h hA hr2
      have hrun := hrun0 w rfl
      obtain ⟨i, hi⟩ := info_of hd
      rw [sizeT_of hi] at hrun
      refine OpOK.still h (v' := .agg ls'.toArray) ?_ (VR.agg_list (by simpa using hvl))
      have e1 := run_isAgg (w := w) hd
      have e2 := run_sizeOf (w := w) hi
      rw [ha] at e1
      simp [execOp, hop, Instr.loadAt, Instr.sureAddr, hx', loadVar, e1, e2, hrun]
  · rename_i k g off he
    rw [he] at hx
    have hx' := hx.gptr_inv
    obtain ⟨hr, rfl⟩ := asVal_val hv
    cases hr2 : gReadN g off (sizeT P t) with
    | none => rw [hr2] at hr; cases hr
    | some ls =>
      rw [hr2] at hr; cases hr
      obtain ⟨i, hi⟩ := info_of hd
      rw [sizeT_of hi] at hr2
      obtain ⟨hrun, hp⟩ := gReadN_sound h hr2
      refine OpOK.still h (v' := .agg ls.toArray) ?_ (VR.of_plainV (v := .agg ls.toArray) (by simpa [plainV] using hp))
      have e1 := run_isAgg (w := w) hd
      have e2 := run_sizeOf (w := w) hi
      rw [ha] at e1
      simp [execOp, hop, Instr.loadAt, Instr.sureAddr, hx', loadVar, e1, e2, hrun]
  · cases hv

theorem ok_store (h : HR P σ N H w) {t : TypeId} {x y : Operand} (hop : o.op = .store t x y) (hx : VR σ (ρ x) (ρ' x)) (hy : VR σ (ρ y) (ρ' y)) {v : Value} {H' : Heap}
    (hv : oStore (ρ x) (ρ y).cells.toList (sizeT P t) H = .val v H') (hi : ∃ i, P.info? t = some i) : OpOK P σ N H w (execOp ρ' o) v H' := by
  obtain ⟨i, hi⟩ := hi
  unfold oStore at hv
  split at hv
  · rename_i a he
    rw [he] at hx
    obtain ⟨a', l, hx', hA⟩ := hx.ptr_inv
    cases hb : Nat.beq (ρ y).cells.toList.length (sizeT P t) with
    | false => rw [hb] at hv; cases hv
    | true =>
      rw [hb, cond_true] at hv
      cases hw : H.writeN a (ρ y).cells.toList with
      | none => rw [hw] at hv; cases hv
      | some H2 =>
        rw [hw] at hv; cases hv
        have hc := hy.cells
        obtain ⟨w', q1, q2, q3⟩ := writeN_sound h hA hc hw
        refine ⟨σ, undef, w', .skip, ?_, rfl, σ.le_refl, q2, VR.undef σ, q3⟩
        have hsz : (ρ' y).cells.size = i.size := by
          have := hc.length; have := Nat.eq_of_beq_eq_true hb; rw [sizeT_of hi] at this; simp at *; omega
        have e2 := run_sizeOf (w := w) hi
        simp [execOp, hop, Instr.storeAt, Instr.sureAddr, hx', storeVar, e2, hsz, q1]
  · cases hv

theorem ok_field (h : HR P σ N H w) {s : TypeId} {x : Operand} {k : Nat} {fs : Array Field} {f : Field} (hop : o.op = .fieldAddr s x k) (hd : P.underlying s = some (.struct fs)) (hf : fs[k]? = some f)
    (hs : Nat.ble 1 (sizeT P f.type) = true) (hx : VR σ (ρ x) (ρ' x)) {v : Value} {H' : Heap} (hv : oField (ρ x) f.offset H = .val v H') : OpOK P σ N H w (execOp ρ' o) v H' := by
  unfold oField at hv
  split at hv
  · rename_i a he
    rw [he] at hx
    obtain ⟨a', l, hx', hA⟩ := hx.ptr_inv
    cases hv
    refine OpOK.still h (v' := .pointer (some (a'.add f.offset))) ?_ (.ptr (hA.plus _))
    have e1 := run_underlying (w := w) hd
    have hsz : 1 ≤ sizeT P f.type := Nat.le_of_ble_eq_true hs
    have : ∃ i, P.info? f.type = some i := by
      unfold sizeT at hsz; split at hsz
      · exact ⟨_, by assumption⟩
      · omega
    obtain ⟨i, hi⟩ := this
    have e2 := run_sizeOf (w := w) hi
    rw [sizeT_of hi] at hsz
    have hne : ¬ i.size = 0 := by omega
    simp [execOp, hop, Instr.fieldAt, Instr.sureAddr, hx', fieldPlace, e1, e2, hf, hne]
  · rename_i k' g off he
    rw [he] at hx
    have hx' := hx.gptr_inv
    cases hv
    refine OpOK.still h (v' := .pointer (some ⟨g, off + f.offset, none⟩)) ?_ (.gptr _ _ _)
    have e1 := run_underlying (w := w) hd
    have hsz : 1 ≤ sizeT P f.type := Nat.le_of_ble_eq_true hs
    have : ∃ i, P.info? f.type = some i := by
      unfold sizeT at hsz; split at hsz
      · exact ⟨_, by assumption⟩
      · omega
    obtain ⟨i, hi⟩ := this
    have e2 := run_sizeOf (w := w) hi
    rw [sizeT_of hi] at hsz
    have hne : ¬ i.size = 0 := by omega
    simp [execOp, hop, Instr.fieldAt, Instr.sureAddr, hx', fieldPlace, e1, e2, hf, hne, add_plain]
  · cases hv

theorem ok_idxA (h : HR P σ N H w) {t e : TypeId} {x ix : Operand} {n : Nat} (hop : o.op = .indexAddr t x ix) (hd : P.underlying t = some (.array n e)) (hi : ∃ i, P.info? e = some i)
    (hx : VR σ (ρ x) (ρ' x)) (hix : VR σ (ρ ix) (ρ' ix)) {v : Value} {H' : Heap} (hv : oIdxA (ρ x) (ρ ix) n (sizeT P e) H = .val v H') : OpOK P σ N H w (execOp ρ' o) v H' := by
  obtain ⟨i, hi⟩ := hi
  unfold oIdxA at hv
  split at hv
  · rename_i j a hj he
    rw [he] at hx
    obtain ⟨a', l, hx', hA⟩ := hx.ptr_inv
    obtain ⟨k, _, hix'⟩ := hix.natOf_ hj
    cases hb : Nat.blt j n with
    | false => rw [hb] at hv; cases hv
    | true =>
      rw [hb, cond_true] at hv; cases hv
      have hlt : j < n := Nat.le_of_ble_eq_true hb
      refine OpOK.still h (v' := .pointer (some (a'.add (j * sizeT P e)))) ?_ (.ptr (hA.plus _))
      have e1 := run_underlying (w := w) hd
      have e2 := run_sizeOf (w := w) hi
      have h0 : (0 : Int) ≤ Int.ofNat j ∧ Int.ofNat j < (n : Int) := ⟨by simp, by simpa using hlt⟩
      simp [execOp, hop, Instr.indexAt, Instr.sureAddr, hx', hix', asIntOf, e1, e2, sizeT_of hi, hlt]
  · rename_i j k' g off hj he
    rw [he] at hx
    have hx' := hx.gptr_inv
    obtain ⟨k, _, hix'⟩ := hix.natOf_ hj
    cases hb : Nat.blt j n with
    | false => rw [hb] at hv; cases hv
    | true =>
      rw [hb, cond_true] at hv; cases hv
      have hlt : j < n := Nat.le_of_ble_eq_true hb
      refine OpOK.still h (v' := .pointer (some ⟨g, off + j * sizeT P e, none⟩)) ?_ (.gptr _ _ _)
      have e1 := run_underlying (w := w) hd
      have e2 := run_sizeOf (w := w) hi
      have h0 : (0 : Int) ≤ Int.ofNat j ∧ Int.ofNat j < (n : Int) := ⟨by simp, by simpa using hlt⟩
      simp [execOp, hop, Instr.indexAt, Instr.sureAddr, hx', hix', asIntOf, e1, e2, sizeT_of hi, hlt, add_plain]
  · cases hv

theorem VR.slice_inv {b : Option Addr} {n c : Nat} {v' : Value} (h : VR σ (.slice b n c) v') :
    (b = none ∧ v' = .slice none n c) ∨ (∃ a, b = some a ∧ ∃ a' c', v' = .slice (some a') n c' ∧
      ((∃ l, AR σ a a' l ∧ ((c = 2 * c' + 1) ∨ (∃ z, c = 2 * z ∧ a'.off + c' * z ≤ l.n ∧ n ≤ c' ∧ z ≤ 1000) ∨ ∃ z r, c = roomCode z r ∧ a'.off + c' * z ≤ l.n ∧ n ≤ r ∧ r ≤ c' ∧ z ≤ 1000)) ∨ (n = 0 ∧ c' = 0 ∧ ∃ z, c = 2 * z ∧ z ≤ 1000))) := by
  cases h with
  | sl0 => exact .inl ⟨rfl, rfl⟩
  | slK n c h => exact .inr ⟨_, rfl, _, _, rfl, .inl ⟨_, h, .inl rfl⟩⟩
  | slO n z c h hc hn hz => exact .inr ⟨_, rfl, _, _, rfl, .inl ⟨_, h, .inr (.inl ⟨z, rfl, hc, hn, hz⟩)⟩⟩
  | slR n z r c h hc hn hr hz => exact .inr ⟨_, rfl, _, _, rfl, .inl ⟨_, h, .inr (.inr ⟨z, r, rfl, hc, hn, hr, hz⟩)⟩⟩
  | slE a a' z hz => exact .inr ⟨_, rfl, _, _, rfl, .inr ⟨rfl, rfl, z, rfl, hz⟩⟩

theorem ok_idxS (h : HR P σ N H w) {t e : TypeId} {x ix : Operand} (hop : o.op = .indexAddr t x ix) (hd : P.underlying t = some (.slice e)) (hi : ∃ i, P.info? e = some i)
    (hx : VR σ (ρ x) (ρ' x)) (hix : VR σ (ρ ix) (ρ' ix)) {v : Value} {H' : Heap} (hv : oIdxS (ρ x) (ρ ix) (sizeT P e) H = .val v H') : OpOK P σ N H w (execOp ρ' o) v H' := by
  obtain ⟨i, hi⟩ := hi
  unfold oIdxS at hv
  split at hv
  · rename_i j a n c hj he
    rw [he] at hx
    obtain ⟨k, _, hix'⟩ := hix.natOf_ hj
    cases hb : Nat.blt j n with
    | false => rw [hb] at hv; cases hv
    | true =>
      rw [hb, cond_true] at hv; cases hv
      have hlt : j < n := Nat.le_of_ble_eq_true hb
      rcases hx.slice_inv with ⟨h1, _⟩ | ⟨a2, h1, a', c', hx', hcase⟩
      · cases h1
      · cases h1
        rcases hcase with ⟨l, hA, _⟩ | ⟨h0, _⟩
        · refine OpOK.still h (v' := .pointer (some (a'.add (j * sizeT P e)))) ?_ (.ptr (hA.plus _))
          have e1 := run_underlying (w := w) hd
          have e2 := run_sizeOf (w := w) hi
          simp [execOp, hop, Instr.indexAt, Instr.sureAddr, hx', hix', asIntOf, e1, e2, sizeT_of hi, hlt]
        · omega
  · cases hv


theorem ok_alloc (h : HR P σ N H w) {e : TypeId} {z : List Value} (hop : o.op = .alloc e) (hz : zeroT P e = some z) : OpOK P σ N H w (execOp ρ' o) (.pointer (some (newAddr H))) (H.row e z) := by
  obtain ⟨i, zv, hi, hzv, rfl, hp, hs⟩ := zeroT_of hz
  refine new_OK h (VL.refl_plain hp) ?_
  have e1 := run_zeroValue (w := w) hi hzv
  simp [execOp, hop, Instr.alloc, e1, newVar, newRow]

theorem ok_box (h : HR P σ N H w) {e : TypeId} {x : Operand} (hop : o.op = .box e x) (hx : VR σ (ρ x) (ρ' x)) : OpOK P σ N H w (execOp ρ' o) (.pointer (some (newAddr H))) (H.row e (ρ x).cells.toList) := by
  refine new_OK h hx.cells ?_
  simp [execOp, hop, Instr.box, newVar, newRow]

theorem ok_pick (h : HR P σ N H w) {c a b : Operand} (hop : o.op = .pick c a b) (hc : VR σ (ρ c) (ρ' c)) (ha : VR σ (ρ a) (ρ' a)) (hb : VR σ (ρ b) (ρ' b)) {v : Value} {H' : Heap}
    (hv : oPick (ρ c) (ρ a) (ρ b) H = .val v H') : OpOK P σ N H w (execOp ρ' o) v H' := by
  unfold oPick at hv
  split at hv
  · rename_i he; cases hv
    rw [he] at hc
    have : ρ' c = .bool true := by generalize ρ' c = y at hc; cases hc; rfl
    exact OpOK.still h (v' := ρ' a) (by simp [execOp, hop, asBool, this]) ha
  · rename_i he; cases hv
    rw [he] at hc
    have : ρ' c = .bool false := by generalize ρ' c = y at hc; cases hc; rfl
    exact OpOK.still h (v' := ρ' b) (by simp [execOp, hop, asBool, this]) hb
  · cases hv

theorem ok_nil (h : HR P σ N H w) {x : Operand} (hop : o.op = .nilCheck x) (hx : VR σ (ρ x) (ρ' x)) {v : Value} {H' : Heap} (hv : oNil (ρ x) H = .val v H') : OpOK P σ N H w (execOp ρ' o) v H' := by
  unfold oNil at hv
  split at hv
  · rename_i a he; cases hv
    rw [he] at hx
    have k := hx
    generalize hy : ρ' x = y at hx k
    cases hx with
    | ptr hA => exact OpOK.still h (v' := .pointer (some _)) (by simp [execOp, hop, hy]) k
  · rename_i g a b he; cases hv
    rw [he] at hx
    have k := hx
    generalize hy : ρ' x = y at hx k
    cases hx with
    | fn f hf h1 h2 h3 h4 => exact OpOK.still h (by simp only [execOp, hop, hy]; rfl) k
  · rename_i g a b he; cases hv
    rw [he] at hx
    have k := hx
    generalize hy : ρ' x = y at hx k
    cases hx with
    | fn f hf => exact absurd rfl (hf _)
    | yld hb => exact OpOK.still h (by simp only [execOp, hop, hy]; rfl) k
  · rename_i k' g off he; cases hv
    rw [he] at hx
    have hy := hx.gptr_inv
    exact OpOK.still h (v' := .pointer (some _)) (by simp [execOp, hop, hy]) (.gptr _ _ _)
  · cases hv

theorem ok_ext (h : HR P σ N H w) {x : Operand} {k : Nat} (hop : o.op = .extract x k) (hx : VR σ (ρ x) (ρ' x)) {v : Value} {H' : Heap} (hv : oExt (ρ x) k H = .val v H') : OpOK P σ N H w (execOp ρ' o) v H' := by
  unfold oExt at hv
  split at hv
  · rename_i vs he
    obtain ⟨hr, rfl⟩ := asVal_val hv
    rw [he] at hx
    generalize hy : ρ' x = y at hx
    cases hx with
    | tuple hs hxs =>
      rename_i vs'
      have hk : k < vs.size := (Array.getElem?_eq_some_iff.1 hr).1
      have hk' : vs'[k]? = some (vs'[k]'(hs ▸ hk)) := by simp [hs ▸ hk]
      exact OpOK.still h (v' := vs'[k]'(hs ▸ hk)) (by simp [execOp, hop, hy, Instr.extract, hs ▸ hk]) (hxs k _ _ hr hk')
  · cases hv

theorem VR.map_ρ {xs : Array Operand} (hxs : ∀ x ∈ xs.toList, VR σ (ρ x) (ρ' x)) : (xs.map ρ).size = (xs.map ρ').size ∧ ∀ (i : Nat) (v v' : Value), (xs.map ρ)[i]? = some v → (xs.map ρ')[i]? = some v' → VR σ v v' := by
  refine ⟨by simp, fun i v v' h1 h2 => ?_⟩
  simp only [Array.getElem?_map, Option.map_eq_some_iff] at h1 h2
  obtain ⟨x, hx, rfl⟩ := h1
  obtain ⟨y, hy, rfl⟩ := h2
  rw [hx] at hy; cases hy
  exact hxs x (by simpa using Array.mem_of_getElem? hx)

theorem VL.map_ρ : ∀ {xs : List Operand}, (∀ x ∈ xs, VR σ (ρ x) (ρ' x)) → VL σ (xs.map ρ) (xs.map ρ')
  | [], _ => .nil
  | x :: xs, h => .cons (h x (by simp)) (VL.map_ρ (fun y hy => h y (by simp [hy])))

theorem ok_mkF (h : HR P σ N H w) {f : Fn} {a b : Array Operand} (hop : o.op = .makeFunc f a b) (hf : ∀ l, f ≠ .yield l) (ha : ∀ x ∈ a.toList, VR σ (ρ x) (ρ' x)) (hb : ∀ x ∈ b.toList, VR σ (ρ x) (ρ' x)) :
    OpOK P σ N H w (execOp ρ' o) (.func f (a.map ρ) (b.map ρ)) H := by
  obtain ⟨a1, a2⟩ := VR.map_ρ ha
  obtain ⟨b1, b2⟩ := VR.map_ρ hb
  exact OpOK.still h (v' := .func f (a.map ρ') (b.map ρ')) (by simp [execOp, hop, Instr.makeFunc]) (.fn f hf a1 a2 b1 b2)

theorem ok_mkI (h : HR P σ N H w) {t : TypeId} {x : Operand} {d : TypeDesc} (hop : o.op = .makeInterface t x) (hd : P.underlying t = some d) (hni : ∀ m, d ≠ .interface m) (hx : VR σ (ρ x) (ρ' x)) :
    OpOK P σ N H w (execOp ρ' o) (.iface t (ρ x)) H := by
  refine OpOK.still h (v' := .iface t (ρ' x)) ?_ (.iface t hx)
  have e1 := run_underlying (w := w) hd
  cases d <;> first | (exact absurd rfl (hni _)) | simp [execOp, hop, Instr.makeInterface, e1]

theorem equal_succ (t : TypeId) (x y : Value) : Op.equal t x y = Op.equalIn (9999 + 1) t x y := rfl

theorem run_equal_ptr {t e : TypeId} (hd : P.underlying t = some (.pointer e)) (a : Option Addr) : (Op.equal t (.pointer a) (.pointer none)).run P w = .ok a.isNone w := by
  have e1 := run_underlying (w := w) hd
  rw [equal_succ, Op.equalIn]
  cases a <;> simp [e1]

theorem run_equal_sl {t e : TypeId} (hd : P.underlying t = some (.slice e)) (a : Option Addr) (n c n' c' : Nat) : (Op.equal t (.slice a n c) (.slice none n' c')).run P w = .ok a.isNone w := by
  have e1 := run_underlying (w := w) hd
  rw [equal_succ, Op.equalIn]
  cases a <;> simp [e1]

theorem run_equal_fn {t : TypeId} {a b c} (hd : P.underlying t = some (.func a b c)) (f : Fn) (x y : Array Value) : (Op.equal t (.func f x y) .nilFunc).run P w = .ok false w := by
  have e1 := run_underlying (w := w) hd
  rw [equal_succ, Op.equalIn]
  simp [e1]

theorem run_equal_fn0 {t : TypeId} {a b c} (hd : P.underlying t = some (.func a b c)) : (Op.equal t .nilFunc .nilFunc).run P w = .ok true w := by
  have e1 := run_underlying (w := w) hd
  rw [equal_succ, Op.equalIn]
  simp [e1]

theorem ok_nilEq (h : HR P σ N H w) {op : BinOp} {t u : TypeId} {x y : Operand} {d : TypeDesc} {neg : Bool} {kd : NilK} (hop : o.op = .binOp op t x y u) (hd : P.underlying t = some d)
    (hneg : (op = .eql ∧ neg = false) ∨ (op = .neq ∧ neg = true)) (hk : nilKind d y = some kd) (hy : VR σ (ρ y) (ρ' y)) (hc : ∀ v, y = .const v → ρ y = v) (hx : VR σ (ρ x) (ρ' x)) {v : Value} {H' : Heap}
    (hv : oNilEq neg kd (ρ x) H = .val v H') : OpOK P σ N H w (execOp ρ' o) v H' := by
  generalize hxv : ρ x = xv at hx hv
  unfold nilKind at hk
  split at hk
  · cases hk
    have hy1 := hc _ rfl
    rw [hy1] at hy
    have hy' : ρ' (.const (.pointer none)) = .pointer none := by generalize ρ' (.const (.pointer none)) = z at hy; cases hy; rfl
    have e2 := fun a => run_equal_ptr (w := w) hd a
    generalize hz : ρ' x = z at hx
    cases xv with
    | pointer a =>
      simp only [oNilEq] at hv
      cases hv
      refine OpOK.still h (v' := .bool (a.isNone != neg)) ?_ (.bool _)
      cases hx <;> rcases hneg with ⟨rfl, rfl⟩ | ⟨rfl, rfl⟩ <;> simp [execOp, hop, hy', hz, eqGuard, binOp, e2]
    | _ => simp [oNilEq] at hv
  · cases hk
    rename_i n c
    have hy1 := hc _ rfl
    rw [hy1] at hy
    have hy' : ρ' (.const (.slice none n c)) = .slice none n c := by generalize ρ' (.const (.slice none n c)) = z at hy; cases hy; rfl
    have e2 := fun a n1 c1 => run_equal_sl (w := w) hd a n1 c1 n c
    generalize hz : ρ' x = z at hx
    cases xv with
    | slice a n1 c1 =>
      simp only [oNilEq] at hv
      cases hv
      refine OpOK.still h (v' := .bool (a.isNone != neg)) ?_ (.bool _)
      cases hx <;> rcases hneg with ⟨rfl, rfl⟩ | ⟨rfl, rfl⟩ <;> simp [execOp, hop, hy', hz, eqGuard, binOp, e2]
    | _ => simp [oNilEq] at hv
  · cases hk
    have hy1 := hc _ rfl
    rw [hy1] at hy
    have hy' : ρ' (.const .nilFunc) = .nilFunc := by generalize ρ' (.const .nilFunc) = z at hy; cases hy; rfl
    have e2 := fun f x y => run_equal_fn (w := w) hd f x y
    have e3 := run_equal_fn0 (w := w) hd
    generalize hz : ρ' x = z at hx
    cases xv with
    | func f a b =>
      simp only [oNilEq] at hv
      cases hv
      refine OpOK.still h (v' := .bool neg) ?_ (.bool _)
      cases hx <;> rcases hneg with ⟨rfl, rfl⟩ | ⟨rfl, rfl⟩ <;> simp [execOp, hop, hy', hz, eqGuard, binOp, e2]
    | nilFunc =>
      simp only [oNilEq] at hv
      cases hv
      refine OpOK.still h (v' := .bool !neg) ?_ (.bool _)
      cases hx <;> rcases hneg with ⟨rfl, rfl⟩ | ⟨rfl, rfl⟩ <;> simp [execOp, hop, hy', hz, eqGuard, binOp, e3]
    | _ => simp [oNilEq] at hv
  · cases hk

theorem ok_not (h : HR P σ N H w) {t : TypeId} {x : Operand} (hop : o.op = .unOp .not t x) (hx : VR σ (ρ x) (ρ' x)) {v : Value} {H' : Heap} (hv : oNot (ρ x) H = .val v H') : OpOK P σ N H w (execOp ρ' o) v H' := by
  unfold oNot at hv
  split at hv
  · rename_i b he; cases hv
    rw [he] at hx
    have : ρ' x = .bool b := by generalize ρ' x = y at hx; cases hx; rfl
    exact OpOK.still h (v' := .bool !b) (by simp [execOp, hop, Op.unary, this]) (.bool _)
  · cases hv

theorem pureRun_run {α : Type} : ∀ (s : Sem α) {a : α}, pureRun P s = some a → ∀ w, s.run P w = .ok a w := by
  intro s
  induction s with
  | pure b => intro a h w; simp [pureRun] at h; subst h; rfl
  | program k ih => intro a h w; exact ih P h w
  | _ => intro a h w; simp [pureRun] at h

theorem lim_eq : lim = 9223372036854775808 := by simp only [lim]

theorem blt_lim {m : Nat} (h : Nat.blt m lim = true) : m + 1 ≤ 9223372036854775808 := by
  have h1 : m + 1 ≤ lim := by
    unfold Nat.blt at h
    exact Nat.le_of_ble_eq_true h
  exact Nat.le_trans h1 (Nat.le_of_eq lim_eq)

theorem fit_aux (b : Bool) (n w : Int) (h : b = true → w = n) : (bif b then n else w) = w := by
  cases b with
  | false => rfl
  | true => exact (h rfl).symm

theorem fitI_wrap (k : IntKind) (n : Int) : fitI k n = k.wrap n := by
  cases n with
  | ofNat m =>
    cases k
    case i64 => exact fit_aux _ _ _ (fun hb => IntWalk.i64_in _ (by have := blt_lim hb; simp only [Int.ofNat_eq_natCast]; omega))
    all_goals rfl
  | negSucc m =>
    cases k
    case i64 => exact fit_aux _ _ _ (fun hb => IntWalk.i64_in _ (by have := blt_lim hb; omega))
    all_goals rfl

theorem run_eqGuard_int {op : BinOp} {t : TypeId} {x y : Operand} {k k' : IntKind} {a b : Int} : (eqGuard op t x y (.int k a) (.int k' b)).run P w = .ok () w := by
  cases op <;> simp [eqGuard]

theorem ok_ibin (h : HR P σ N H w) {op : BinOp} {t u : TypeId} {x y : Operand} {k : IntKind} (hop : o.op = .binOp op t x y u) (hs : op ≠ .shl ∧ op ≠ .shr) (hx : VR σ (ρ x) (ρ' x)) (hy : VR σ (ρ y) (ρ' y))
    {v : Value} {H' : Heap} (hv : oIbin P op k (ρ x) (ρ y) H = .val v H') : OpOK P σ N H w (execOp ρ' o) v H' := by
  unfold oIbin at hv
  split at hv
  · rename_i k1 a k2 b he1 he2
    rw [he1] at hx; rw [he2] at hy
    have hx' : ρ' x = .int k1 a := by generalize ρ' x = y at hx; cases hx; rfl
    have hy' : ρ' y = .int k2 b := by generalize ρ' y = y at hy; cases hy; rfl
    cases hb : (decide (k1 = k) && decide (k2 = k)) with
    | false => rw [hb] at hv; cases hv
    | true =>
      rw [hb, cond_true] at hv
      simp only [Bool.and_eq_true, decide_eq_true_eq] at hb
      obtain ⟨h1, h2⟩ := hb
      subst h1; subst h2
      have e0 := run_eqGuard_int (P := P) (w := w) (op := op) (t := t) (x := x) (y := y) (k := k2) (k' := k2) (a := a) (b := b)
      split at hv
      · rename_i r hr
        cases hv
        have hv' : VR σ v v := by
          cases op <;> simp only [ibinA, Option.some.injEq, reduceCtorEq] at hr <;> subst hr <;> constructor
        refine OpOK.still h (v' := v) ?_ hv'
        cases op <;> simp only [ibinA, Option.some.injEq, reduceCtorEq] at hr <;> subst hr <;>
          simp [execOp, hop, hx', hy', binOp, Op.intArith, Op.intCmp, fitI_wrap, eqGuard]
      · obtain ⟨hr, hpl, rfl⟩ := asPlain_val hv
        have hrun := pureRun_run _ hr w
        have hsame : binOp op t (.int k2 a) (.int k2 b) = binOp op 0 (.int k2 a) (.int k2 b) := by
          cases op <;> simp [binOp]
        exact OpOK.still h (v' := v) (by simp [execOp, hop, hx', hy', e0, hsame, hrun]) (VR.refl_plain hpl)
  · cases hv


/-! ### Slices of slices -/

inductive VO (σ : Ren) : Option Value → Option Value → Prop where
  | no : VO σ none none
  | yes {v v' : Value} (h : VR σ v v') : VO σ (some v) (some v')

theorem VO.map {x : Option Operand} (h : ∀ y, x = some y → VR σ (ρ y) (ρ' y)) : VO σ (x.map ρ) (x.map ρ') := by
  cases x with
  | none => exact .no
  | some y => exact .yes (h y rfl)

theorem run_sliceBound {k : IntKind} {i y : Nat} {code : BoundsCode} (h : i ≤ y) : (Instr.sliceBound (.int k (.ofNat i)) y code).run P w = .ok i w := by
  have h0 : (0 : Int) ≤ Int.ofNat i ∧ Int.ofNat i ≤ (y : Int) := ⟨by simp, by simpa using h⟩
  simp [Instr.sliceBound, asIntOf, h]

theorem run_sliceBound' {k : IntKind} {i y : Nat} {code : BoundsCode} (h : i ≤ y) : (Instr.sliceBound (.int k (i : Int)) y code).run P w = .ok i w := run_sliceBound h

theorem run_bounds {lo hi mx lo' hi' mx' : Option Value} (h1 : VO σ lo lo') (h2 : VO σ hi hi') (h3 : VO σ mx mx') {len l hh : Nat} (hl : loOf lo = some l) (hh' : hiOf len hi = some hh) (hlh : l ≤ hh) (isS : Bool) (cap : Nat) :
    (mx = none → hh ≤ cap → (Instr.sliceBounds isS len cap lo' hi' mx').run P w = .ok (l, hh, cap) w) ∧
    (∀ v m, mx = some v → natOf v = some m → hi ≠ none → m ≤ cap → hh ≤ m → (Instr.sliceBounds isS len cap lo' hi' mx').run P w = .ok (l, hh, m) w) := by
  have L : (lo' = none ∧ l = 0) ∨ ∃ k, lo' = some (.int k (.ofNat l)) := by
    cases h1 with
    | no => simp [loOf] at hl; exact .inl ⟨rfl, hl.symm⟩
    | yes hv => obtain ⟨k, _, e⟩ := hv.natOf_ hl; exact .inr ⟨k, by rw [e]⟩
  have Hh : (hi = none ∧ hi' = none ∧ hh = len) ∨ ∃ k, hi' = some (.int k (.ofNat hh)) := by
    cases h2 with
    | no => simp [hiOf] at hh'; exact .inl ⟨rfl, rfl, hh'.symm⟩
    | yes hv => obtain ⟨k, _, e⟩ := hv.natOf_ hh'; exact .inr ⟨k, by rw [e]⟩
  constructor
  · intro hm hc
    subst hm
    cases h3
    unfold Instr.sliceBounds
    rcases L with ⟨rfl, rfl⟩ | ⟨k, rfl⟩ <;> rcases Hh with ⟨_, rfl, rfl⟩ | ⟨k2, rfl⟩ <;> simp [run_sliceBound', hc, hlh]
  · intro v m hm hv hne hmc hhm
    subst hm
    cases h3 with
    | yes hvv =>
      obtain ⟨k3, _, e⟩ := hvv.natOf_ hv
      subst e
      unfold Instr.sliceBounds
      rcases L with ⟨rfl, rfl⟩ | ⟨k, rfl⟩ <;> rcases Hh with ⟨h0, _, _⟩ | ⟨k2, rfl⟩ <;> first | (exact absurd h0 hne) | simp [run_sliceBound', hmc, hhm, hlh]

/-- What the model makes of it. -/
def cutV (size : Nat) (base : Option Addr) (l h m : Nat) : Value := .slice (if m = l then base else base.map (·.add (l * size))) (h - l) (m - l)

theorem cutKnown_VR {a a' : Addr} {lc : Loc} (hA : AR σ a a' lc) {size l h m : Nat} {v : Value} (hv : cutKnown size (some a) l h m = some v) : VR σ v (cutV size (some a') l h m) := by
  simp only [cutKnown, Option.some.injEq] at hv
  subst hv
  unfold cutV
  by_cases he : m = l
  · have : Nat.beq m l = true := by rw [he]; exact Nat.beq_refl l
    rw [this, cond_true, if_pos he]; exact .slK _ _ hA
  · have : Nat.beq m l = false := by cases hb : Nat.beq m l with | false => rfl | true => exact absurd (Nat.eq_of_beq_eq_true hb) he
    rw [this, cond_false, if_neg he]; exact .slK _ _ (hA.plus _)

theorem cutOpen_VR {a a' : Addr} {lc : Loc} (hA : AR σ a a' lc) {size l h c len : Nat} {v : Value} (hv : cutOpen size (some a) l h = some v) (hlh : l ≤ h) (hh : h ≤ len) (hn : len ≤ c) (hc : a'.off + c * size ≤ lc.n) (hz : size ≤ 1000) :
    VR σ v (cutV size (some a') l h c) := by
  simp only [cutOpen, Option.some.injEq] at hv
  subst hv
  unfold cutV
  by_cases he : c = l
  · rw [if_pos he]
    have : h - l = 0 := by omega
    rw [this, show c - l = 0 from by omega]; exact .slE _ _ _ hz
  · rw [if_neg he]
    have h4 := hA
    obtain ⟨_, _, _, _, hs, _⟩ := h4
    refine .slO _ _ _ (hA.plus _) ?_ (by omega) hz
    show (a'.add (l * size)).off + (c - l) * size ≤ lc.n
    rw [add_plain hs]
    show a'.off + l * size + (c - l) * size ≤ lc.n
    have : l * size + (c - l) * size = c * size := by rw [← Nat.add_mul]; congr 1; omega
    omega

theorem cutPart_VR {a a' : Addr} {lc : Loc} (hA : AR σ a a' lc) {size l h c r : Nat} {v : Value} (hv : cutPart size (some a) l h r = some v) (hlh : l ≤ h) (hh : h ≤ r) (hn : r ≤ c) (hc : a'.off + c * size ≤ lc.n) (hz : size ≤ 1000) :
    VR σ v (cutV size (some a') l h c) := by
  unfold cutPart at hv
  cases hb : (Nat.blt h r && Nat.ble size 1000) with
  | false => rw [hb, cond_false] at hv; exact cutOpen_VR hA hv hlh hh hn hc hz
  | true =>
    rw [hb, cond_true] at hv
    simp only [Bool.and_eq_true] at hb
    have hlt : h < r := Nat.le_of_ble_eq_true hb.1
    simp only [cutRoom, Option.some.injEq] at hv
    subst hv
    unfold cutV
    rw [if_neg (by omega)]
    have h4 := hA
    obtain ⟨_, _, _, _, hs, _⟩ := h4
    refine .slR _ _ _ _ (hA.plus _) ?_ (by omega) (by omega) hz
    show (a'.add (l * size)).off + (c - l) * size ≤ lc.n
    rw [add_plain hs]
    show a'.off + l * size + (c - l) * size ≤ lc.n
    have : l * size + (c - l) * size = c * size := by rw [← Nat.add_mul]; congr 1; omega
    omega

theorem capOf_open (a : Addr) {z : Nat} (hz : z ≤ 1000) : capOf (some a) (2 * z) = .open_ z := by
  have e1 : (2 * z) % 2 = 0 := by omega
  have e2 : (2 * z) / 2 = z := by omega
  have e3 : Nat.ble z 1000 = true := Nat.ble_eq_true_of_le hz
  simp only [capOf, e1, e2, e3]
  rfl

theorem capOf_room (a : Addr) {z r : Nat} (hz : z ≤ 1000) : capOf (some a) (roomCode z r) = .room z r := by
  have e1 : (roomCode z r) % 2 = 0 := by unfold roomCode; omega
  have e2 : (roomCode z r) / 2 = z + 1001 * (r + 1) := by unfold roomCode; omega
  have e3 : Nat.ble (z + 1001 * (r + 1)) 1000 = false := by
    cases hb : Nat.ble (z + 1001 * (r + 1)) 1000 with
    | false => rfl
    | true => have := Nat.le_of_ble_eq_true hb; omega
  have e4 : (z + 1001 * (r + 1)) % 1001 = z := by omega
  have e5 : (z + 1001 * (r + 1)) / 1001 - 1 = r := by omega
  simp only [capOf, e1, e2, e3, e4, e5]
  rfl

theorem capOf_known (a : Addr) (c : Nat) : capOf (some a) (2 * c + 1) = .known c := by
  have e1 : (2 * c + 1) % 2 = 1 := by omega
  have e2 : (2 * c + 1) / 2 = c := by omega
  simp only [capOf, e1, e2]
  rfl

theorem cutV_some (size : Nat) (a : Addr) (l h m : Nat) : cutV size (some a) l h m = .slice (some (if m = l then a else a.add (l * size))) (h - l) (m - l) := by
  unfold cutV; split <;> rfl

theorem sliceA_sound {size : Nat} {base : Option Addr} {len code : Nat} {s' : Value} (hs : VR σ (.slice base len code) s') {lo hi mx lo' hi' mx' : Option Value} (h1 : VO σ lo lo') (h2 : VO σ hi hi') (h3 : VO σ mx mx')
    {v : Value} (hv : sliceA size base len (capOf base code) lo hi mx = some v) :
    ∃ base' cap' l hh m, s' = .slice base' len cap' ∧ (∀ w, (Instr.sliceBounds true len cap' lo' hi' mx').run P w = .ok (l, hh, m) w) ∧ VR σ v (cutV size base' l hh m) := by
  unfold sliceA at hv
  split at hv
  · rename_i l hh hl hh'
    cases hb : (mx.isSome && hi.isNone) with
    | true => rw [hb] at hv; cases hv
    | false =>
      rw [hb, cond_false] at hv
      rcases hs.slice_inv with ⟨rfl, rfl⟩ | ⟨a, rfl, a', c', rfl, hcase⟩
      · -- nil
        simp only [capOf] at hv
        unfold sliceTo at hv
        cases mx with
        | none =>
          obtain ⟨hc, hv⟩ := bif_some hv
          simp only [Bool.and_eq_true] at hc
          have q1 := Nat.le_of_ble_eq_true hc.1
          have q2 := Nat.le_of_ble_eq_true hc.2
          refine ⟨none, code, l, hh, code, rfl, fun w => (run_bounds h1 h2 h3 hl hh' q2 true code).1 rfl q1, ?_⟩
          simp only [cutKnown, Option.some.injEq] at hv; subst hv
          unfold cutV; split <;> exact .sl0 _ _
        | some mv =>
          simp only at hv
          split at hv
          · rename_i m hm
            obtain ⟨hc, hv⟩ := bif_some hv
            simp only [Bool.and_eq_true] at hc
            have q1 := Nat.le_of_ble_eq_true hc.1.1
            have q3 := Nat.le_of_ble_eq_true hc.1.2
            have q2 := Nat.le_of_ble_eq_true hc.2
            refine ⟨none, code, l, hh, m, rfl, fun w => (run_bounds h1 h2 h3 hl hh' q2 true code).2 mv m rfl hm (fun he => by subst he; simp at hb) q1 q3, ?_⟩
            simp only [cutKnown, Option.some.injEq] at hv; subst hv
            unfold cutV; split <;> exact .sl0 _ _
          · cases hv
      · -- a row
        rcases hcase with ⟨lc, hA, rfl | ⟨z, rfl, hz, hn, hz1⟩ | ⟨z, r, rfl, hz, hn, hr, hz1⟩⟩ | ⟨rfl, rfl, z, rfl, hz1⟩
        · have hk : capOf (some a) (2 * c' + 1) = .known c' := by
            have e1 : (2 * c' + 1) % 2 = 1 := by omega
            have e2 : (2 * c' + 1) / 2 = c' := by omega
            simp [capOf, e1, e2]
          rw [hk] at hv
          unfold sliceTo at hv
          cases mx with
          | none =>
            obtain ⟨hc, hv⟩ := bif_some hv
            simp only [Bool.and_eq_true] at hc
            have q1 := Nat.le_of_ble_eq_true hc.1
            have q2 := Nat.le_of_ble_eq_true hc.2
            exact ⟨_, c', l, hh, c', rfl, fun w => (run_bounds h1 h2 h3 hl hh' q2 true c').1 rfl q1, cutKnown_VR hA hv⟩
          | some mv =>
            simp only at hv
            split at hv
            · rename_i m hm
              obtain ⟨hc, hv⟩ := bif_some hv
              simp only [Bool.and_eq_true] at hc
              have q1 := Nat.le_of_ble_eq_true hc.1.1
              have q3 := Nat.le_of_ble_eq_true hc.1.2
              have q2 := Nat.le_of_ble_eq_true hc.2
              exact ⟨_, c', l, hh, m, rfl, fun w => (run_bounds h1 h2 h3 hl hh' q2 true c').2 mv m rfl hm (fun he => by subst he; simp at hb) q1 q3, cutKnown_VR hA hv⟩
            · cases hv
        · have hk : capOf (some a) (2 * z) = .open_ z := capOf_open _ hz1
          rw [hk] at hv
          unfold sliceTo at hv
          cases mx with
          | none =>
            obtain ⟨hc, hv⟩ := bif_some hv
            simp only [Bool.and_eq_true] at hc
            have q0 := Nat.eq_of_beq_eq_true hc.1.1
            have q1 := Nat.le_of_ble_eq_true hc.1.2
            have q2 := Nat.le_of_ble_eq_true hc.2
            subst q0
            exact ⟨_, c', l, hh, c', rfl, fun w => (run_bounds h1 h2 h3 hl hh' q2 true c').1 rfl (by omega), cutPart_VR hA hv q2 q1 hn hz hz1⟩
          | some mv =>
            simp only at hv
            split at hv
            · rename_i m hm
              obtain ⟨hc, hv⟩ := bif_some hv
              simp only [Bool.and_eq_true] at hc
              have q0 := Nat.eq_of_beq_eq_true hc.1.1.1
              have q1 := Nat.le_of_ble_eq_true hc.1.1.2
              have q3 := Nat.le_of_ble_eq_true hc.1.2
              have q2 := Nat.le_of_ble_eq_true hc.2
              refine ⟨_, c', l, hh, m, rfl, fun w => (run_bounds h1 h2 h3 hl hh' q2 true c').2 mv m rfl hm (fun he => by subst he; simp at hb) (by omega) q3, ?_⟩
              unfold cutOpenMax at hv
              cases hb0 : Nat.beq len 0 with
              | true =>
                have := Nat.eq_of_beq_eq_true hb0
                rw [hb0, cond_true] at hv
                simp only [cutOpen, Option.some.injEq] at hv; subst hv
                obtain rfl : m = 0 := by omega
                obtain rfl : hh = 0 := by omega
                obtain rfl : l = 0 := by omega
                exact .slE _ _ _ (by omega)
              | false => rw [hb0, cond_false] at hv; exact cutKnown_VR hA hv
            · cases hv
        · have hk : capOf (some a) (roomCode z r) = .room z r := capOf_room _ hz1
          rw [hk] at hv
          unfold sliceTo at hv
          cases mx with
          | none =>
            obtain ⟨hc, hv⟩ := bif_some hv
            simp only [Bool.and_eq_true] at hc
            have q0 := Nat.eq_of_beq_eq_true hc.1.1
            have q1 := Nat.le_of_ble_eq_true hc.1.2
            have q2 := Nat.le_of_ble_eq_true hc.2
            subst q0
            exact ⟨_, c', l, hh, c', rfl, fun w => (run_bounds h1 h2 h3 hl hh' q2 true c').1 rfl (by omega), cutPart_VR hA hv q2 q1 hr hz hz1⟩
          | some mv =>
            simp only at hv
            split at hv
            · rename_i m hm
              obtain ⟨hc, hv⟩ := bif_some hv
              simp only [Bool.and_eq_true] at hc
              have q1 := Nat.le_of_ble_eq_true hc.1.1.2
              have q3 := Nat.le_of_ble_eq_true hc.1.2
              have q2 := Nat.le_of_ble_eq_true hc.2
              exact ⟨_, c', l, hh, m, rfl, fun w => (run_bounds h1 h2 h3 hl hh' q2 true c').2 mv m rfl hm (fun he => by subst he; simp at hb) (by omega) q3, cutKnown_VR hA hv⟩
            · cases hv
        · have hk : capOf (some a) (2 * z) = .open_ z := capOf_open _ hz1
          rw [hk] at hv
          unfold sliceTo at hv
          cases mx with
          | none =>
            obtain ⟨hc, hv⟩ := bif_some hv
            simp only [Bool.and_eq_true] at hc
            have q1 := Nat.le_of_ble_eq_true hc.1.2
            have q2 := Nat.le_of_ble_eq_true hc.2
            refine ⟨_, 0, l, hh, 0, rfl, fun w => (run_bounds h1 h2 h3 hl hh' q2 true 0).1 rfl (by omega), ?_⟩
            have q0 := Nat.eq_of_beq_eq_true hc.1.1
            obtain rfl : hh = 0 := by omega
            obtain rfl : l = 0 := by omega
            have hb2 : (Nat.blt 0 0 && Nat.ble size 1000) = false := by simp [Nat.blt]
            simp only [cutPart, hb2, cond_false, cutOpen, Option.some.injEq] at hv; subst hv
            exact .slE _ _ _ (by omega)
          | some mv =>
            simp only at hv
            split at hv
            · rename_i m hm
              obtain ⟨hc, hv⟩ := bif_some hv
              simp only [Bool.and_eq_true] at hc
              have q0 := Nat.eq_of_beq_eq_true hc.1.1.1
              have q1 := Nat.le_of_ble_eq_true hc.1.1.2
              have q3 := Nat.le_of_ble_eq_true hc.1.2
              have q2 := Nat.le_of_ble_eq_true hc.2
              refine ⟨_, 0, l, hh, m, rfl, fun w => (run_bounds h1 h2 h3 hl hh' q2 true 0).2 mv m rfl hm (fun he => by subst he; simp at hb) (by omega) q3, ?_⟩
              simp only [cutOpenMax, Nat.beq_refl, cond_true, cutOpen, Option.some.injEq] at hv; subst hv
              obtain rfl : m = 0 := by omega
              obtain rfl : hh = 0 := by omega
              obtain rfl : l = 0 := by omega
              exact .slE _ _ _ (by omega)
            · cases hv
  · cases hv

theorem ok_slS (h : HR P σ N H w) {t e : TypeId} {x : Operand} {lo hi mx : Option Operand} (hop : o.op = .slice t x lo hi mx) (hd : P.underlying t = some (.slice e)) (hi' : ∃ i, P.info? e = some i)
    (hx : VR σ (ρ x) (ρ' x)) (h1 : ∀ y, lo = some y → VR σ (ρ y) (ρ' y)) (h2 : ∀ y, hi = some y → VR σ (ρ y) (ρ' y)) (h3 : ∀ y, mx = some y → VR σ (ρ y) (ρ' y)) {v : Value} {H' : Heap}
    (hv : oSlS (ρ x) (sizeT P e) (lo.map ρ) (hi.map ρ) (mx.map ρ) H = .val v H') : OpOK P σ N H w (execOp ρ' o) v H' := by
  obtain ⟨i, hi'⟩ := hi'
  unfold oSlS at hv
  split at hv
  · rename_i base len cap he
    obtain ⟨hr, rfl⟩ := asVal_val hv
    rw [he] at hx
    obtain ⟨base', cap', l, hh, m, hs', hrun, hvr⟩ := sliceA_sound (P := P) hx (VO.map h1) (VO.map h2) (VO.map h3) hr
    refine OpOK.still h (v' := cutV (sizeT P e) base' l hh m) ?_ hvr
    have e1 := run_underlying (w := w) hd
    have e2 := run_sizeOf (w := w) hi'
    have e3 := hrun w
    simp [execOp, hop, Instr.sliceAt, Instr.slice, e1, hs', e3, e2, cutV, sizeT_of hi']
  · cases hv

theorem ok_slA (h : HR P σ N H w) {t e : TypeId} {x : Operand} {n : Nat} {lo hi mx : Option Operand} (hop : o.op = .slice t x lo hi mx) (hd : P.underlying t = some (.array n e)) (hi' : ∃ i, P.info? e = some i)
    (hx : VR σ (ρ x) (ρ' x)) (h1 : ∀ y, lo = some y → VR σ (ρ y) (ρ' y)) (h2 : ∀ y, hi = some y → VR σ (ρ y) (ρ' y)) (h3 : ∀ y, mx = some y → VR σ (ρ y) (ρ' y)) {v : Value} {H' : Heap}
    (hv : oSlA (ρ x) n (sizeT P e) (lo.map ρ) (hi.map ρ) (mx.map ρ) H = .val v H') : OpOK P σ N H w (execOp ρ' o) v H' := by
  obtain ⟨i, hi'⟩ := hi'
  unfold oSlA at hv
  split at hv
  · rename_i a he
    obtain ⟨hr, rfl⟩ := asVal_val hv
    rw [he] at hx
    obtain ⟨a', lc, hx', hA⟩ := hx.ptr_inv
    unfold sliceA at hr
    split at hr
    · rename_i l hh hl hh'
      cases hb : ((mx.map ρ).isSome && (hi.map ρ).isNone) with
      | true => rw [hb] at hr; cases hr
      | false =>
        rw [hb, cond_false] at hr
        have e1 := run_underlying (w := w) hd
        have e2 := run_sizeOf (w := w) hi'
        unfold sliceTo at hr
        cases hmx : mx.map ρ with
        | none =>
          rw [hmx] at hr
          obtain ⟨hc, hr⟩ := bif_some hr
          simp only [Bool.and_eq_true] at hc
          have q1 := Nat.le_of_ble_eq_true hc.1
          have q2 := Nat.le_of_ble_eq_true hc.2
          have e3 := (run_bounds (P := P) (w := w) (VO.map h1) (VO.map h2) (VO.map h3) hl hh' q2 false n).1 hmx q1
          refine OpOK.still h (v' := cutV (sizeT P e) (some a') l hh n) ?_ (cutKnown_VR hA hr)
          rw [cutV_some]
          simp [execOp, hop, Instr.sliceAt, Instr.sureAddr, e1, hx', e3, e2, sizeT_of hi']
        | some mv =>
          rw [hmx] at hr
          simp only at hr
          split at hr
          · rename_i m hm
            obtain ⟨hc, hr⟩ := bif_some hr
            simp only [Bool.and_eq_true] at hc
            have q1 := Nat.le_of_ble_eq_true hc.1.1
            have q3 := Nat.le_of_ble_eq_true hc.1.2
            have q2 := Nat.le_of_ble_eq_true hc.2
            have e3 := (run_bounds (P := P) (w := w) (VO.map h1) (VO.map h2) (VO.map h3) hl hh' q2 false n).2 mv m hmx hm (fun he => by rw [he, hmx] at hb; simp at hb) q1 q3
            refine OpOK.still h (v' := cutV (sizeT P e) (some a') l hh m) ?_ (cutKnown_VR hA hr)
            rw [cutV_some]
            simp [execOp, hop, Instr.sliceAt, Instr.sureAddr, e1, hx', e3, e2, sizeT_of hi']
          · cases hr
    · cases hr
  · cases hv


/-! ### Values of several cells -/

theorem VL.set {l l' : List Value} (h : VL σ l l') {v v' : Value} (hv : VR σ v v') : ∀ i, VL σ (l.set i v) (l'.set i v') := by
  induction h with
  | nil => intro i; exact .nil
  | cons h k ih =>
    intro i
    cases i with
    | zero => exact .cons hv k
    | succ i => exact .cons h (ih i)

theorem foldl_set {l l' : List Value} (h : VL σ l l') (off : Nat) : ∀ (k : Nat) {x x' : Array Value}, VL σ x.toList x'.toList →
    VL σ ((l.zipIdx k).foldl (fun cs (p : Value × Nat) => cs.setIfInBounds (off + p.2) p.1) x).toList ((l'.zipIdx k).foldl (fun cs (p : Value × Nat) => cs.setIfInBounds (off + p.2) p.1) x').toList := by
  induction h with
  | nil => intro k x x' hx; exact hx
  | cons h _ ih =>
    intro k x x' hx
    simp only [List.zipIdx_cons, List.foldl_cons]
    refine ih (k + 1) ?_
    simp only [Array.toList_setIfInBounds]
    exact hx.set h _

theorem foldl_arr (v : Array Value) (off : Nat) (x : Array Value) :
    v.zipIdx.foldl (fun cs (c, j) => cs.setIfInBounds (off + j) c) x = (v.toList.zipIdx 0).foldl (fun cs (p : Value × Nat) => cs.setIfInBounds (off + p.2) p.1) x := by
  rw [← Array.foldl_toList]
  simp

theorem VA.size {x x' : Array Value} (h : VL σ x.toList x'.toList) : x.size = x'.size := by simpa using h.length

inductive PL (σ : Ren) : List (Nat × Value) → List (Nat × Value) → Prop where
  | nil : PL σ [] []
  | cons {i : Nat} {v v' : Value} {l l' : List (Nat × Value)} (h : VR σ v v') (k : PL σ l l') : PL σ ((i, v) :: l) ((i, v') :: l')

theorem PL.map_ρ : ∀ {ps : List (Nat × Operand)}, (∀ p ∈ ps, VR σ (ρ p.2) (ρ' p.2)) → PL σ (ps.map fun p => (p.1, ρ p.2)) (ps.map fun p => (p.1, ρ' p.2))
  | [], _ => .nil
  | p :: ps, h => .cons (h p (by simp)) (PL.map_ρ (fun q hq => h q (by simp [hq])))

theorem fill_rel {place : Nat → Option (Nat × Nat)} {ps ps' : List (Nat × Value)} (hp : PL σ ps ps') : ∀ {x x' y : Array Value}, VL σ x.toList x'.toList → Instr.fill place x ps = some y →
    ∃ y', Instr.fill place x' ps' = some y' ∧ VL σ y.toList y'.toList := by
  induction hp with
  | nil => intro x x' y hx hy; simp only [Instr.fill, Option.some.injEq] at hy; subst hy; exact ⟨x', rfl, hx⟩
  | cons h k ih =>
    rename_i i v v' l l'
    intro x x' y hx hy
    have hc := h.cells
    have h1 := VA.size hc
    have h2 := VA.size hx
    simp only [Instr.fill] at hy ⊢
    cases hpl : place i with
    | none => rw [hpl] at hy; cases hy
    | some q =>
      obtain ⟨off, size⟩ := q
      rw [hpl] at hy
      simp only at hy ⊢
      split at hy
      · cases hy
      · rename_i hne
        rw [if_neg (by rw [← h1, ← h2]; exact hne)]
        refine ih ?_ hy
        rw [foldl_arr, foldl_arr]
        exact foldl_set hc off 0 hx

theorem VL.extract {x x' : Array Value} (h : VL σ x.toList x'.toList) (a b : Nat) : VL σ (x.extract a b).toList (x'.extract a b).toList := by
  have hs := VA.size h
  refine VL.of_get _ _ (by simp [hs]) (fun i v v' h1 h2 => ?_)
  simp only [Array.getElem?_toList, Array.getElem?_extract] at h1 h2
  split at h1
  · split at h2
    · obtain ⟨u, hu, hr⟩ := h.get _ _ (by simpa using h1)
      have : x'[a + i]? = some u := by simpa using hu
      rw [h2] at this; cases this; exact hr
    · cases h2
  · cases h1

theorem VR.agg_inv {x : Array Value} {v' : Value} (h : VR σ (.agg x) v') : ∃ x', v' = .agg x' ∧ VL σ x.toList x'.toList := by
  cases h with
  | agg hs hx => exact ⟨_, rfl, VL.of_array hs hx⟩

theorem partA_sound {t : TypeId} {d : TypeDesc} (hd : P.underlying t = some d) {cs cs' : Array Value} (hc : VL σ cs.toList cs'.toList) {off : Nat} {n : Option Nat}
    (hn : n = bif isAggD d then some (sizeT P t) else none) {v : Value} (hv : partA cs off n = some v) : ∃ v', (part t cs' off).run P w = .ok v' w ∧ VR σ v v' := by
  have e1 := run_isAgg (w := w) hd
  obtain ⟨i, hi⟩ := info_of hd
  have e2 := run_sizeOf (w := w) hi
  cases hag : isAggD d with
  | true =>
    rw [hag, cond_true] at hn; subst hn
    simp only [partA, Option.some.injEq] at hv; subst hv
    rw [hag] at e1
    exact ⟨_, by simp [part, e1, e2]; rfl, by rw [sizeT_of hi]; exact VR.agg_list (hc.extract _ _)⟩
  | false =>
    rw [hag, cond_false] at hn; subst hn
    simp only [partA] at hv
    obtain ⟨u, hu, hr⟩ := hc.get off v (by simpa using hv)
    have hu' : cs'[off]? = some u := by simpa using hu
    rw [hag] at e1
    exact ⟨u, by simp [part, e1, hu'], hr⟩

theorem ok_fld (h : HR P σ N H w) {t : TypeId} {x : Operand} {k : Nat} {fs : Array Field} {f : Field} {d : TypeDesc} (hop : o.op = .field t x k) (hd : P.underlying t = some (.struct fs)) (hf : fs[k]? = some f)
    (hd2 : P.underlying f.type = some d) (hx : VR σ (ρ x) (ρ' x)) {v : Value} {H' : Heap} (hv : oFld (ρ x) f.offset (bif isAggD d then some (sizeT P f.type) else none) H = .val v H') : OpOK P σ N H w (execOp ρ' o) v H' := by
  unfold oFld at hv
  split at hv
  · rename_i cs he
    obtain ⟨hr, rfl⟩ := asVal_val hv
    rw [he] at hx
    obtain ⟨cs', hx', hc⟩ := hx.agg_inv
    obtain ⟨v', hrun, hvr⟩ := partA_sound (w := w) hd2 hc rfl hr
    have e1 := run_underlying (w := w) hd
    exact OpOK.still h (v' := v') (by simp [execOp, hop, Instr.field, e1, hf, hx', asAgg, hrun]) hvr
  · cases hv

theorem ok_idx (h : HR P σ N H w) {t e : TypeId} {x ix : Operand} {n : Nat} {d : TypeDesc} (hop : o.op = .index t x ix) (hd : P.underlying t = some (.array n e)) (hd2 : P.underlying e = some d)
    (hx : VR σ (ρ x) (ρ' x)) (hix : VR σ (ρ ix) (ρ' ix)) {v : Value} {H' : Heap} (hv : oIdx (ρ x) (ρ ix) n (sizeT P e) (isAggD d) H = .val v H') : OpOK P σ N H w (execOp ρ' o) v H' := by
  unfold oIdx at hv
  split at hv
  · rename_i j cs hj he
    rw [he] at hx
    obtain ⟨cs', hx', hc⟩ := hx.agg_inv
    obtain ⟨k, _, hix'⟩ := hix.natOf_ hj
    cases hb : Nat.blt j n with
    | false => rw [hb] at hv; cases hv
    | true =>
      rw [hb, cond_true] at hv
      have hlt : j < n := Nat.le_of_ble_eq_true hb
      obtain ⟨hr, rfl⟩ := asVal_val hv
      obtain ⟨v', hrun, hvr⟩ := partA_sound (w := w) hd2 hc rfl hr
      have e1 := run_underlying (w := w) hd
      obtain ⟨i, hi⟩ := info_of hd2
      have e2 := run_sizeOf (w := w) hi
      rw [sizeT_of hi] at hrun
      exact OpOK.still h (v' := v') (by simp [execOp, hop, Instr.index, asIntOf, e1, e2, hx', hix', hlt, hrun]) hvr
  · cases hv

theorem placesT_run {fs : List Field} : ∀ {pl : List (Nat × Nat)}, placesT P fs = some pl → (fs.mapM fun (f : Field) => (do pure (f.offset, ← sizeOf f.type) : Sem (Nat × Nat))).run P w = .ok pl w := by
  induction fs with
  | nil => intro pl h; simp only [placesT, Option.some.injEq] at h; subst h; rfl
  | cons f fs ih =>
    intro pl h
    simp only [placesT] at h
    split at h
    · rename_i i r hi hr
      cases h
      have e1 := run_sizeOf (w := w) hi
      have e2 := ih hr
      simp only [List.mapM_cons, Sem.run_bind, e1, Result.andThen_ok, Sem.run_pure, e2]
    · cases h

theorem ok_bldT (h : HR P σ N H w) {t : TypeId} {parts : Array (Nat × Operand)} {fs : Array Field} {z : List Value} {pl : List (Nat × Nat)} (hop : o.op = .build t parts) (hd : P.underlying t = some (.struct fs))
    (hz : zeroT P t = some z) (hpl : placesT P fs.toList = some pl) (hps : ∀ p ∈ parts.toList, VR σ (ρ p.2) (ρ' p.2)) {v : Value} {H' : Heap}
    (hv : oBld (Instr.fill (fun i => pl[i]?) z.toArray (parts.toList.map fun p => (p.1, ρ p.2))) H = .val v H') : OpOK P σ N H w (execOp ρ' o) v H' := by
  obtain ⟨i, zv, hi, hzv, rfl, hp, hs⟩ := zeroT_of hz
  unfold oBld at hv
  split at hv
  · rename_i cs hfill
    cases hv
    obtain ⟨y', hy', hyy⟩ := fill_rel (σ := σ) (PL.map_ρ hps) (x' := zv.cells.toList.toArray) (VL.refl_plain (by simpa using hp)) hfill
    have e1 := run_underlying (w := w) hd
    have e2 := run_zeroValue (w := w) hi hzv
    have e3 := placesT_run (w := w) hpl
    have e4 : (fs.mapM fun (f : Field) => (do pure (f.offset, ← sizeOf f.type) : Sem (Nat × Nat))).run P w = .ok pl.toArray w := by
      rw [Array.mapM_eq_mapM_toList]; simp only [Sem.run_map, e3, Result.andThen_ok]
    refine OpOK.still h (v' := .agg y') ?_ (VR.agg_list hyy)
    simp only [Array.toArray_toList] at hy'
    simp only [execOp, hop, Instr.build, Sem.run_bind, e2, Result.andThen_ok, e1, e4, Sem.run_pure, Array.toList_map, List.getElem?_toArray, hy']
  · cases hv

theorem ok_bldA (h : HR P σ N H w) {t e : TypeId} {n : Nat} {parts : Array (Nat × Operand)} {z : List Value} {i : TypeInfo} (hop : o.op = .build t parts) (hd : P.underlying t = some (.array n e))
    (hz : zeroT P t = some z) (hi : P.info? e = some i) (hps : ∀ p ∈ parts.toList, VR σ (ρ p.2) (ρ' p.2)) {v : Value} {H' : Heap}
    (hv : oBld (Instr.fill (fun j => some (j * i.size, i.size)) z.toArray (parts.toList.map fun p => (p.1, ρ p.2))) H = .val v H') : OpOK P σ N H w (execOp ρ' o) v H' := by
  obtain ⟨i2, zv, hi2, hzv, rfl, hp, hs⟩ := zeroT_of hz
  unfold oBld at hv
  split at hv
  · rename_i cs hfill
    cases hv
    obtain ⟨y', hy', hyy⟩ := fill_rel (σ := σ) (PL.map_ρ hps) (x' := zv.cells.toList.toArray) (VL.refl_plain (by simpa using hp)) hfill
    have e1 := run_underlying (w := w) hd
    have e2 := run_zeroValue (w := w) hi2 hzv
    have e3 := run_sizeOf (w := w) hi
    refine OpOK.still h (v' := .agg y') ?_ (VR.agg_list hyy)
    simp only [Array.toArray_toList] at hy'
    simp only [execOp, hop, Instr.build, Sem.run_bind, e2, Result.andThen_ok, e1, e3, Sem.run_pure, Array.toList_map, hy']
  · cases hv

end
end Go.Abs
