/- Texts of the law, joined. -/
import Derived.Test.YtcfffhkabhmkmaaSym5
import Derived.WalkKit
import Derived.ProofKit
import Derived.OpenShut
import Derived.ChangeSlices
import Derived.Test.YtcfffhkabhmkmaaJ2
import Derived.Deep.Matrix
/- From what a call comes to in the evaluator to what the rows say: arguments that name no memory are opened, and read again. -/
namespace Go.Abs
set_option linter.unusedSectionVars false
variable [Globs]
open Go Go.ChangeShapes Go.WideShapes Go.ChangeAt Go.RowKit
set_option linter.unusedVariables false
set_option linter.unusedSimpArgs false
section
variable {H : Type} {enc : TypeId × Value → H} {P : Program} {w : World} {base : Nat} {spare : Nat → Bool} {held : Bool}
theorem trodAll_stays (hl : laidOutB P = true) {W W' : World} {sp' : Nat → Bool} : ∀ {ts : List TypeId} {vs : List Value} {ds : List (DataW H)} {ps : List MemPlace}, (∀ t ∈ ts, P.readableRec t = true ∧ t < P.types.size) →
    DataW.TrodAll enc P W base (fun _ => true) true ts vs ds ps → (∀ p ∈ ps, W.sameAt W' p) → (∀ p ∈ ps, sp' p.block = true) → DataW.TrodAll enc P W' base sp' true ts vs ds ps
  | [], vs, ds, ps, _, h, _, _ => by
    obtain ⟨rfl, rfl, rfl⟩ := trodAll_nil h
    exact trodAll_mk0
  | t :: ts, vs, ds, ps, ht, h, hs, hp => by
    obtain ⟨v, vs1, d, ds1, a, b, rfl, rfl, rfl, h1, h2⟩ := trodAll_cons h
    exact trodAll_cons_mk (WideElems.Trod_stays hl (ht t (by simp)).1 (ht t (by simp)).2 h1 (fun p hp => hs p (by simp [hp])) (fun p hq => hp p (by simp [hq])))
      (trodAll_stays hl (fun t h => ht t (by simp [h])) h2 (fun p hp => hs p (by simp [hp])) (fun p hq => hp p (by simp [hq])))
end
end Go.Abs

/- Arguments that lie in memory: rows that are only read. -/
namespace Go.Abs
set_option linter.unusedSectionVars false
variable [Globs]
open Go Go.ChangeShapes Go.WideShapes Go.ChangeAt Go.RowKit
set_option linter.unusedVariables false
set_option linter.unusedSimpArgs false

/-- A heap of rows that are only read. -/
structure Inp (P : Program) (σ : Ren) (w : World) (H : Heap) (M : HL) (n : Nat) : Prop where
  hr : HR P σ w.heap.size H w
  has : hasH M n H
  ro : ∀ f o, H.t.get f = some o → ∃ e vs top c, o = .cells e true vs top c

theorem Inp.noImg {P : Program} {σ : Ren} {w : World} {H : Heap} {M : HL} {n b : Nat} (h : Inp P σ w H M n) (hi : Img σ H b) : False := by
  rcases hi with ⟨f, e, vs, top, c, v, l, q1, _⟩ | ⟨f, o, q1, q2, _⟩
  · obtain ⟨e', vs', top', c', he⟩ := h.ro f _ q1; cases he
  · obtain ⟨e', vs', top', c', rfl⟩ := h.ro f _ q1; exact q2 _ _ _ _ _ rfl

theorem Inp.nil (P : Program) (w : World) (hG : GlobIn w.heap.size w := by (intro _ _ h; cases h)) : Inp P noRen w noHeap [] 0 :=
  ⟨noHeap_HR hG, hasH.nil noHeap, fun f o h => by cases h⟩

/-- One row more. -/
theorem Inp.add {P : Program} {σ : Ren} {w : World} {H : Heap} {M : HL} {n : Nat} (h : Inp P σ w H M n) {b lo : Nat} {cs : Array Value} {e' : TypeId} {fz : Nat × Nat} (hb : w.heap[b]? = some (.cells cs e' fz)) {ls : List Value}
    (hl : ∀ (i : Nat) (x : Value), ls[i]? = some x → ∃ x', cs[lo + i]? = some x' ∧ VR σ x x') (hlen : lo + ls.length ≤ cs.size) (e : TypeId) :
    ∃ τ H', σ.le τ ∧ Inp P τ w H' ((n, .inp e 0 lo ls) :: M) (n + 1) ∧ τ.row n 0 = some ⟨b, 0, cs.size⟩ := by
  have hn := h.has.next
  obtain ⟨n1, n2, n3⟩ := h.hr.next H.next (Nat.le_refl _)
  rw [hn] at n1 n2 n3
  have hle : σ.le (σ.addRow n 0 ⟨b, 0, cs.size⟩) := le_addRow (n1 0)
  have hnew : (σ.addRow n 0 ⟨b, 0, cs.size⟩).row n 0 = some ⟨b, 0, cs.size⟩ := by simp [Ren.addRow]
  have hbs : b < w.heap.size := (Array.getElem?_eq_some_iff.1 hb).1
  have hold : ∀ {f e ro vs top c v l}, H.t.get f = some (.cells e ro vs top c) → v ∈ vs → (σ.addRow n 0 ⟨b, 0, cs.size⟩).row f v.id = some l → σ.row f v.id = some l := by
    intro f e ro vs top c v l hg hv hl
    have hlt := h.hr.lt hg
    have hl' : (if f = n ∧ v.id = 0 then _ else σ.row f v.id) = some l := hl
    rw [if_neg (by omega)] at hl'; exact hl'
  have hget : ∀ g, (H.add (.cells e true [⟨0, lo, lo + ls.length⟩] 1 (Tr.putL .nil lo ls))).t.get g = if g = n then some (.cells e true [⟨0, lo, lo + ls.length⟩] 1 (Tr.putL .nil lo ls)) else H.t.get g := by
    intro g; rw [get_add, hn]
  have hro : ∀ {f e ro vs top c}, H.t.get f = some (.cells e ro vs top c) → ro = true := by
    intro f e ro vs top c hg
    obtain ⟨_, _, _, _, he⟩ := h.ro f _ hg; cases he; rfl
  refine ⟨_, H.add (.cells e true [⟨0, lo, lo + ls.length⟩] 1 (Tr.putL .nil lo ls)), hle, ⟨?_, ?_, ?_⟩, hnew⟩
  · constructor
    · intro f e2 ro vs top c hg v hv
      rw [hget] at hg
      by_cases hf : f = n
      · subst hf; rw [if_pos rfl] at hg; cases hg
        simp at hv; subst hv
        refine ⟨_, hnew, ⟨cs, e', fz, hb, rfl, (fun hc => by cases hc), ?_⟩, Nat.zero_le _, by simpa using hlen, by simp, fun _ => hbs⟩
        intro i h1 h2
        have h1' : lo ≤ i := h1
        have h2' : i < lo + ls.length := h2
        have hi : i - lo < ls.length := by omega
        obtain ⟨x', hx', hxx⟩ := hl (i - lo) _ (List.getElem?_eq_getElem hi)
        refine ⟨_, x', by rw [Tr.get_putL, if_pos (by omega)]; exact List.getElem?_eq_getElem hi, ?_, hxx.le hle⟩
        rw [← hx']; congr 1; simp only; omega
      · rw [if_neg hf] at hg
        obtain ⟨l, hl⟩ := h.hr.rows f e2 ro vs top c hg v hv
        exact ⟨l, hl.le hle⟩
    · intro f g e1 e2 ro1 ro2 vs1 vs2 t1 t2 c1 c2 h1 h2 v1 hv1 v2 hv2 l1 l2 hl1 hl2 hb2
      rw [hget] at h1 h2
      right
      constructor
      · by_cases hf : f = n
        · rw [if_pos hf] at h1; cases h1; rfl
        · rw [if_neg hf] at h1; exact hro h1
      · by_cases hg : g = n
        · rw [if_pos hg] at h2; cases h2; rfl
        · rw [if_neg hg] at h2; exact hro h2
    · intro f o hg hno
      rw [hget] at hg
      by_cases hf : f = n
      · rw [if_pos hf] at hg; cases hg; exact absurd rfl (hno _ _ _ _ _)
      · rw [if_neg hf] at hg
        obtain ⟨_, _, _, _, rfl⟩ := h.ro f _ hg; exact absurd rfl (hno _ _ _ _ _)
    · intro f g o1 o2 b' h1 m1 h2 m2 h3 h4
      rw [hget] at h1
      by_cases hf : f = n
      · rw [if_pos hf] at h1; cases h1; exact absurd rfl (m1 _ _ _ _ _)
      · rw [if_neg hf] at h1
        obtain ⟨_, _, _, _, rfl⟩ := h.ro f _ h1; exact absurd rfl (m1 _ _ _ _ _)
    · intro f hf
      have hf' : H.next + 1 ≤ f := hf
      obtain ⟨q1, q2, q3⟩ := h.hr.next f (by omega)
      refine ⟨fun u => ?_, q2, ?_⟩
      · show (if _ then _ else _) = _
        rw [if_neg (by omega)]; exact q1 u
      · rw [hget, if_neg (by omega)]; exact q3
    · intro f e2 ro vs top c hg u hu
      rw [hget] at hg
      by_cases hf : f = n
      · subst hf; rw [if_pos rfl] at hg; cases hg
        show (if _ then _ else _) = _
        rw [if_neg (by omega)]; exact n1 u
      · rw [if_neg hf] at hg
        show (if _ then _ else _) = _
        rw [if_neg (by omega)]; exact h.hr.tops _ _ _ _ _ _ hg u hu
    · exact Nat.le_refl _
    · exact h.hr.glob
  · refine h.has.add (ch := .inp e 0 lo ls) ⟨⟨lo, lo + ls.length, by simp [findVer], Nat.le_refl _, Nat.le_refl _⟩, ?_⟩
    rw [readL_iff rfl]
    intro j hj
    rw [Tr.get_putL, if_pos ⟨by omega, by omega⟩]; congr 1; omega
  · intro f o hg
    rw [hget] at hg
    by_cases hf : f = n
    · rw [if_pos hf] at hg; cases hg; exact ⟨_, _, _, _, rfl⟩
    · rw [if_neg hf] at hg; exact h.ro f o hg

theorem cell_at {w : World} {a : Addr} {v : Value} (h : w.cell? a = some v) : a.spot = none ∧ ∃ cs e fz, w.heap[a.block]? = some (.cells cs e fz) ∧ cs[a.off]? = some v := by
  unfold World.cell? at h
  split at h
  · rename_i c e fz hc
    by_cases hs : a.spot.isSome
    · rw [if_pos hs] at h; cases h
    · rw [if_neg hs] at h
      exact ⟨by simpa using hs, c, e, fz, hc, h⟩
  · cases h

theorem add_of {a : Addr} (h : a.spot = none) (i : Nat) : a.add i = ⟨a.block, a.off + i, none⟩ := by
  cases a; simp only at h; subst h; simp only [Addr.add]
  try (split <;> simp_all)

/-- A slice whose cells are known becomes a row. -/
theorem Inp.slice {P : Program} {σ : Ren} {w : World} {H : Heap} {M : HL} {n : Nat} (h : Inp P σ w H M n) {a : Addr} {len cap : Nat} {ls : List Value} (hlc : len ≤ cap) (hll : ls.length = cap)
    (hl : ∀ (i : Nat) (x : Value), ls[i]? = some x → ∃ x', w.cell? (a.add i) = some x' ∧ VR σ x x') (e : TypeId) :
    ∃ τ H' M' n' v, σ.le τ ∧ Inp P τ w H' M' n' ∧ (∀ p ∈ M, p ∈ M') ∧ VR τ v (.slice (some a) len cap) ∧ Sl M' 1 v (ls.take len) := by
  cases ls with
  | nil =>
    have : cap = 0 := by simpa using hll.symm
    subst this
    have : len = 0 := by omega
    subst this
    exact ⟨σ, H, M, n, .slice (some ⟨0, 0, none⟩) 0 (2 * 1), σ.le_refl, h, fun p hp => hp, .slE _ _ _ (by decide), by simpa using Sl.emp _⟩
  | cons x0 ls =>
    obtain ⟨x0', hx0, hv0⟩ := hl 0 x0 rfl
    have hs0 : (a.add 0).spot = none := (cell_at hx0).1
    have hsp : a.spot = none := by
      cases a; simp only [Addr.add] at hs0
      first | exact hs0 | (split at hs0 <;> simp_all)
    obtain ⟨_, cs, e', fz, hb, hc0⟩ := cell_at hx0
    rw [add_of hsp] at hb hc0
    have hcells : ∀ (i : Nat) (x : Value), (x0 :: ls)[i]? = some x → ∃ x', cs[a.off + i]? = some x' ∧ VR σ x x' := by
      intro i x hx
      obtain ⟨x', hx', hv'⟩ := hl i x hx
      obtain ⟨_, cs2, e2, fz2, hb2, hc2⟩ := cell_at hx'
      rw [add_of hsp] at hb2 hc2
      rw [hb] at hb2; cases hb2
      exact ⟨x', hc2, hv'⟩
    have hsize : a.off + (x0 :: ls).length ≤ cs.size := by
      have hlt : ls.length < (x0 :: ls).length := by simp
      obtain ⟨x', hx', _⟩ := hcells ls.length _ (List.getElem?_eq_getElem hlt)
      have := (Array.getElem?_eq_some_iff.1 hx').1
      simp only [List.length_cons]; omega
    obtain ⟨τ, H', q1, q2, q3⟩ := h.add (lo := a.off) hb hcells hsize e
    refine ⟨τ, H', _, _, .slice (some ⟨n, a.off, some 0⟩) len (2 * cap + 1), q1, q2, fun p hp => List.mem_cons_of_mem _ hp, .slK _ _ ⟨0, rfl, q3, rfl, hsp, rfl⟩, ?_⟩
    refine .row (ch := .inp e 0 a.off (x0 :: ls)) (cs := x0 :: ls) (by simp) (.inp _ _ _ _) (Nat.le_refl _) ?_ ?_ ?_ (.inr ⟨cap, rfl, hlc⟩)
    · rw [List.length_take, hll]; omega
    · rw [Nat.sub_self, List.drop_zero, List.length_take, hll, Nat.min_eq_left hlc]
    · rw [List.length_take]; omega

section
variable {Hh : Type} {enc : TypeId × Value → Hh} {P : Program} {w : World}

theorem VR.ints {σ : Ren} {k : IntKind} (n : Int) : VR σ (.int k n) (.int k n) := .int k n

/-- A list of ints. -/
theorem Inp.ints {σ : Ren} {H : Heap} {M : HL} {n : Nat} (h : Inp P σ w H M n) {t e : TypeId} {k : IntKind} {fuel : Nat} {v' : Value} {x : DataW Hh × List MemPlace} (ht : P.underlying t = some (.slice e)) (he : P.underlying e = some (.int k)) (hc : P.cellsOf e = 1)
    (hd : DataW.trod enc P w 0 (fun _ => true) true fuel t [v'] = some x) :
    ∃ (τ : Ren) (H' : Heap) (M' : HL) (n' : Nat) (v : Value) (xs : List Int), σ.le τ ∧ Inp P τ w H' M' n' ∧ (∀ p ∈ M, p ∈ M') ∧ VR τ v v' ∧ Sl M' 1 v (xs.map (Value.int k)) ∧ xs.length ≤ maxLen ∧ ∀ y ∈ xs, (Lit.int k y).wf = true := by
  rcases open_ints ht he hc hd with ⟨h1, rfl⟩ | ⟨a, len, cap, zs, h1, _, hlc, hcm, hzl, rfl, hcell, hwf⟩
  · cases h1
    exact ⟨σ, H, M, n, .slice none 0 0, [], σ.le_refl, h, fun p hp => hp, .sl0 _ _, .nil 0, by simp, by simp⟩
  · cases h1
    simp only [if_true] at hzl
    obtain ⟨τ, H', M', n', v, q1, q2, q3, q4, q5⟩ := h.slice (ls := zs.map (Value.int k)) hlc (by simpa using hzl) (fun i x hx => by
      rw [List.getElem?_map] at hx
      cases hz : zs[i]? with
      | none => rw [hz] at hx; cases hx
      | some z =>
        rw [hz] at hx; cases hx
        have hi : i < zs.length := (List.getElem?_eq_some_iff.1 hz).1
        refine ⟨_, hcell i hi, ?_⟩
        rw [show zs.getD i 0 = z by rw [List.getD_eq_getElem?_getD, hz]; rfl]
        exact .int k z) e
    refine ⟨τ, H', M', n', v, zs.take len, q1, q2, q3, q4, by rw [List.map_take]; exact q5, ?_, fun y hy => hwf y (List.mem_of_mem_take hy)⟩
    rw [List.length_take]; omega
end

section
variable {Hh : Type} {enc : TypeId × Value → Hh} {P : Program} {w : World}

/-- A list of ints, as an argument. -/
theorem Inp.intsArg {σ : Ren} {H : Heap} {M : HL} {n : Nat} (h : Inp P σ w H M n) {t e : TypeId} {k : IntKind} {r : Reach} {b0 : Nat} {v' : Value} {d : DataW Hh} {ps : List MemPlace} (ht : P.underlying t = some (.slice e)) (he : P.underlying e = some (.int k)) (hc : P.cellsOf e = 1)
    (hval : Value.okWide P w r b0 t v') (hd : DataW.Trod enc P w 0 (fun _ => true) true t v' d ps) :
    ∃ (τ : Ren) (H' : Heap) (M' : HL) (n' : Nat) (v : Value) (xs : List Int), σ.le τ ∧ Inp P τ w H' M' n' ∧ (∀ p ∈ M, p ∈ M') ∧ VR τ v v' ∧ Sl M' 1 v (xs.map (Value.int k)) ∧ xs.length ≤ maxLen ∧ ∀ y ∈ xs, (Lit.int k y).wf = true := by
  obtain ⟨a, len, cap, rfl⟩ := okWide_slice ht hval
  obtain ⟨fuel, hf⟩ := hd
  exact h.ints ht he hc (show DataW.trod enc P w 0 (fun _ => true) true fuel t [.slice a len cap] = some (d, ps) from hf)
end

/-- A call over rows that are only read. -/
theorem calls_of_FS_inp {C : CW} (hC : CtxOK C.c) (hw : ∀ H, Said C.c (.call C.w [] H) (.val (.bool true) H)) {f : FuncId} {args : List Value} {σ : Ren} {w : World} {H : Heap} {M : HL} {n : Nat} (hI : Inp C.c.P σ w H M n) {args' : Array Value} (hv : VL σ args args'.toList)
    (h : FS C f args H (fun v _ => v = .bool true)) : Calls C.c.P f args' w fun e w' => e = .returned (.bool true) ∧ Grown w w' ∧ ∀ b, b < w.heap.size → w'.heap[b]? = w.heap[b]? := by
  obtain ⟨v, H', ⟨m, hn⟩, rfl⟩ := h
  have hs := runW_sound hC hw m _ _ hn
  intro cs
  obtain ⟨τ, w', v', fr, q1, q2, q3, q4, q5, q6, q7⟩ := hs.2 σ w.heap.size w args' hI.hr hv cs
  cases q3
  have hold : ∀ b, b < w.heap.size → w'.heap[b]? = w.heap[b]? := fun b hb => q4.old b hb hI.noImg
  refine ⟨.returned (.bool true), w', fr, ⟨rfl, ?_, hold⟩, q5, q6, q7⟩
  refine ⟨⟨q4.os, q4.output, fun i hi => ?_⟩, fun a => ?_, q4.size⟩
  · rw [hold i hi]
    cases w.heap[i]? with
    | none => exact rfl
    | some o =>
      cases o <;> first
        | exact ⟨rfl, rfl, rfl, fun _ _ => rfl⟩
        | exact .inr ⟨rfl, rfl⟩
        | exact rfl
  · unfold World.frozen?
    by_cases hb : a.block < w.heap.size
    · rw [hold _ hb]
    · have e1 : w.heap[a.block]? = none := Array.getElem?_eq_none (Nat.le_of_not_lt hb)
      rw [e1]
      cases hx : w'.heap[a.block]? with
      | none => rfl
      | some o =>
        cases o with
        | cells cs e fz =>
          have := q4.new _ cs e fz (Nat.le_of_not_lt hb) hx
          subst this
          simp
        | _ => rfl

/-- What lies where it lay. -/
theorem sameAt_old {w w' : World} {p : MemPlace} (h : w'.heap[p.block]? = w.heap[p.block]?) : w.sameAt w' p := by
  cases p <;> (simp only [World.sameAt, World.cell?, MemPlace.block] at h ⊢; first | rw [h] | simp [h])

end Go.Abs

/- Arguments that are slices of slices of numbers. -/
namespace Go.Abs
set_option linter.unusedSectionVars false
variable [Globs]
open Go Go.ChangeShapes Go.WideShapes Go.ChangeAt Go.RowKit
set_option linter.unusedVariables false
set_option linter.unusedSimpArgs false

section
variable {P : Program} {w : World}

/-- Several slices, one after another. -/
theorem Inp.many {k : IntKind} {e : TypeId} (A : Nat → Option Addr) (L C : Nat → Nat) (Z : Nat → List Int) {cap : Nat}
    (hr : ∀ r, r < cap → L r ≤ C r ∧ (Z r).length = C r ∧ (A r = none → C r = 0) ∧ ∀ a', A r = some a' → ∀ c, c < C r → w.cell? (a'.add c) = some (.int k ((Z r).getD c 0)))
    {σ : Ren} {H : Heap} {M : HL} {n : Nat} (h : Inp P σ w H M n) : ∀ m, m ≤ cap →
    ∃ (τ : Ren) (H' : Heap) (M' : HL) (n' : Nat) (vs : List Value), σ.le τ ∧ Inp P τ w H' M' n' ∧ (∀ p ∈ M, p ∈ M') ∧ vs.length = m ∧ ∀ r, r < m → VR τ (vs.getD r undef) (.slice (A r) (L r) (C r)) ∧ Sl M' 1 (vs.getD r undef) (((Z r).take (L r)).map (Value.int k))
  | 0, _ => ⟨σ, H, M, n, [], σ.le_refl, h, fun p hp => hp, rfl, fun r hr => absurd hr (Nat.not_lt_zero _)⟩
  | m + 1, hm => by
    obtain ⟨τ, H', M', n', vs, q1, q2, q3, q4, q5⟩ := Inp.many (e := e) A L C Z hr h m (by omega)
    obtain ⟨r1, r2, r3, r4⟩ := hr m (by omega)
    have key : ∃ (τ2 : Ren) (H2 : Heap) (M2 : HL) (n2 : Nat) (v : Value), τ.le τ2 ∧ Inp P τ2 w H2 M2 n2 ∧ (∀ p ∈ M', p ∈ M2) ∧ VR τ2 v (.slice (A m) (L m) (C m)) ∧ Sl M2 1 v (((Z m).take (L m)).map (Value.int k)) := by
      cases hA : A m with
      | none =>
        have hc := r3 hA
        have hl : L m = 0 := by omega
        rw [hc, hl]
        exact ⟨τ, H', M', n', .slice none 0 0, τ.le_refl, q2, fun p hp => hp, .sl0 _ _, by simpa using Sl.nil 0⟩
      | some a =>
        obtain ⟨τ2, H2, M2, n2, v, p1, p2, p3, p4, p5⟩ := q2.slice (ls := (Z m).map (Value.int k)) r1 (by simpa using r2) (fun i x hx => by
          rw [List.getElem?_map] at hx
          cases hz : (Z m)[i]? with
          | none => rw [hz] at hx; cases hx
          | some z =>
            rw [hz] at hx; cases hx
            have hi : i < (Z m).length := (List.getElem?_eq_some_iff.1 hz).1
            refine ⟨_, r4 a hA i (by omega), ?_⟩
            rw [show (Z m).getD i 0 = z by rw [List.getD_eq_getElem?_getD, hz]; rfl]
            exact .int k z) e
        exact ⟨τ2, H2, M2, n2, v, p1, p2, p3, p4, by rw [List.map_take]; exact p5⟩
    obtain ⟨τ2, H2, M2, n2, v, p1, p2, p3, p4, p5⟩ := key
    refine ⟨τ2, H2, M2, n2, vs ++ [v], Ren.le_trans q1 p1, p2, fun p hp => p3 p (q3 p hp), by simp [q4], fun r hr => ?_⟩
    rcases Nat.lt_or_ge r m with h1 | h1
    · rw [getD_app_l (by omega)]
      obtain ⟨g1, g2⟩ := q5 r h1
      exact ⟨g1.le p1, g2.mono p3⟩
    · have : r = m := by omega
      subst this
      rw [← q4, getD_snoc, q4]
      exact ⟨p4, p5⟩

variable {Hh : Type} {enc : TypeId × Value → Hh}

/-- A list of lists of ints. -/
theorem Inp.rows {σ : Ren} {H : Heap} {M : HL} {n : Nat} (h : Inp P σ w H M n) {t e q : TypeId} {fuel : Nat} {v' : Value} {x : DataW Hh × List MemPlace} (ht : P.underlying t = some (.slice e)) (he : P.underlying e = some (.slice q)) (hq : P.underlying q = some (.int .i64)) (ce : P.cellsOf e = 1) (cq : P.cellsOf q = 1)
    (hd : DataW.trod enc P w 0 (fun _ => true) true fuel t [v'] = some x) :
    ∃ (τ : Ren) (H' : Heap) (M' : HL) (n' : Nat) (v : Value) (fs : List (List Int)), σ.le τ ∧ Inp P τ w H' M' n' ∧ (∀ p ∈ M, p ∈ M') ∧ VR τ v v' ∧ RowsI M' v fs := by
  rcases Go.Deep.open_int_rows ht he hq ce cq hd with ⟨h1, rfl⟩ | ⟨a, len, cap, A, L, C, Z, h1, _, hlc, hcm, rfl, hr⟩
  · cases h1
    exact ⟨σ, H, M, n, .slice none 0 0, [], σ.le_refl, h, fun p hp => hp, .sl0 _ _, [], .nil 0, rfl, fun i hi => absurd hi (Nat.not_lt_zero _)⟩
  · cases h1
    obtain ⟨τ, H1, M1, n1, vs, q1, q2, q3, q4, q5⟩ := Inp.many (e := q) A L C Z (fun r hr' => by
      obtain ⟨_, p1, p2, p3, p4, p5, p6⟩ := hr r hr'
      exact ⟨p1, p3, p5, fun a' ha => (p6 a' ha).2⟩) h cap (Nat.le_refl _)
    obtain ⟨τ2, H2, M2, n2, v, p1, p2, p3, p4, p5⟩ := q2.slice (ls := vs) hlc q4 (fun i x hx => by
      have hi : i < vs.length := (List.getElem?_eq_some_iff.1 hx).1
      refine ⟨_, (hr i (by omega)).1, ?_⟩
      have := (q5 i (by omega)).1
      rwa [List.getD_eq_getElem?_getD, hx] at this) e
    refine ⟨τ2, H2, M2, n2, v, (List.range len).map fun r => (Z r).take (L r), Ren.le_trans q1 p1, p2, fun p hp => p3 p (q3 p hp), p4, vs.take len, p5, by simp; omega, fun i hi => ?_⟩
    have hi' : i < len := by simpa using hi
    rw [getD_take hi', getD_eq hi]
    have := (q5 i (by omega)).2.mono p3
    simpa using this
end
end Go.Abs
