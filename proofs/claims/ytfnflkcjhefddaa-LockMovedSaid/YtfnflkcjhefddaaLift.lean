/- From what a call comes to in the evaluator to what the rows say: arguments that name no memory are opened, and read again. -/
import Derived.Test.YtfnflkcjhefddaaSym5
import Derived.WalkKit
import Derived.ProofKit
import Derived.OpenShut
namespace Go.Abs
set_option linter.unusedSectionVars false
variable [Globs]
open Go Go.ChangeShapes Go.WideShapes Go.ChangeAt Go.RowKit
set_option linter.unusedVariables false
set_option linter.unusedSimpArgs false

/-- A call whose arguments name no memory. -/
theorem calls_of_FS {C : CW} (hC : CtxOK C.c) (hw : ∀ H, Said C.c (.call C.w [] H) (.val (.bool true) H)) {f : FuncId} {args : List Value} (hp : args.all plainV = true) (h : FS C f args noHeap (fun v _ => v = .bool true)) (w : World) (hG : GlobIn w.heap.size w := by (intro _ _ h; cases h)) :
    Calls C.c.P f args.toArray w fun e w' => e = .returned (.bool true) ∧ Grown w w' := by
  obtain ⟨v, H', ⟨n, hn⟩, rfl⟩ := h
  have hs := runW_sound hC hw n _ _ hn
  have hv : VL noRen args args.toArray.toList := by
    have : ∀ (l : List Value), l.all plainV = true → VL noRen l l := by
      intro l
      induction l with
      | nil => intro _; exact .nil
      | cons a l ih =>
        intro hl
        simp only [List.all_cons, Bool.and_eq_true] at hl
        exact .cons (VR.refl_plain hl.1) (ih hl.2)
    simpa using this args hp
  intro cs
  obtain ⟨τ, w', v', fr, q1, q2, q3, q4, q5, q6, q7⟩ := hs.2 noRen w.heap.size w args.toArray (noHeap_HR hG) hv cs
  cases q3
  exact ⟨.returned (.bool true), w', fr, ⟨rfl, grown_of_fr q4⟩, q5, q6, q7⟩

section
variable {H : Type} {enc : TypeId × Value → H} {P : Program} {w : World} {base : Nat} {spare : Nat → Bool} {held : Bool}

theorem trod_arrK {t e n fuel : Nat} {k : IntKind} {cs : List Value} {x : DataW H × List MemPlace} (ht : P.underlying t = some (.array n e)) (he : P.underlying e = some (.int k)) (h1 : P.cellsOf e = 1) (hc : P.cellsOf t = n)
    (h : DataW.trod enc P w base spare held fuel t cs = some x) : ∃ xs : List Int, xs.length = n ∧ cs = xs.map (Value.int k) ∧ x.2 = [] ∧ ∀ y ∈ xs, (Lit.int k y).wf = true := by
  cases fuel with
  | zero => simp [DataW.trod] at h
  | succ m =>
    rw [DataW.trod_step] at h
    unfold DataW.trodStep at h
    rw [ht] at h
    have hl : cs.length = n := by
      by_cases hl : cs.length = P.cellsOf t
      · rw [hl, hc]
      · exfalso; split at h <;> simp_all
    have h2 : ∃ ys, ((List.range n).mapM fun i => DataW.trod enc P w base spare held m e ((cs.drop (i * P.cellsOf e)).take (P.cellsOf e))) = some ys ∧ x = (.agg (ys.map (·.1)), ys.flatMap (·.2)) := by
      split at h <;> simp_all
      obtain ⟨ys, h3, h4⟩ := h
      exact ⟨ys, h3, h4.symm⟩
    obtain ⟨ys, h3, rfl⟩ := h2
    have hget : ∀ i, i < n → ∃ a, cs[i]? = some (.int k a) ∧ (Lit.int k a).wf = true ∧ ∃ y, ys[i]? = some y ∧ y.2 = [] := by
      intro i hi
      have := mapM_some_get h3 i i (by simp [hi])
      rw [h1, Nat.mul_one] at this
      cases hy : ys[i]? with
      | none => have hlen := mapM_some_length h3; simp at hlen; rw [List.getElem?_eq_none_iff] at hy; omega
      | some y =>
        rw [hy] at this
        obtain ⟨a, e1, e2, e3⟩ := DataW.trod_int he this
        refine ⟨a, ?_, e3, y, rfl, by rw [e2]⟩
        have : ((cs.drop i).take 1)[0]? = some (.int k a) := by rw [e1]; rfl
        simpa using this
    refine ⟨cs.map (fun v => match v with | .int _ a => a | _ => 0), by simp [hl], ?_, ?_, ?_⟩
    · apply List.ext_getElem?
      intro i
      by_cases hi : i < n
      · obtain ⟨a, e1, _⟩ := hget i hi
        simp [e1]
      · rw [List.getElem?_eq_none (by omega), List.getElem?_eq_none (by simp; omega)]
    · simp only [List.flatMap_eq_nil_iff]
      intro y hy
      obtain ⟨i, hi, rfl⟩ := List.mem_iff_getElem.1 hy
      have hlen := mapM_some_length h3
      simp at hlen
      obtain ⟨_, _, _, y2, e1, e2⟩ := hget i (by omega)
      rw [List.getElem?_eq_getElem hi] at e1
      cases e1; exact e2
    · intro y hy
      obtain ⟨v, hv, rfl⟩ := List.mem_map.1 hy
      obtain ⟨i, hi, rfl⟩ := List.mem_iff_getElem.1 hv
      obtain ⟨a, e1, e2, _⟩ := hget i (by omega)
      rw [List.getElem?_eq_getElem hi] at e1
      simp only [Option.some.injEq] at e1
      rw [e1]; exact e2

theorem open_arrK {r : Reach} {b0 t e n : Nat} {k : IntKind} {v : Value} {d : DataW H} {ps : List MemPlace} (ht : P.underlying t = some (.array n e)) (he : P.underlying e = some (.int k)) (h1 : P.cellsOf e = 1) (hc : P.cellsOf t = n)
    (hval : Value.okWide P w r b0 t v) (hd : DataW.Trod enc P w base spare held t v d ps) : ∃ xs : List Int, xs.length = n ∧ v = .agg (xs.map (Value.int k)).toArray ∧ ps = [] ∧ ∀ y ∈ xs, (Lit.int k y).wf = true := by
  unfold Value.okWide at hval
  rw [ht] at hval
  obtain ⟨cs, rfl, _, _⟩ := hval
  obtain ⟨fuel, hf⟩ := hd
  obtain ⟨xs, h2, h3, h4, h5⟩ := trod_arrK ht he h1 hc hf
  refine ⟨xs, h2, ?_, h4, h5⟩
  congr 1
  apply Array.ext'
  rw [← h3]; simp [Value.cells]
theorem trodAll_stays (hl : laidOutB P = true) {W W' : World} {sp' : Nat → Bool} : ∀ {ts : List TypeId} {vs : List Value} {ds : List (DataW H)} {ps : List MemPlace}, (∀ t ∈ ts, P.readableRec t = true ∧ t < P.types.size) →
    DataW.TrodAll enc P W base (fun _ => true) true ts vs ds ps → (∀ p ∈ ps, W.sameAt W' p) → (∀ p ∈ ps, sp' p.block = true) → DataW.TrodAll enc P W' base sp' true ts vs ds ps
  | [], vs, ds, ps, _, h, _, _ => by
    obtain ⟨rfl, rfl, rfl⟩ := trodAll_nil h
    exact trodAll_mk0
  | t :: ts, vs, ds, ps, ht, h, hs, hp => by
    obtain ⟨v, vs1, d, ds1, a, b, rfl, rfl, rfl, h1, h2⟩ := trodAll_cons h
    exact trodAll_cons_mk (WideElems.Trod_stays hl (ht t (by simp)).1 (ht t (by simp)).2 h1 (fun p hp => hs p (by simp [hp])) (fun p hq => hp p (by simp [hq])))
      (trodAll_stays hl (fun t h => ht t (by simp [h])) h2 (fun p hp => hs p (by simp [hp])) (fun p hq => hp p (by simp [hq])))
theorem byte_bd {y : Int} (h : (Lit.int .u8 y).wf = true) : 0 ≤ y ∧ y ≤ 255 := by
  simp only [Lit.wf, Bool.and_eq_true, decide_eq_true_eq] at h
  have e1 : IntKind.u8.min = 0 := rfl
  have e2 : IntKind.u8.max = 255 := rfl
  omega

end
end Go.Abs
