/- Arguments that are structs of one list of lists of ints. -/
import Derived.Test.YtmgmkglmjmaipaaDoorLiftR
namespace Go.Abs
set_option linter.unusedSectionVars false
variable [Globs]
open Go Go.ChangeShapes Go.WideShapes Go.ChangeAt Go.RowKit
set_option linter.unusedVariables false
section
variable {P : Program} {w : World} {Hh : Type} {enc : TypeId × Value → Hh}
theorem Inp.boxed {σ : Ren} {H : Heap} {M : HL} {n : Nat} (h : Inp P σ w H M n) {t i ts e : TypeId} {f1 : Field} {r : Reach} {b0 : Nat} {v' : Value} {d : DataW Hh} {ps : List MemPlace} (ht : P.underlying t = some (.struct #[f1]))
    (hf1 : f1.type = ts ∧ f1.offset = 0) (hi : P.underlying i = some (.int .i64)) (hts : P.underlying ts = some (.slice e)) (he : P.underlying e = some (.slice i)) (ci : P.cellsOf i = 1) (ce : P.cellsOf e = 1) (cs1 : P.cellsOf ts = 1) (ct : P.cellsOf t = 1)
    (hval : Value.okWide P w r b0 t v') (hd : DataW.Trod enc P w 0 (fun _ => true) true t v' d ps) :
    ∃ (τ : Ren) (H' : Heap) (M' : HL) (n' : Nat) (v : Value) (fs : List (List Int)), σ.le τ ∧ Inp P τ w H' M' n' ∧ (∀ p ∈ M, p ∈ M') ∧ VR τ (.agg #[v]) v' ∧ RowsI M' v fs := by
  unfold Value.okWide at hval
  rw [ht] at hval
  obtain ⟨cs, rfl, _, _⟩ := hval
  obtain ⟨fuel, hf⟩ := hd
  obtain ⟨xs, m, rfl, hx, hl, hxl, hget⟩ := DataW.trod_struct ht hf
  have hcs' : (Value.agg cs).cells.toList = cs.toList := rfl
  rw [hcs'] at hl hget
  obtain ⟨l⟩ := cs
  simp only at hl hget
  have g1 := hget 0 f1 rfl
  rw [hf1.1, hf1.2, cs1] at g1
  rw [ct] at hl
  match l, hl with
  | [v1], _ =>
    have hxs2 : xs.length = 1 := hxl
    match xs, hxs2 with
    | [y1], _ =>
      simp only [List.getElem?_cons_zero, List.drop_zero, List.take_succ_cons, List.take_zero] at g1
      obtain ⟨τ, H', M', n', v, fs, q1, q2, q3, q4, q5⟩ := h.rows hts he hi ce ci g1
      exact ⟨τ, H', M', n', v, fs, q1, q2, q3, .agg_list (.cons q4 .nil), q5⟩
end
end Go.Abs
