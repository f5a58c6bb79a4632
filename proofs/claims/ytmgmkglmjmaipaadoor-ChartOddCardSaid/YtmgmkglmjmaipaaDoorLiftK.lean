/- Arguments that are structs of numbers of two kinds. -/
import Derived.Test.YtmgmkglmjmaipaaDoorLiftF
import Derived.Test.YtmgmkglmjmaipaaDoorLiftA
namespace Go.Abs
set_option linter.unusedSectionVars false
variable [Globs]
open Go Go.ChangeShapes Go.WideShapes Go.ChangeAt Go.RowKit
set_option linter.unusedVariables false
set_option linter.unusedSimpArgs false
section
variable {H : Type} {enc : TypeId × Value → H} {P : Program} {w : World} {base : Nat} {spare : Nat → Bool} {held : Bool}
theorem open_two {k1 k2 : IntKind} {r : Reach} {b0 t n1 N : Nat} {fs : Array Field} {fs1 fs2 : List Field} {v : Value} {d : DataW H} {ps : List MemPlace} (ht : P.underlying t = some (.struct fs)) (hfs : fs.toList = fs1 ++ fs2) (hL1 : FlatL P k1 0 fs1 n1) (hL2 : FlatL P k2 n1 fs2 N) (hc : P.cellsOf t = N)
    (hval : Value.okWide P w r b0 t v) (hd : DataW.Trod enc P w base spare held t v d ps) :
    ∃ xs ys : List Int, xs.length = n1 ∧ n1 + ys.length = N ∧ v = .agg (xs.map (Value.int k1) ++ ys.map (Value.int k2)).toArray ∧ ps = [] ∧ (∀ y ∈ xs, (Lit.int k1 y).wf = true) ∧ ∀ y ∈ ys, (Lit.int k2 y).wf = true := by
  unfold Value.okWide at hval
  rw [ht] at hval
  obtain ⟨cs, rfl, _, _⟩ := hval
  obtain ⟨fuel, hf⟩ := hd
  obtain ⟨xs, m, rfl, hx, hl, hxl, hget⟩ := DataW.trod_struct ht hf
  have hcs : (Value.agg cs).cells.toList = cs.toList := rfl
  rw [hcs] at hl hget
  rw [hc] at hl
  have hle1 := hL1.le
  have hle2 := hL2.le
  have hsz : fs.size = fs1.length + fs2.length := by rw [← Array.length_toList, hfs, List.length_append]
  have hg : ∀ (i : Nat) (f : Field), (fs1 ++ fs2)[i]? = some f → DataW.trod enc P w base spare held m f.type ((cs.toList.drop f.offset).take (P.cellsOf f.type)) = xs[i]? := fun i f hf => by
    have hf' : fs[i]? = some f := by rw [← Array.getElem?_toList, hfs]; exact hf
    exact hget i f hf'
  obtain ⟨ys, h1, h2, h3, h4⟩ := trod_fields (enc := enc) (w := w) (base := base) (spare := spare) (held := held) (m := m) (cs := cs.toList) (xs := xs.take fs1.length) hL1 (by rw [List.length_take]; omega) (by omega) (fun i f hf => by
    have hi := (List.getElem?_eq_some_iff.1 hf).1
    rw [List.getElem?_take_of_lt hi]
    exact hg i f (by rw [List.getElem?_append_left hi]; exact hf))
  obtain ⟨zs, k1', k2', k3, k4⟩ := trod_fields (enc := enc) (w := w) (base := base) (spare := spare) (held := held) (m := m) (cs := cs.toList) (xs := xs.drop fs1.length) hL2 (by rw [List.length_drop]; omega) (by omega) (fun i f hf => by
    rw [List.getElem?_drop]
    exact hg (fs1.length + i) f (by rw [List.getElem?_append_right (by omega), show fs1.length + i - fs1.length = i by omega]; exact hf))
  simp only [Prod.mk.injEq] at hx
  refine ⟨ys, zs, by omega, by omega, ?_, ?_, h4, k4⟩
  · congr 1
    apply Array.ext'
    rw [← h2, ← k2', List.drop_zero, Nat.sub_zero]
    show cs.toList = cs.toList.take n1 ++ (cs.toList.drop n1).take (N - n1)
    rw [List.take_of_length_le (l := cs.toList.drop n1) (by rw [List.length_drop]; omega), List.take_append_drop]
  · rw [hx.2, ← List.take_append_drop fs1.length xs, List.flatMap_append, h3, k3]; rfl
end
end Go.Abs
