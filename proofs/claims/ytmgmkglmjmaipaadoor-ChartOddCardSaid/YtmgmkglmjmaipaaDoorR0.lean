/- Sketches as arguments. -/
import Derived.Test.YtmgmkglmjmaipaaDoorJ3
import Derived.Test.YtmgmkglmjmaipaaDoorLiftK
namespace Go.Proofs.YtmgmkglmjmaipaaDoor.Ct
open Go Go.Abs Go.Mth
set_option linter.unusedVariables false
theorem word_bd {y : Int} (h : (Lit.int .u16 y).wf = true) : 0 ≤ y ∧ y < 65536 := by
  simp [Lit.wf, IntKind.min, IntKind.max, IntKind.signed, IntKind.bits] at h
  omega
theorem sk_of {xs ys : List Int} (hx : xs.length = 17) (hy : 17 + ys.length = 18) (h1 : ∀ y ∈ xs, (Lit.int .u8 y).wf = true) (h2 : ∀ y ∈ ys, (Lit.int .u16 y).wf = true) :
    ∃ (x : Nat) (ord : List Nat) (b : Nat), xs.map (Value.int .u8) ++ ys.map (Value.int .u16) = skV x ord b ∧ x ≤ 255 ∧ ord.length = 16 ∧ (∀ y ∈ ord, y ≤ 255) ∧ b < 65536 := by
  have hy1 : ys.length = 1 := by omega
  clear hy
  match ys, hy1 with
  | [b], _ =>
    match xs, hx with
    | x :: xs, hx =>
      have hb := word_bd (h2 b (by simp))
      have hxb := byte_bd (h1 x (by simp))
      refine ⟨x.toNat, xs.map Int.toNat, b.toNat, ?_, by omega, by simpa using hx, fun y hy => ?_, by omega⟩
      · have e1 : ((xs.map Int.toNat).map fun (x : Nat) => Value.int .u8 (x : Int)) = xs.map (Value.int .u8) := by
          rw [List.map_map]
          refine List.map_congr_left fun y hy => ?_
          have := byte_bd (h1 y (by simp [hy]))
          show Value.int .u8 ((y.toNat : Nat) : Int) = Value.int .u8 y
          rw [Int.toNat_of_nonneg this.1]
        simp only [skV, numsK, List.map_cons, e1, List.map_nil]
        rw [Int.toNat_of_nonneg hb.1, Int.toNat_of_nonneg hxb.1]
      · obtain ⟨z, hz, rfl⟩ := List.mem_map.1 hy
        have := byte_bd (h1 z (by simp [hz]))
        omega
end Go.Proofs.YtmgmkglmjmaipaaDoor.Ct
