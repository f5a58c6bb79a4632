/- They are the program's. -/
import Derived.Test.YtnmlfjohoeebiaaKnP
namespace Go.Proofs.Ytnmlfjohoeebiaa.Ev
open Go Go.Abs
set_option maxRecDepth 100000
theorem is16 : prepF Try.prog 16 = some pf16 := by kernel_rfl
theorem is17 : prepF Try.prog 17 = some pf17 := by kernel_rfl
theorem is19 : prepF Try.prog 19 = some pf19 := by kernel_rfl
theorem is21 : prepF Try.prog 21 = some pf21 := by kernel_rfl
theorem is23 : prepF Try.prog 23 = some pf23 := by kernel_rfl
theorem is25 : prepF Try.prog 25 = some pf25 := by kernel_rfl
theorem is27 : prepF Try.prog 27 = some pf27 := by kernel_rfl
theorem is29 : prepF Try.prog 29 = some pf29 := by kernel_rfl
theorem is30 : prepF Try.prog 30 = some pf30 := by kernel_rfl
theorem is32 : prepF Try.prog 32 = some pf32 := by kernel_rfl
theorem is34 : prepF Try.prog 34 = some pf34 := by kernel_rfl
theorem is36 : prepF Try.prog 36 = some pf36 := by kernel_rfl
theorem is43 : prepF Try.prog 43 = some pf43 := by kernel_rfl
theorem is50 : prepF Try.prog 50 = some pf50 := by kernel_rfl
theorem is51 : prepF Try.prog 51 = some pf51 := by kernel_rfl
theorem is52 : prepF Try.prog 52 = some pf52 := by kernel_rfl
theorem is53 : prepF Try.prog 53 = some pf53 := by kernel_rfl
theorem is54 : prepF Try.prog 54 = some pf54 := by kernel_rfl
theorem is55 : prepF Try.prog 55 = some pf55 := by kernel_rfl
theorem is57 : prepF Try.prog 57 = some pf57 := by kernel_rfl
theorem is58 : prepF Try.prog 58 = some pf58 := by kernel_rfl
theorem is61 : prepF Try.prog 61 = some pf61 := by kernel_rfl
theorem is65 : prepF Try.prog 65 = some pf65 := by kernel_rfl
theorem is66 : prepF Try.prog 66 = some pf66 := by kernel_rfl
theorem is67 : prepF Try.prog 67 = some pf67 := by kernel_rfl
theorem is68 : prepF Try.prog 68 = some pf68 := by kernel_rfl
theorem is70 : prepF Try.prog 70 = some pf70 := by kernel_rfl
theorem is71 : prepF Try.prog 71 = some pf71 := by kernel_rfl
theorem is73 : prepF Try.prog 73 = some pf73 := by kernel_rfl
theorem is79 : prepF Try.prog 79 = some pf79 := by kernel_rfl
theorem is82 : prepF Try.prog 82 = some pf82 := by kernel_rfl
theorem is83 : prepF Try.prog 83 = some pf83 := by kernel_rfl
theorem is84 : prepF Try.prog 84 = some pf84 := by kernel_rfl
theorem is85 : prepF Try.prog 85 = some pf85 := by kernel_rfl
theorem is87 : prepF Try.prog 87 = some pf87 := by kernel_rfl
theorem is88 : prepF Try.prog 88 = some pf88 := by kernel_rfl
theorem is89 : prepF Try.prog 89 = some pf89 := by kernel_rfl
def fl : List (Nat × PF) := [(16, pf16), (17, pf17), (19, pf19), (21, pf21), (23, pf23), (25, pf25), (27, pf27), (29, pf29), (30, pf30), (32, pf32), (34, pf34), (36, pf36), (43, pf43), (50, pf50), (51, pf51), (52, pf52), (53, pf53), (54, pf54), (55, pf55), (57, pf57), (58, pf58), (61, pf61), (65, pf65), (66, pf66), (67, pf67), (68, pf68), (70, pf70), (71, pf71), (73, pf73), (79, pf79), (82, pf82), (83, pf83), (84, pf84), (85, pf85), (87, pf87), (88, pf88), (89, pf89)]
theorem funcs_eq : funcs = ofFuncs fl := by kernel_rfl
theorem ok : CtxOK C where
  mixed := by kernel_rfl
  funcs := by
    intro f pf h
    have hm : (f, pf) ∈ fl := ofFuncs_get (by rw [← funcs_eq]; exact h)
    simp only [fl, List.mem_cons, List.not_mem_nil, or_false, Prod.mk.injEq] at hm
    rcases hm with ⟨rfl, rfl⟩ | ⟨rfl, rfl⟩ | ⟨rfl, rfl⟩ | ⟨rfl, rfl⟩ | ⟨rfl, rfl⟩ | ⟨rfl, rfl⟩ | ⟨rfl, rfl⟩ | ⟨rfl, rfl⟩ | ⟨rfl, rfl⟩ | ⟨rfl, rfl⟩ | ⟨rfl, rfl⟩ | ⟨rfl, rfl⟩ | ⟨rfl, rfl⟩ | ⟨rfl, rfl⟩ | ⟨rfl, rfl⟩ | ⟨rfl, rfl⟩ | ⟨rfl, rfl⟩ | ⟨rfl, rfl⟩ | ⟨rfl, rfl⟩ | ⟨rfl, rfl⟩ | ⟨rfl, rfl⟩ | ⟨rfl, rfl⟩ | ⟨rfl, rfl⟩ | ⟨rfl, rfl⟩ | ⟨rfl, rfl⟩ | ⟨rfl, rfl⟩ | ⟨rfl, rfl⟩ | ⟨rfl, rfl⟩ | ⟨rfl, rfl⟩ | ⟨rfl, rfl⟩ | ⟨rfl, rfl⟩ | ⟨rfl, rfl⟩ | ⟨rfl, rfl⟩ | ⟨rfl, rfl⟩ | ⟨rfl, rfl⟩ | ⟨rfl, rfl⟩ | ⟨rfl, rfl⟩
    · exact is16
    · exact is17
    · exact is19
    · exact is21
    · exact is23
    · exact is25
    · exact is27
    · exact is29
    · exact is30
    · exact is32
    · exact is34
    · exact is36
    · exact is43
    · exact is50
    · exact is51
    · exact is52
    · exact is53
    · exact is54
    · exact is55
    · exact is57
    · exact is58
    · exact is61
    · exact is65
    · exact is66
    · exact is67
    · exact is68
    · exact is70
    · exact is71
    · exact is73
    · exact is79
    · exact is82
    · exact is83
    · exact is84
    · exact is85
    · exact is87
    · exact is88
    · exact is89
end Go.Proofs.Ytnmlfjohoeebiaa.Ev
