/- They are the program's. -/
import Derived.Test.YtblopbimchkneaaKnP
namespace Go.Proofs.Ytblopbimchkneaa.Ev
open Go Go.Abs
set_option maxRecDepth 100000
theorem is14 : prepF Try.prog 14 = some pf14 := by kernel_rfl
theorem is15 : prepF Try.prog 15 = some pf15 := by kernel_rfl
theorem is17 : prepF Try.prog 17 = some pf17 := by kernel_rfl
theorem is19 : prepF Try.prog 19 = some pf19 := by kernel_rfl
theorem is21 : prepF Try.prog 21 = some pf21 := by kernel_rfl
theorem is23 : prepF Try.prog 23 = some pf23 := by kernel_rfl
theorem is25 : prepF Try.prog 25 = some pf25 := by kernel_rfl
theorem is27 : prepF Try.prog 27 = some pf27 := by kernel_rfl
theorem is29 : prepF Try.prog 29 = some pf29 := by kernel_rfl
theorem is30 : prepF Try.prog 30 = some pf30 := by kernel_rfl
theorem is32 : prepF Try.prog 32 = some pf32 := by kernel_rfl
theorem is34 : prepF Try.prog 34 = some pf34 := by kernel_rfl
theorem is44 : prepF Try.prog 44 = some pf44 := by kernel_rfl
theorem is51 : prepF Try.prog 51 = some pf51 := by kernel_rfl
theorem is52 : prepF Try.prog 52 = some pf52 := by kernel_rfl
theorem is53 : prepF Try.prog 53 = some pf53 := by kernel_rfl
theorem is54 : prepF Try.prog 54 = some pf54 := by kernel_rfl
theorem is55 : prepF Try.prog 55 = some pf55 := by kernel_rfl
theorem is57 : prepF Try.prog 57 = some pf57 := by kernel_rfl
theorem is58 : prepF Try.prog 58 = some pf58 := by kernel_rfl
theorem is60 : prepF Try.prog 60 = some pf60 := by kernel_rfl
theorem is62 : prepF Try.prog 62 = some pf62 := by kernel_rfl
theorem is64 : prepF Try.prog 64 = some pf64 := by kernel_rfl
theorem is66 : prepF Try.prog 66 = some pf66 := by kernel_rfl
theorem is69 : prepF Try.prog 69 = some pf69 := by kernel_rfl
theorem is70 : prepF Try.prog 70 = some pf70 := by kernel_rfl
theorem is71 : prepF Try.prog 71 = some pf71 := by kernel_rfl
theorem is74 : prepF Try.prog 74 = some pf74 := by kernel_rfl
theorem is75 : prepF Try.prog 75 = some pf75 := by kernel_rfl
theorem is77 : prepF Try.prog 77 = some pf77 := by kernel_rfl
theorem is82 : prepF Try.prog 82 = some pf82 := by kernel_rfl
theorem is83 : prepF Try.prog 83 = some pf83 := by kernel_rfl
theorem is85 : prepF Try.prog 85 = some pf85 := by kernel_rfl
theorem is88 : prepF Try.prog 88 = some pf88 := by kernel_rfl
theorem is89 : prepF Try.prog 89 = some pf89 := by kernel_rfl
theorem is90 : prepF Try.prog 90 = some pf90 := by kernel_rfl
theorem is92 : prepF Try.prog 92 = some pf92 := by kernel_rfl
theorem is93 : prepF Try.prog 93 = some pf93 := by kernel_rfl
theorem is95 : prepF Try.prog 95 = some pf95 := by kernel_rfl
theorem is96 : prepF Try.prog 96 = some pf96 := by kernel_rfl
theorem is97 : prepF Try.prog 97 = some pf97 := by kernel_rfl
theorem is98 : prepF Try.prog 98 = some pf98 := by kernel_rfl
theorem is99 : prepF Try.prog 99 = some pf99 := by kernel_rfl
def fl : List (Nat × PF) := [(14, pf14), (15, pf15), (17, pf17), (19, pf19), (21, pf21), (23, pf23), (25, pf25), (27, pf27), (29, pf29), (30, pf30), (32, pf32), (34, pf34), (44, pf44), (51, pf51), (52, pf52), (53, pf53), (54, pf54), (55, pf55), (57, pf57), (58, pf58), (60, pf60), (62, pf62), (64, pf64), (66, pf66), (69, pf69), (70, pf70), (71, pf71), (74, pf74), (75, pf75), (77, pf77), (82, pf82), (83, pf83), (85, pf85), (88, pf88), (89, pf89), (90, pf90), (92, pf92), (93, pf93), (95, pf95), (96, pf96), (97, pf97), (98, pf98), (99, pf99)]
theorem funcs_eq : funcs = ofFuncs fl := by kernel_rfl
theorem ok : CtxOK C where
  mixed := by kernel_rfl
  funcs := by
    intro f pf h
    have hm : (f, pf) ∈ fl := ofFuncs_get (by rw [← funcs_eq]; exact h)
    simp only [fl, List.mem_cons, List.not_mem_nil, or_false, Prod.mk.injEq] at hm
    rcases hm with ⟨rfl, rfl⟩ | ⟨rfl, rfl⟩ | ⟨rfl, rfl⟩ | ⟨rfl, rfl⟩ | ⟨rfl, rfl⟩ | ⟨rfl, rfl⟩ | ⟨rfl, rfl⟩ | ⟨rfl, rfl⟩ | ⟨rfl, rfl⟩ | ⟨rfl, rfl⟩ | ⟨rfl, rfl⟩ | ⟨rfl, rfl⟩ | ⟨rfl, rfl⟩ | ⟨rfl, rfl⟩ | ⟨rfl, rfl⟩ | ⟨rfl, rfl⟩ | ⟨rfl, rfl⟩ | ⟨rfl, rfl⟩ | ⟨rfl, rfl⟩ | ⟨rfl, rfl⟩ | ⟨rfl, rfl⟩ | ⟨rfl, rfl⟩ | ⟨rfl, rfl⟩ | ⟨rfl, rfl⟩ | ⟨rfl, rfl⟩ | ⟨rfl, rfl⟩ | ⟨rfl, rfl⟩ | ⟨rfl, rfl⟩ | ⟨rfl, rfl⟩ | ⟨rfl, rfl⟩ | ⟨rfl, rfl⟩ | ⟨rfl, rfl⟩ | ⟨rfl, rfl⟩ | ⟨rfl, rfl⟩ | ⟨rfl, rfl⟩ | ⟨rfl, rfl⟩ | ⟨rfl, rfl⟩ | ⟨rfl, rfl⟩ | ⟨rfl, rfl⟩ | ⟨rfl, rfl⟩ | ⟨rfl, rfl⟩ | ⟨rfl, rfl⟩ | ⟨rfl, rfl⟩
    · exact is14
    · exact is15
    · exact is17
    · exact is19
    · exact is21
    · exact is23
    · exact is25
    · exact is27
    · exact is29
    · exact is30
    · exact is32
    · exact is34
    · exact is44
    · exact is51
    · exact is52
    · exact is53
    · exact is54
    · exact is55
    · exact is57
    · exact is58
    · exact is60
    · exact is62
    · exact is64
    · exact is66
    · exact is69
    · exact is70
    · exact is71
    · exact is74
    · exact is75
    · exact is77
    · exact is82
    · exact is83
    · exact is85
    · exact is88
    · exact is89
    · exact is90
    · exact is92
    · exact is93
    · exact is95
    · exact is96
    · exact is97
    · exact is98
    · exact is99
end Go.Proofs.Ytblopbimchkneaa.Ev
