/- They are the program's. -/
import Derived.Test.YtckpocjeikkblaaKnP
namespace Go.Proofs.Ytckpocjeikkblaa.Ev
open Go Go.Abs
set_option maxRecDepth 100000
theorem is15 : prepF Try.prog 15 = some pf15 := by kernel_rfl
theorem is16 : prepF Try.prog 16 = some pf16 := by kernel_rfl
theorem is18 : prepF Try.prog 18 = some pf18 := by kernel_rfl
theorem is20 : prepF Try.prog 20 = some pf20 := by kernel_rfl
theorem is22 : prepF Try.prog 22 = some pf22 := by kernel_rfl
theorem is23 : prepF Try.prog 23 = some pf23 := by kernel_rfl
theorem is25 : prepF Try.prog 25 = some pf25 := by kernel_rfl
theorem is27 : prepF Try.prog 27 = some pf27 := by kernel_rfl
theorem is29 : prepF Try.prog 29 = some pf29 := by kernel_rfl
theorem is31 : prepF Try.prog 31 = some pf31 := by kernel_rfl
theorem is32 : prepF Try.prog 32 = some pf32 := by kernel_rfl
theorem is34 : prepF Try.prog 34 = some pf34 := by kernel_rfl
theorem is36 : prepF Try.prog 36 = some pf36 := by kernel_rfl
theorem is43 : prepF Try.prog 43 = some pf43 := by kernel_rfl
theorem is47 : prepF Try.prog 47 = some pf47 := by kernel_rfl
theorem is51 : prepF Try.prog 51 = some pf51 := by kernel_rfl
theorem is52 : prepF Try.prog 52 = some pf52 := by kernel_rfl
theorem is56 : prepF Try.prog 56 = some pf56 := by kernel_rfl
theorem is57 : prepF Try.prog 57 = some pf57 := by kernel_rfl
theorem is58 : prepF Try.prog 58 = some pf58 := by kernel_rfl
theorem is59 : prepF Try.prog 59 = some pf59 := by kernel_rfl
theorem is60 : prepF Try.prog 60 = some pf60 := by kernel_rfl
theorem is61 : prepF Try.prog 61 = some pf61 := by kernel_rfl
theorem is62 : prepF Try.prog 62 = some pf62 := by kernel_rfl
theorem is65 : prepF Try.prog 65 = some pf65 := by kernel_rfl
theorem is67 : prepF Try.prog 67 = some pf67 := by kernel_rfl
theorem is69 : prepF Try.prog 69 = some pf69 := by kernel_rfl
theorem is71 : prepF Try.prog 71 = some pf71 := by kernel_rfl
theorem is73 : prepF Try.prog 73 = some pf73 := by kernel_rfl
theorem is74 : prepF Try.prog 74 = some pf74 := by kernel_rfl
theorem is76 : prepF Try.prog 76 = some pf76 := by kernel_rfl
theorem is78 : prepF Try.prog 78 = some pf78 := by kernel_rfl
theorem is79 : prepF Try.prog 79 = some pf79 := by kernel_rfl
theorem is80 : prepF Try.prog 80 = some pf80 := by kernel_rfl
theorem is83 : prepF Try.prog 83 = some pf83 := by kernel_rfl
theorem is85 : prepF Try.prog 85 = some pf85 := by kernel_rfl
theorem is88 : prepF Try.prog 88 = some pf88 := by kernel_rfl
theorem is89 : prepF Try.prog 89 = some pf89 := by kernel_rfl
theorem is90 : prepF Try.prog 90 = some pf90 := by kernel_rfl
theorem is91 : prepF Try.prog 91 = some pf91 := by kernel_rfl
theorem is92 : prepF Try.prog 92 = some pf92 := by kernel_rfl
theorem is95 : prepF Try.prog 95 = some pf95 := by kernel_rfl
theorem is96 : prepF Try.prog 96 = some pf96 := by kernel_rfl
theorem is97 : prepF Try.prog 97 = some pf97 := by kernel_rfl
theorem is98 : prepF Try.prog 98 = some pf98 := by kernel_rfl
theorem is101 : prepF Try.prog 101 = some pf101 := by kernel_rfl
theorem is113 : prepF Try.prog 113 = some pf113 := by kernel_rfl
theorem is114 : prepF Try.prog 114 = some pf114 := by kernel_rfl
theorem is115 : prepF Try.prog 115 = some pf115 := by kernel_rfl
def fl : List (Nat × PF) := [(15, pf15), (16, pf16), (18, pf18), (20, pf20), (22, pf22), (23, pf23), (25, pf25), (27, pf27), (29, pf29), (31, pf31), (32, pf32), (34, pf34), (36, pf36), (43, pf43), (47, pf47), (51, pf51), (52, pf52), (56, pf56), (57, pf57), (58, pf58), (59, pf59), (60, pf60), (61, pf61), (62, pf62), (65, pf65), (67, pf67), (69, pf69), (71, pf71), (73, pf73), (74, pf74), (76, pf76), (78, pf78), (79, pf79), (80, pf80), (83, pf83), (85, pf85), (88, pf88), (89, pf89), (90, pf90), (91, pf91), (92, pf92), (95, pf95), (96, pf96), (97, pf97), (98, pf98), (101, pf101), (113, pf113), (114, pf114), (115, pf115)]
theorem funcs_eq : funcs = ofFuncs fl := by kernel_rfl
theorem ok : CtxOK C where
  mixed := by kernel_rfl
  funcs := by
    intro f pf h
    have hm : (f, pf) ∈ fl := ofFuncs_get (by rw [← funcs_eq]; exact h)
    simp only [fl, List.mem_cons, List.not_mem_nil, or_false, Prod.mk.injEq] at hm
    rcases hm with ⟨rfl, rfl⟩ | ⟨rfl, rfl⟩ | ⟨rfl, rfl⟩ | ⟨rfl, rfl⟩ | ⟨rfl, rfl⟩ | ⟨rfl, rfl⟩ | ⟨rfl, rfl⟩ | ⟨rfl, rfl⟩ | ⟨rfl, rfl⟩ | ⟨rfl, rfl⟩ | ⟨rfl, rfl⟩ | ⟨rfl, rfl⟩ | ⟨rfl, rfl⟩ | ⟨rfl, rfl⟩ | ⟨rfl, rfl⟩ | ⟨rfl, rfl⟩ | ⟨rfl, rfl⟩ | ⟨rfl, rfl⟩ | ⟨rfl, rfl⟩ | ⟨rfl, rfl⟩ | ⟨rfl, rfl⟩ | ⟨rfl, rfl⟩ | ⟨rfl, rfl⟩ | ⟨rfl, rfl⟩ | ⟨rfl, rfl⟩ | ⟨rfl, rfl⟩ | ⟨rfl, rfl⟩ | ⟨rfl, rfl⟩ | ⟨rfl, rfl⟩ | ⟨rfl, rfl⟩ | ⟨rfl, rfl⟩ | ⟨rfl, rfl⟩ | ⟨rfl, rfl⟩ | ⟨rfl, rfl⟩ | ⟨rfl, rfl⟩ | ⟨rfl, rfl⟩ | ⟨rfl, rfl⟩ | ⟨rfl, rfl⟩ | ⟨rfl, rfl⟩ | ⟨rfl, rfl⟩ | ⟨rfl, rfl⟩ | ⟨rfl, rfl⟩ | ⟨rfl, rfl⟩ | ⟨rfl, rfl⟩ | ⟨rfl, rfl⟩ | ⟨rfl, rfl⟩ | ⟨rfl, rfl⟩ | ⟨rfl, rfl⟩ | ⟨rfl, rfl⟩
    · exact is15
    · exact is16
    · exact is18
    · exact is20
    · exact is22
    · exact is23
    · exact is25
    · exact is27
    · exact is29
    · exact is31
    · exact is32
    · exact is34
    · exact is36
    · exact is43
    · exact is47
    · exact is51
    · exact is52
    · exact is56
    · exact is57
    · exact is58
    · exact is59
    · exact is60
    · exact is61
    · exact is62
    · exact is65
    · exact is67
    · exact is69
    · exact is71
    · exact is73
    · exact is74
    · exact is76
    · exact is78
    · exact is79
    · exact is80
    · exact is83
    · exact is85
    · exact is88
    · exact is89
    · exact is90
    · exact is91
    · exact is92
    · exact is95
    · exact is96
    · exact is97
    · exact is98
    · exact is101
    · exact is113
    · exact is114
    · exact is115
end Go.Proofs.Ytckpocjeikkblaa.Ev
