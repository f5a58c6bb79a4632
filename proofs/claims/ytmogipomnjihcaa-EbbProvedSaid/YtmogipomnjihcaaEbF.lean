/- They are the program's. -/
import Derived.Test.YtmogipomnjihcaaEbP
namespace Go.Proofs.Ytmogipomnjihcaa.Eb
open Go Go.Abs
set_option maxRecDepth 100000
set_option maxHeartbeats 4000000
theorem is8 : prepF Try.prog 8 = some pf8 := by kernel_rfl
theorem is9 : prepF Try.prog 9 = some pf9 := by kernel_rfl
theorem is17 : prepF Try.prog 17 = some pf17 := by kernel_rfl
theorem is19 : prepF Try.prog 19 = some pf19 := by kernel_rfl
theorem is22 : prepF Try.prog 22 = some pf22 := by kernel_rfl
theorem is23 : prepF Try.prog 23 = some pf23 := by kernel_rfl
theorem is24 : prepF Try.prog 24 = some pf24 := by kernel_rfl
theorem is26 : prepF Try.prog 26 = some pf26 := by kernel_rfl
theorem is29 : prepF Try.prog 29 = some pf29 := by kernel_rfl
theorem is31 : prepF Try.prog 31 = some pf31 := by kernel_rfl
theorem is33 : prepF Try.prog 33 = some pf33 := by kernel_rfl
theorem is35 : prepF Try.prog 35 = some pf35 := by kernel_rfl
theorem is42 : prepF Try.prog 42 = some pf42 := by kernel_rfl
theorem is44 : prepF Try.prog 44 = some pf44 := by kernel_rfl
theorem is45 : prepF Try.prog 45 = some pf45 := by kernel_rfl
theorem is46 : prepF Try.prog 46 = some pf46 := by kernel_rfl
theorem is48 : prepF Try.prog 48 = some pf48 := by kernel_rfl
theorem is55 : prepF Try.prog 55 = some pf55 := by kernel_rfl
theorem is56 : prepF Try.prog 56 = some pf56 := by kernel_rfl
theorem is57 : prepF Try.prog 57 = some pf57 := by kernel_rfl
theorem is59 : prepF Try.prog 59 = some pf59 := by kernel_rfl
theorem is60 : prepF Try.prog 60 = some pf60 := by kernel_rfl
theorem is63 : prepF Try.prog 63 = some pf63 := by kernel_rfl
theorem is64 : prepF Try.prog 64 = some pf64 := by kernel_rfl
theorem is65 : prepF Try.prog 65 = some pf65 := by kernel_rfl
theorem is66 : prepF Try.prog 66 = some pf66 := by kernel_rfl
theorem is67 : prepF Try.prog 67 = some pf67 := by kernel_rfl
theorem is68 : prepF Try.prog 68 = some pf68 := by kernel_rfl
theorem is69 : prepF Try.prog 69 = some pf69 := by kernel_rfl
theorem is70 : prepF Try.prog 70 = some pf70 := by kernel_rfl
theorem is71 : prepF Try.prog 71 = some pf71 := by kernel_rfl
theorem is72 : prepF Try.prog 72 = some pf72 := by kernel_rfl
theorem is73 : prepF Try.prog 73 = some pf73 := by kernel_rfl
theorem is74 : prepF Try.prog 74 = some pf74 := by kernel_rfl
theorem is76 : prepF Try.prog 76 = some pf76 := by kernel_rfl
theorem is77 : prepF Try.prog 77 = some pf77 := by kernel_rfl
theorem is78 : prepF Try.prog 78 = some pf78 := by kernel_rfl
theorem is79 : prepF Try.prog 79 = some pf79 := by kernel_rfl
theorem is80 : prepF Try.prog 80 = some pf80 := by kernel_rfl
theorem is85 : prepF Try.prog 85 = some pf85 := by kernel_rfl
theorem is86 : prepF Try.prog 86 = some pf86 := by kernel_rfl
theorem is88 : prepF Try.prog 88 = some pf88 := by kernel_rfl
theorem is89 : prepF Try.prog 89 = some pf89 := by kernel_rfl
theorem is95 : prepF Try.prog 95 = some pf95 := by kernel_rfl
theorem is96 : prepF Try.prog 96 = some pf96 := by kernel_rfl
theorem is97 : prepF Try.prog 97 = some pf97 := by kernel_rfl
theorem is98 : prepF Try.prog 98 = some pf98 := by kernel_rfl
def fl : List (Nat × PF) := [(8, pf8), (9, pf9), (17, pf17), (19, pf19), (22, pf22), (23, pf23), (24, pf24), (26, pf26), (29, pf29), (31, pf31), (33, pf33), (35, pf35), (42, pf42), (44, pf44), (45, pf45), (46, pf46), (48, pf48), (55, pf55), (56, pf56), (57, pf57), (59, pf59), (60, pf60), (63, pf63), (64, pf64), (65, pf65), (66, pf66), (67, pf67), (68, pf68), (69, pf69), (70, pf70), (71, pf71), (72, pf72), (73, pf73), (74, pf74), (76, pf76), (77, pf77), (78, pf78), (79, pf79), (80, pf80), (85, pf85), (86, pf86), (88, pf88), (89, pf89), (95, pf95), (96, pf96), (97, pf97), (98, pf98)]
theorem funcs_eq : funcs = ofFuncs fl := by kernel_rfl
theorem ok : CtxOK C.c where
  mixed := by kernel_rfl
  funcs := by
    intro f pf h
    have hm : (f, pf) ∈ fl := ofFuncs_get (by rw [← funcs_eq]; exact h)
    simp only [fl, List.mem_cons, List.not_mem_nil, or_false, Prod.mk.injEq] at hm
    rcases hm with ⟨rfl, rfl⟩ | ⟨rfl, rfl⟩ | ⟨rfl, rfl⟩ | ⟨rfl, rfl⟩ | ⟨rfl, rfl⟩ | ⟨rfl, rfl⟩ | ⟨rfl, rfl⟩ | ⟨rfl, rfl⟩ | ⟨rfl, rfl⟩ | ⟨rfl, rfl⟩ | ⟨rfl, rfl⟩ | ⟨rfl, rfl⟩ | ⟨rfl, rfl⟩ | ⟨rfl, rfl⟩ | ⟨rfl, rfl⟩ | ⟨rfl, rfl⟩ | ⟨rfl, rfl⟩ | ⟨rfl, rfl⟩ | ⟨rfl, rfl⟩ | ⟨rfl, rfl⟩ | ⟨rfl, rfl⟩ | ⟨rfl, rfl⟩ | ⟨rfl, rfl⟩ | ⟨rfl, rfl⟩ | ⟨rfl, rfl⟩ | ⟨rfl, rfl⟩ | ⟨rfl, rfl⟩ | ⟨rfl, rfl⟩ | ⟨rfl, rfl⟩ | ⟨rfl, rfl⟩ | ⟨rfl, rfl⟩ | ⟨rfl, rfl⟩ | ⟨rfl, rfl⟩ | ⟨rfl, rfl⟩ | ⟨rfl, rfl⟩ | ⟨rfl, rfl⟩ | ⟨rfl, rfl⟩ | ⟨rfl, rfl⟩ | ⟨rfl, rfl⟩ | ⟨rfl, rfl⟩ | ⟨rfl, rfl⟩ | ⟨rfl, rfl⟩ | ⟨rfl, rfl⟩ | ⟨rfl, rfl⟩ | ⟨rfl, rfl⟩ | ⟨rfl, rfl⟩ | ⟨rfl, rfl⟩
    · exact is8
    · exact is9
    · exact is17
    · exact is19
    · exact is22
    · exact is23
    · exact is24
    · exact is26
    · exact is29
    · exact is31
    · exact is33
    · exact is35
    · exact is42
    · exact is44
    · exact is45
    · exact is46
    · exact is48
    · exact is55
    · exact is56
    · exact is57
    · exact is59
    · exact is60
    · exact is63
    · exact is64
    · exact is65
    · exact is66
    · exact is67
    · exact is68
    · exact is69
    · exact is70
    · exact is71
    · exact is72
    · exact is73
    · exact is74
    · exact is76
    · exact is77
    · exact is78
    · exact is79
    · exact is80
    · exact is85
    · exact is86
    · exact is88
    · exact is89
    · exact is95
    · exact is96
    · exact is97
    · exact is98
end Go.Proofs.Ytmogipomnjihcaa.Eb
