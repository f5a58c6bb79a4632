/- They are the program's. -/
import Derived.Test.YtblopbimchkneaaMdP
namespace Go.Proofs.Ytblopbimchkneaa.Md
open Go Go.Abs
set_option maxRecDepth 100000
set_option maxHeartbeats 4000000
theorem is3 : prepF Try.prog 3 = some pf3 := by kernel_rfl
theorem is6 : prepF Try.prog 6 = some pf6 := by kernel_rfl
theorem is7 : prepF Try.prog 7 = some pf7 := by kernel_rfl
theorem is15 : prepF Try.prog 15 = some pf15 := by kernel_rfl
theorem is16 : prepF Try.prog 16 = some pf16 := by kernel_rfl
theorem is17 : prepF Try.prog 17 = some pf17 := by kernel_rfl
theorem is18 : prepF Try.prog 18 = some pf18 := by kernel_rfl
theorem is19 : prepF Try.prog 19 = some pf19 := by kernel_rfl
theorem is20 : prepF Try.prog 20 = some pf20 := by kernel_rfl
theorem is21 : prepF Try.prog 21 = some pf21 := by kernel_rfl
theorem is22 : prepF Try.prog 22 = some pf22 := by kernel_rfl
theorem is23 : prepF Try.prog 23 = some pf23 := by kernel_rfl
theorem is24 : prepF Try.prog 24 = some pf24 := by kernel_rfl
theorem is25 : prepF Try.prog 25 = some pf25 := by kernel_rfl
theorem is26 : prepF Try.prog 26 = some pf26 := by kernel_rfl
theorem is27 : prepF Try.prog 27 = some pf27 := by kernel_rfl
theorem is28 : prepF Try.prog 28 = some pf28 := by kernel_rfl
theorem is29 : prepF Try.prog 29 = some pf29 := by kernel_rfl
theorem is30 : prepF Try.prog 30 = some pf30 := by kernel_rfl
theorem is32 : prepF Try.prog 32 = some pf32 := by kernel_rfl
theorem is34 : prepF Try.prog 34 = some pf34 := by kernel_rfl
theorem is36 : prepF Try.prog 36 = some pf36 := by kernel_rfl
theorem is37 : prepF Try.prog 37 = some pf37 := by kernel_rfl
theorem is38 : prepF Try.prog 38 = some pf38 := by kernel_rfl
theorem is39 : prepF Try.prog 39 = some pf39 := by kernel_rfl
theorem is40 : prepF Try.prog 40 = some pf40 := by kernel_rfl
theorem is41 : prepF Try.prog 41 = some pf41 := by kernel_rfl
theorem is42 : prepF Try.prog 42 = some pf42 := by kernel_rfl
theorem is44 : prepF Try.prog 44 = some pf44 := by kernel_rfl
theorem is48 : prepF Try.prog 48 = some pf48 := by kernel_rfl
theorem is49 : prepF Try.prog 49 = some pf49 := by kernel_rfl
theorem is50 : prepF Try.prog 50 = some pf50 := by kernel_rfl
theorem is55 : prepF Try.prog 55 = some pf55 := by kernel_rfl
theorem is56 : prepF Try.prog 56 = some pf56 := by kernel_rfl
theorem is57 : prepF Try.prog 57 = some pf57 := by kernel_rfl
theorem is58 : prepF Try.prog 58 = some pf58 := by kernel_rfl
theorem is59 : prepF Try.prog 59 = some pf59 := by kernel_rfl
theorem is60 : prepF Try.prog 60 = some pf60 := by kernel_rfl
theorem is61 : prepF Try.prog 61 = some pf61 := by kernel_rfl
theorem is62 : prepF Try.prog 62 = some pf62 := by kernel_rfl
theorem is63 : prepF Try.prog 63 = some pf63 := by kernel_rfl
theorem is64 : prepF Try.prog 64 = some pf64 := by kernel_rfl
theorem is65 : prepF Try.prog 65 = some pf65 := by kernel_rfl
theorem is66 : prepF Try.prog 66 = some pf66 := by kernel_rfl
theorem is67 : prepF Try.prog 67 = some pf67 := by kernel_rfl
theorem is68 : prepF Try.prog 68 = some pf68 := by kernel_rfl
theorem is69 : prepF Try.prog 69 = some pf69 := by kernel_rfl
theorem is70 : prepF Try.prog 70 = some pf70 := by kernel_rfl
theorem is71 : prepF Try.prog 71 = some pf71 := by kernel_rfl
theorem is74 : prepF Try.prog 74 = some pf74 := by kernel_rfl
theorem is75 : prepF Try.prog 75 = some pf75 := by kernel_rfl
theorem is77 : prepF Try.prog 77 = some pf77 := by kernel_rfl
theorem is78 : prepF Try.prog 78 = some pf78 := by kernel_rfl
theorem is79 : prepF Try.prog 79 = some pf79 := by kernel_rfl
theorem is80 : prepF Try.prog 80 = some pf80 := by kernel_rfl
theorem is81 : prepF Try.prog 81 = some pf81 := by kernel_rfl
theorem is82 : prepF Try.prog 82 = some pf82 := by kernel_rfl
theorem is83 : prepF Try.prog 83 = some pf83 := by kernel_rfl
theorem is84 : prepF Try.prog 84 = some pf84 := by kernel_rfl
theorem is85 : prepF Try.prog 85 = some pf85 := by kernel_rfl
theorem is86 : prepF Try.prog 86 = some pf86 := by kernel_rfl
theorem is87 : prepF Try.prog 87 = some pf87 := by kernel_rfl
theorem is88 : prepF Try.prog 88 = some pf88 := by kernel_rfl
theorem is89 : prepF Try.prog 89 = some pf89 := by kernel_rfl
theorem is90 : prepF Try.prog 90 = some pf90 := by kernel_rfl
theorem is91 : prepF Try.prog 91 = some pf91 := by kernel_rfl
theorem is92 : prepF Try.prog 92 = some pf92 := by kernel_rfl
theorem is93 : prepF Try.prog 93 = some pf93 := by kernel_rfl
theorem is94 : prepF Try.prog 94 = some pf94 := by kernel_rfl
theorem is95 : prepF Try.prog 95 = some pf95 := by kernel_rfl
theorem is96 : prepF Try.prog 96 = some pf96 := by kernel_rfl
theorem is97 : prepF Try.prog 97 = some pf97 := by kernel_rfl
theorem is98 : prepF Try.prog 98 = some pf98 := by kernel_rfl
theorem is99 : prepF Try.prog 99 = some pf99 := by kernel_rfl
def fl : List (Nat × PF) := [(3, pf3), (6, pf6), (7, pf7), (15, pf15), (16, pf16), (17, pf17), (18, pf18), (19, pf19), (20, pf20), (21, pf21), (22, pf22), (23, pf23), (24, pf24), (25, pf25), (26, pf26), (27, pf27), (28, pf28), (29, pf29), (30, pf30), (32, pf32), (34, pf34), (36, pf36), (37, pf37), (38, pf38), (39, pf39), (40, pf40), (41, pf41), (42, pf42), (44, pf44), (48, pf48), (49, pf49), (50, pf50), (55, pf55), (56, pf56), (57, pf57), (58, pf58), (59, pf59), (60, pf60), (61, pf61), (62, pf62), (63, pf63), (64, pf64), (65, pf65), (66, pf66), (67, pf67), (68, pf68), (69, pf69), (70, pf70), (71, pf71), (74, pf74), (75, pf75), (77, pf77), (78, pf78), (79, pf79), (80, pf80), (81, pf81), (82, pf82), (83, pf83), (84, pf84), (85, pf85), (86, pf86), (87, pf87), (88, pf88), (89, pf89), (90, pf90), (91, pf91), (92, pf92), (93, pf93), (94, pf94), (95, pf95), (96, pf96), (97, pf97), (98, pf98), (99, pf99)]
theorem funcs_eq : funcs = ofFuncs fl := by kernel_rfl
theorem ok : CtxOK C.c where
  mixed := by kernel_rfl
  funcs := by
    intro f pf h
    have hm : (f, pf) ∈ fl := ofFuncs_get (by rw [← funcs_eq]; exact h)
    simp only [fl, List.mem_cons, List.not_mem_nil, or_false, Prod.mk.injEq] at hm
    rcases hm with ⟨rfl, rfl⟩ | ⟨rfl, rfl⟩ | ⟨rfl, rfl⟩ | ⟨rfl, rfl⟩ | ⟨rfl, rfl⟩ | ⟨rfl, rfl⟩ | ⟨rfl, rfl⟩ | ⟨rfl, rfl⟩ | ⟨rfl, rfl⟩ | ⟨rfl, rfl⟩ | ⟨rfl, rfl⟩ | ⟨rfl, rfl⟩ | ⟨rfl, rfl⟩ | ⟨rfl, rfl⟩ | ⟨rfl, rfl⟩ | ⟨rfl, rfl⟩ | ⟨rfl, rfl⟩ | ⟨rfl, rfl⟩ | ⟨rfl, rfl⟩ | ⟨rfl, rfl⟩ | ⟨rfl, rfl⟩ | ⟨rfl, rfl⟩ | ⟨rfl, rfl⟩ | ⟨rfl, rfl⟩ | ⟨rfl, rfl⟩ | ⟨rfl, rfl⟩ | ⟨rfl, rfl⟩ | ⟨rfl, rfl⟩ | ⟨rfl, rfl⟩ | ⟨rfl, rfl⟩ | ⟨rfl, rfl⟩ | ⟨rfl, rfl⟩ | ⟨rfl, rfl⟩ | ⟨rfl, rfl⟩ | ⟨rfl, rfl⟩ | ⟨rfl, rfl⟩ | ⟨rfl, rfl⟩ | ⟨rfl, rfl⟩ | ⟨rfl, rfl⟩ | ⟨rfl, rfl⟩ | ⟨rfl, rfl⟩ | ⟨rfl, rfl⟩ | ⟨rfl, rfl⟩ | ⟨rfl, rfl⟩ | ⟨rfl, rfl⟩ | ⟨rfl, rfl⟩ | ⟨rfl, rfl⟩ | ⟨rfl, rfl⟩ | ⟨rfl, rfl⟩ | ⟨rfl, rfl⟩ | ⟨rfl, rfl⟩ | ⟨rfl, rfl⟩ | ⟨rfl, rfl⟩ | ⟨rfl, rfl⟩ | ⟨rfl, rfl⟩ | ⟨rfl, rfl⟩ | ⟨rfl, rfl⟩ | ⟨rfl, rfl⟩ | ⟨rfl, rfl⟩ | ⟨rfl, rfl⟩ | ⟨rfl, rfl⟩ | ⟨rfl, rfl⟩ | ⟨rfl, rfl⟩ | ⟨rfl, rfl⟩ | ⟨rfl, rfl⟩ | ⟨rfl, rfl⟩ | ⟨rfl, rfl⟩ | ⟨rfl, rfl⟩ | ⟨rfl, rfl⟩ | ⟨rfl, rfl⟩ | ⟨rfl, rfl⟩ | ⟨rfl, rfl⟩ | ⟨rfl, rfl⟩ | ⟨rfl, rfl⟩
    · exact is3
    · exact is6
    · exact is7
    · exact is15
    · exact is16
    · exact is17
    · exact is18
    · exact is19
    · exact is20
    · exact is21
    · exact is22
    · exact is23
    · exact is24
    · exact is25
    · exact is26
    · exact is27
    · exact is28
    · exact is29
    · exact is30
    · exact is32
    · exact is34
    · exact is36
    · exact is37
    · exact is38
    · exact is39
    · exact is40
    · exact is41
    · exact is42
    · exact is44
    · exact is48
    · exact is49
    · exact is50
    · exact is55
    · exact is56
    · exact is57
    · exact is58
    · exact is59
    · exact is60
    · exact is61
    · exact is62
    · exact is63
    · exact is64
    · exact is65
    · exact is66
    · exact is67
    · exact is68
    · exact is69
    · exact is70
    · exact is71
    · exact is74
    · exact is75
    · exact is77
    · exact is78
    · exact is79
    · exact is80
    · exact is81
    · exact is82
    · exact is83
    · exact is84
    · exact is85
    · exact is86
    · exact is87
    · exact is88
    · exact is89
    · exact is90
    · exact is91
    · exact is92
    · exact is93
    · exact is94
    · exact is95
    · exact is96
    · exact is97
    · exact is98
    · exact is99
end Go.Proofs.Ytblopbimchkneaa.Md
