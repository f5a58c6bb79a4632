/- They are the program's. -/
import Derived.Test.YtckpocjeikkblaaStP
namespace Go.Proofs.Ytckpocjeikkblaa.St
open Go Go.Abs
set_option maxRecDepth 100000
set_option maxHeartbeats 4000000
theorem is3 : prepF Try.prog 3 = some pf3 := by kernel_rfl
theorem is4 : prepF Try.prog 4 = some pf4 := by kernel_rfl
theorem is8 : prepF Try.prog 8 = some pf8 := by kernel_rfl
theorem is10 : prepF Try.prog 10 = some pf10 := by kernel_rfl
theorem is11 : prepF Try.prog 11 = some pf11 := by kernel_rfl
theorem is12 : prepF Try.prog 12 = some pf12 := by kernel_rfl
theorem is14 : prepF Try.prog 14 = some pf14 := by kernel_rfl
theorem is16 : prepF Try.prog 16 = some pf16 := by kernel_rfl
theorem is17 : prepF Try.prog 17 = some pf17 := by kernel_rfl
theorem is18 : prepF Try.prog 18 = some pf18 := by kernel_rfl
theorem is19 : prepF Try.prog 19 = some pf19 := by kernel_rfl
theorem is20 : prepF Try.prog 20 = some pf20 := by kernel_rfl
theorem is21 : prepF Try.prog 21 = some pf21 := by kernel_rfl
theorem is22 : prepF Try.prog 22 = some pf22 := by kernel_rfl
theorem is23 : prepF Try.prog 23 = some pf23 := by kernel_rfl
theorem is24 : prepF Try.prog 24 = some pf24 := by kernel_rfl
theorem is25 : prepF Try.prog 25 = some pf25 := by kernel_rfl
theorem is26 : prepF Try.prog 26 = some pf26 := by kernel_rfl
theorem is27 : prepF Try.prog 27 = some pf27 := by kernel_rfl
theorem is28 : prepF Try.prog 28 = some pf28 := by kernel_rfl
theorem is29 : prepF Try.prog 29 = some pf29 := by kernel_rfl
theorem is30 : prepF Try.prog 30 = some pf30 := by kernel_rfl
theorem is31 : prepF Try.prog 31 = some pf31 := by kernel_rfl
theorem is36 : prepF Try.prog 36 = some pf36 := by kernel_rfl
theorem is38 : prepF Try.prog 38 = some pf38 := by kernel_rfl
theorem is39 : prepF Try.prog 39 = some pf39 := by kernel_rfl
theorem is41 : prepF Try.prog 41 = some pf41 := by kernel_rfl
theorem is43 : prepF Try.prog 43 = some pf43 := by kernel_rfl
theorem is44 : prepF Try.prog 44 = some pf44 := by kernel_rfl
theorem is45 : prepF Try.prog 45 = some pf45 := by kernel_rfl
theorem is47 : prepF Try.prog 47 = some pf47 := by kernel_rfl
theorem is49 : prepF Try.prog 49 = some pf49 := by kernel_rfl
theorem is50 : prepF Try.prog 50 = some pf50 := by kernel_rfl
theorem is51 : prepF Try.prog 51 = some pf51 := by kernel_rfl
theorem is52 : prepF Try.prog 52 = some pf52 := by kernel_rfl
theorem is53 : prepF Try.prog 53 = some pf53 := by kernel_rfl
theorem is54 : prepF Try.prog 54 = some pf54 := by kernel_rfl
theorem is55 : prepF Try.prog 55 = some pf55 := by kernel_rfl
theorem is60 : prepF Try.prog 60 = some pf60 := by kernel_rfl
theorem is61 : prepF Try.prog 61 = some pf61 := by kernel_rfl
theorem is62 : prepF Try.prog 62 = some pf62 := by kernel_rfl
theorem is63 : prepF Try.prog 63 = some pf63 := by kernel_rfl
theorem is64 : prepF Try.prog 64 = some pf64 := by kernel_rfl
theorem is65 : prepF Try.prog 65 = some pf65 := by kernel_rfl
theorem is66 : prepF Try.prog 66 = some pf66 := by kernel_rfl
theorem is67 : prepF Try.prog 67 = some pf67 := by kernel_rfl
theorem is68 : prepF Try.prog 68 = some pf68 := by kernel_rfl
theorem is69 : prepF Try.prog 69 = some pf69 := by kernel_rfl
theorem is70 : prepF Try.prog 70 = some pf70 := by kernel_rfl
theorem is71 : prepF Try.prog 71 = some pf71 := by kernel_rfl
theorem is72 : prepF Try.prog 72 = some pf72 := by kernel_rfl
theorem is73 : prepF Try.prog 73 = some pf73 := by kernel_rfl
theorem is74 : prepF Try.prog 74 = some pf74 := by kernel_rfl
theorem is75 : prepF Try.prog 75 = some pf75 := by kernel_rfl
theorem is79 : prepF Try.prog 79 = some pf79 := by kernel_rfl
theorem is80 : prepF Try.prog 80 = some pf80 := by kernel_rfl
theorem is82 : prepF Try.prog 82 = some pf82 := by kernel_rfl
theorem is83 : prepF Try.prog 83 = some pf83 := by kernel_rfl
theorem is84 : prepF Try.prog 84 = some pf84 := by kernel_rfl
theorem is85 : prepF Try.prog 85 = some pf85 := by kernel_rfl
theorem is86 : prepF Try.prog 86 = some pf86 := by kernel_rfl
theorem is87 : prepF Try.prog 87 = some pf87 := by kernel_rfl
theorem is88 : prepF Try.prog 88 = some pf88 := by kernel_rfl
theorem is89 : prepF Try.prog 89 = some pf89 := by kernel_rfl
theorem is90 : prepF Try.prog 90 = some pf90 := by kernel_rfl
theorem is91 : prepF Try.prog 91 = some pf91 := by kernel_rfl
theorem is92 : prepF Try.prog 92 = some pf92 := by kernel_rfl
theorem is93 : prepF Try.prog 93 = some pf93 := by kernel_rfl
theorem is96 : prepF Try.prog 96 = some pf96 := by kernel_rfl
theorem is97 : prepF Try.prog 97 = some pf97 := by kernel_rfl
theorem is98 : prepF Try.prog 98 = some pf98 := by kernel_rfl
theorem is101 : prepF Try.prog 101 = some pf101 := by kernel_rfl
theorem is102 : prepF Try.prog 102 = some pf102 := by kernel_rfl
theorem is103 : prepF Try.prog 103 = some pf103 := by kernel_rfl
theorem is104 : prepF Try.prog 104 = some pf104 := by kernel_rfl
theorem is105 : prepF Try.prog 105 = some pf105 := by kernel_rfl
theorem is106 : prepF Try.prog 106 = some pf106 := by kernel_rfl
theorem is107 : prepF Try.prog 107 = some pf107 := by kernel_rfl
theorem is108 : prepF Try.prog 108 = some pf108 := by kernel_rfl
theorem is109 : prepF Try.prog 109 = some pf109 := by kernel_rfl
theorem is110 : prepF Try.prog 110 = some pf110 := by kernel_rfl
theorem is111 : prepF Try.prog 111 = some pf111 := by kernel_rfl
theorem is112 : prepF Try.prog 112 = some pf112 := by kernel_rfl
theorem is113 : prepF Try.prog 113 = some pf113 := by kernel_rfl
theorem is114 : prepF Try.prog 114 = some pf114 := by kernel_rfl
theorem is115 : prepF Try.prog 115 = some pf115 := by kernel_rfl
theorem is116 : prepF Try.prog 116 = some pf116 := by kernel_rfl
theorem is117 : prepF Try.prog 117 = some pf117 := by kernel_rfl
theorem is118 : prepF Try.prog 118 = some pf118 := by kernel_rfl
theorem is119 : prepF Try.prog 119 = some pf119 := by kernel_rfl
theorem is120 : prepF Try.prog 120 = some pf120 := by kernel_rfl
theorem is121 : prepF Try.prog 121 = some pf121 := by kernel_rfl
def fl : List (Nat × PF) := [(3, pf3), (4, pf4), (8, pf8), (10, pf10), (11, pf11), (12, pf12), (14, pf14), (16, pf16), (17, pf17), (18, pf18), (19, pf19), (20, pf20), (21, pf21), (22, pf22), (23, pf23), (24, pf24), (25, pf25), (26, pf26), (27, pf27), (28, pf28), (29, pf29), (30, pf30), (31, pf31), (36, pf36), (38, pf38), (39, pf39), (41, pf41), (43, pf43), (44, pf44), (45, pf45), (47, pf47), (49, pf49), (50, pf50), (51, pf51), (52, pf52), (53, pf53), (54, pf54), (55, pf55), (60, pf60), (61, pf61), (62, pf62), (63, pf63), (64, pf64), (65, pf65), (66, pf66), (67, pf67), (68, pf68), (69, pf69), (70, pf70), (71, pf71), (72, pf72), (73, pf73), (74, pf74), (75, pf75), (79, pf79), (80, pf80), (82, pf82), (83, pf83), (84, pf84), (85, pf85), (86, pf86), (87, pf87), (88, pf88), (89, pf89), (90, pf90), (91, pf91), (92, pf92), (93, pf93), (96, pf96), (97, pf97), (98, pf98), (101, pf101), (102, pf102), (103, pf103), (104, pf104), (105, pf105), (106, pf106), (107, pf107), (108, pf108), (109, pf109), (110, pf110), (111, pf111), (112, pf112), (113, pf113), (114, pf114), (115, pf115), (116, pf116), (117, pf117), (118, pf118), (119, pf119), (120, pf120), (121, pf121)]
theorem funcs_eq : funcs = ofFuncs fl := by kernel_rfl
theorem ok : CtxOK C.c where
  mixed := by kernel_rfl
  funcs := by
    intro f pf h
    have hm : (f, pf) ∈ fl := ofFuncs_get (by rw [← funcs_eq]; exact h)
    simp only [fl, List.mem_cons, List.not_mem_nil, or_false, Prod.mk.injEq] at hm
    rcases hm with ⟨rfl, rfl⟩ | ⟨rfl, rfl⟩ | ⟨rfl, rfl⟩ | ⟨rfl, rfl⟩ | ⟨rfl, rfl⟩ | ⟨rfl, rfl⟩ | ⟨rfl, rfl⟩ | ⟨rfl, rfl⟩ | ⟨rfl, rfl⟩ | ⟨rfl, rfl⟩ | ⟨rfl, rfl⟩ | ⟨rfl, rfl⟩ | ⟨rfl, rfl⟩ | ⟨rfl, rfl⟩ | ⟨rfl, rfl⟩ | ⟨rfl, rfl⟩ | ⟨rfl, rfl⟩ | ⟨rfl, rfl⟩ | ⟨rfl, rfl⟩ | ⟨rfl, rfl⟩ | ⟨rfl, rfl⟩ | ⟨rfl, rfl⟩ | ⟨rfl, rfl⟩ | ⟨rfl, rfl⟩ | ⟨rfl, rfl⟩ | ⟨rfl, rfl⟩ | ⟨rfl, rfl⟩ | ⟨rfl, rfl⟩ | ⟨rfl, rfl⟩ | ⟨rfl, rfl⟩ | ⟨rfl, rfl⟩ | ⟨rfl, rfl⟩ | ⟨rfl, rfl⟩ | ⟨rfl, rfl⟩ | ⟨rfl, rfl⟩ | ⟨rfl, rfl⟩ | ⟨rfl, rfl⟩ | ⟨rfl, rfl⟩ | ⟨rfl, rfl⟩ | ⟨rfl, rfl⟩ | ⟨rfl, rfl⟩ | ⟨rfl, rfl⟩ | ⟨rfl, rfl⟩ | ⟨rfl, rfl⟩ | ⟨rfl, rfl⟩ | ⟨rfl, rfl⟩ | ⟨rfl, rfl⟩ | ⟨rfl, rfl⟩ | ⟨rfl, rfl⟩ | ⟨rfl, rfl⟩ | ⟨rfl, rfl⟩ | ⟨rfl, rfl⟩ | ⟨rfl, rfl⟩ | ⟨rfl, rfl⟩ | ⟨rfl, rfl⟩ | ⟨rfl, rfl⟩ | ⟨rfl, rfl⟩ | ⟨rfl, rfl⟩ | ⟨rfl, rfl⟩ | ⟨rfl, rfl⟩ | ⟨rfl, rfl⟩ | ⟨rfl, rfl⟩ | ⟨rfl, rfl⟩ | ⟨rfl, rfl⟩ | ⟨rfl, rfl⟩ | ⟨rfl, rfl⟩ | ⟨rfl, rfl⟩ | ⟨rfl, rfl⟩ | ⟨rfl, rfl⟩ | ⟨rfl, rfl⟩ | ⟨rfl, rfl⟩ | ⟨rfl, rfl⟩ | ⟨rfl, rfl⟩ | ⟨rfl, rfl⟩ | ⟨rfl, rfl⟩ | ⟨rfl, rfl⟩ | ⟨rfl, rfl⟩ | ⟨rfl, rfl⟩ | ⟨rfl, rfl⟩ | ⟨rfl, rfl⟩ | ⟨rfl, rfl⟩ | ⟨rfl, rfl⟩ | ⟨rfl, rfl⟩ | ⟨rfl, rfl⟩ | ⟨rfl, rfl⟩ | ⟨rfl, rfl⟩ | ⟨rfl, rfl⟩ | ⟨rfl, rfl⟩ | ⟨rfl, rfl⟩ | ⟨rfl, rfl⟩ | ⟨rfl, rfl⟩ | ⟨rfl, rfl⟩
    · exact is3
    · exact is4
    · exact is8
    · exact is10
    · exact is11
    · exact is12
    · exact is14
    · exact is16
    · exact is17
    · exact is18
    · exact is19
    · exact is20
    · exact is21
    · exact is22
    · exact is23
    · exact is24
    · exact is25
    · exact is26
    · exact is27
    · exact is28
    · exact is29
    · exact is30
    · exact is31
    · exact is36
    · exact is38
    · exact is39
    · exact is41
    · exact is43
    · exact is44
    · exact is45
    · exact is47
    · exact is49
    · exact is50
    · exact is51
    · exact is52
    · exact is53
    · exact is54
    · exact is55
    · exact is60
    · exact is61
    · exact is62
    · exact is63
    · exact is64
    · exact is65
    · exact is66
    · exact is67
    · exact is68
    · exact is69
    · exact is70
    · exact is71
    · exact is72
    · exact is73
    · exact is74
    · exact is75
    · exact is79
    · exact is80
    · exact is82
    · exact is83
    · exact is84
    · exact is85
    · exact is86
    · exact is87
    · exact is88
    · exact is89
    · exact is90
    · exact is91
    · exact is92
    · exact is93
    · exact is96
    · exact is97
    · exact is98
    · exact is101
    · exact is102
    · exact is103
    · exact is104
    · exact is105
    · exact is106
    · exact is107
    · exact is108
    · exact is109
    · exact is110
    · exact is111
    · exact is112
    · exact is113
    · exact is114
    · exact is115
    · exact is116
    · exact is117
    · exact is118
    · exact is119
    · exact is120
    · exact is121
end Go.Proofs.Ytckpocjeikkblaa.St
