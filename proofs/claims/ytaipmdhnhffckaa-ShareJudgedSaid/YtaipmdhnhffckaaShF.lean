/- They are the program's. -/
import Derived.Test.YtaipmdhnhffckaaShP
namespace Go.Proofs.Ytaipmdhnhffckaa.Sh
open Go Go.Abs
set_option maxRecDepth 100000
set_option maxHeartbeats 4000000
theorem is10 : prepF Try.prog 10 = some pf10 := by kernel_rfl
theorem is11 : prepF Try.prog 11 = some pf11 := by kernel_rfl
theorem is15 : prepF Try.prog 15 = some pf15 := by kernel_rfl
theorem is19 : prepF Try.prog 19 = some pf19 := by kernel_rfl
theorem is21 : prepF Try.prog 21 = some pf21 := by kernel_rfl
theorem is23 : prepF Try.prog 23 = some pf23 := by kernel_rfl
theorem is25 : prepF Try.prog 25 = some pf25 := by kernel_rfl
theorem is26 : prepF Try.prog 26 = some pf26 := by kernel_rfl
theorem is27 : prepF Try.prog 27 = some pf27 := by kernel_rfl
theorem is29 : prepF Try.prog 29 = some pf29 := by kernel_rfl
theorem is31 : prepF Try.prog 31 = some pf31 := by kernel_rfl
theorem is33 : prepF Try.prog 33 = some pf33 := by kernel_rfl
theorem is35 : prepF Try.prog 35 = some pf35 := by kernel_rfl
theorem is37 : prepF Try.prog 37 = some pf37 := by kernel_rfl
theorem is38 : prepF Try.prog 38 = some pf38 := by kernel_rfl
theorem is40 : prepF Try.prog 40 = some pf40 := by kernel_rfl
theorem is42 : prepF Try.prog 42 = some pf42 := by kernel_rfl
theorem is44 : prepF Try.prog 44 = some pf44 := by kernel_rfl
theorem is46 : prepF Try.prog 46 = some pf46 := by kernel_rfl
theorem is47 : prepF Try.prog 47 = some pf47 := by kernel_rfl
theorem is48 : prepF Try.prog 48 = some pf48 := by kernel_rfl
theorem is49 : prepF Try.prog 49 = some pf49 := by kernel_rfl
theorem is50 : prepF Try.prog 50 = some pf50 := by kernel_rfl
theorem is52 : prepF Try.prog 52 = some pf52 := by kernel_rfl
theorem is53 : prepF Try.prog 53 = some pf53 := by kernel_rfl
theorem is54 : prepF Try.prog 54 = some pf54 := by kernel_rfl
theorem is55 : prepF Try.prog 55 = some pf55 := by kernel_rfl
theorem is56 : prepF Try.prog 56 = some pf56 := by kernel_rfl
theorem is57 : prepF Try.prog 57 = some pf57 := by kernel_rfl
theorem is58 : prepF Try.prog 58 = some pf58 := by kernel_rfl
theorem is59 : prepF Try.prog 59 = some pf59 := by kernel_rfl
theorem is61 : prepF Try.prog 61 = some pf61 := by kernel_rfl
theorem is62 : prepF Try.prog 62 = some pf62 := by kernel_rfl
theorem is63 : prepF Try.prog 63 = some pf63 := by kernel_rfl
theorem is66 : prepF Try.prog 66 = some pf66 := by kernel_rfl
theorem is70 : prepF Try.prog 70 = some pf70 := by kernel_rfl
theorem is71 : prepF Try.prog 71 = some pf71 := by kernel_rfl
theorem is72 : prepF Try.prog 72 = some pf72 := by kernel_rfl
theorem is75 : prepF Try.prog 75 = some pf75 := by kernel_rfl
theorem is76 : prepF Try.prog 76 = some pf76 := by kernel_rfl
theorem is77 : prepF Try.prog 77 = some pf77 := by kernel_rfl
theorem is79 : prepF Try.prog 79 = some pf79 := by kernel_rfl
theorem is80 : prepF Try.prog 80 = some pf80 := by kernel_rfl
theorem is81 : prepF Try.prog 81 = some pf81 := by kernel_rfl
theorem is83 : prepF Try.prog 83 = some pf83 := by kernel_rfl
theorem is85 : prepF Try.prog 85 = some pf85 := by kernel_rfl
theorem is86 : prepF Try.prog 86 = some pf86 := by kernel_rfl
theorem is88 : prepF Try.prog 88 = some pf88 := by kernel_rfl
theorem is91 : prepF Try.prog 91 = some pf91 := by kernel_rfl
theorem is92 : prepF Try.prog 92 = some pf92 := by kernel_rfl
theorem is94 : prepF Try.prog 94 = some pf94 := by kernel_rfl
theorem is97 : prepF Try.prog 97 = some pf97 := by kernel_rfl
theorem is98 : prepF Try.prog 98 = some pf98 := by kernel_rfl
theorem is100 : prepF Try.prog 100 = some pf100 := by kernel_rfl
theorem is101 : prepF Try.prog 101 = some pf101 := by kernel_rfl
theorem is102 : prepF Try.prog 102 = some pf102 := by kernel_rfl
theorem is103 : prepF Try.prog 103 = some pf103 := by kernel_rfl
theorem is104 : prepF Try.prog 104 = some pf104 := by kernel_rfl
theorem is105 : prepF Try.prog 105 = some pf105 := by kernel_rfl
theorem is106 : prepF Try.prog 106 = some pf106 := by kernel_rfl
theorem is107 : prepF Try.prog 107 = some pf107 := by kernel_rfl
theorem is108 : prepF Try.prog 108 = some pf108 := by kernel_rfl
theorem is109 : prepF Try.prog 109 = some pf109 := by kernel_rfl
theorem is110 : prepF Try.prog 110 = some pf110 := by kernel_rfl
theorem is111 : prepF Try.prog 111 = some pf111 := by kernel_rfl
theorem is112 : prepF Try.prog 112 = some pf112 := by kernel_rfl
theorem is113 : prepF Try.prog 113 = some pf113 := by kernel_rfl
theorem is114 : prepF Try.prog 114 = some pf114 := by kernel_rfl
theorem is115 : prepF Try.prog 115 = some pf115 := by kernel_rfl
theorem is116 : prepF Try.prog 116 = some pf116 := by kernel_rfl
theorem is117 : prepF Try.prog 117 = some pf117 := by kernel_rfl
theorem is118 : prepF Try.prog 118 = some pf118 := by kernel_rfl
theorem is119 : prepF Try.prog 119 = some pf119 := by kernel_rfl
theorem is121 : prepF Try.prog 121 = some pf121 := by kernel_rfl
theorem is122 : prepF Try.prog 122 = some pf122 := by kernel_rfl
theorem is123 : prepF Try.prog 123 = some pf123 := by kernel_rfl
theorem is124 : prepF Try.prog 124 = some pf124 := by kernel_rfl
theorem is125 : prepF Try.prog 125 = some pf125 := by kernel_rfl
theorem is126 : prepF Try.prog 126 = some pf126 := by kernel_rfl
theorem is127 : prepF Try.prog 127 = some pf127 := by kernel_rfl
theorem is128 : prepF Try.prog 128 = some pf128 := by kernel_rfl
theorem is129 : prepF Try.prog 129 = some pf129 := by kernel_rfl
theorem is130 : prepF Try.prog 130 = some pf130 := by kernel_rfl
theorem is131 : prepF Try.prog 131 = some pf131 := by kernel_rfl
theorem is132 : prepF Try.prog 132 = some pf132 := by kernel_rfl
theorem is133 : prepF Try.prog 133 = some pf133 := by kernel_rfl
theorem is134 : prepF Try.prog 134 = some pf134 := by kernel_rfl
theorem is135 : prepF Try.prog 135 = some pf135 := by kernel_rfl
def fl : List (Nat × PF) := [(10, pf10), (11, pf11), (15, pf15), (19, pf19), (21, pf21), (23, pf23), (25, pf25), (26, pf26), (27, pf27), (29, pf29), (31, pf31), (33, pf33), (35, pf35), (37, pf37), (38, pf38), (40, pf40), (42, pf42), (44, pf44), (46, pf46), (47, pf47), (48, pf48), (49, pf49), (50, pf50), (52, pf52), (53, pf53), (54, pf54), (55, pf55), (56, pf56), (57, pf57), (58, pf58), (59, pf59), (61, pf61), (62, pf62), (63, pf63), (66, pf66), (70, pf70), (71, pf71), (72, pf72), (75, pf75), (76, pf76), (77, pf77), (79, pf79), (80, pf80), (81, pf81), (83, pf83), (85, pf85), (86, pf86), (88, pf88), (91, pf91), (92, pf92), (94, pf94), (97, pf97), (98, pf98), (100, pf100), (101, pf101), (102, pf102), (103, pf103), (104, pf104), (105, pf105), (106, pf106), (107, pf107), (108, pf108), (109, pf109), (110, pf110), (111, pf111), (112, pf112), (113, pf113), (114, pf114), (115, pf115), (116, pf116), (117, pf117), (118, pf118), (119, pf119), (121, pf121), (122, pf122), (123, pf123), (124, pf124), (125, pf125), (126, pf126), (127, pf127), (128, pf128), (129, pf129), (130, pf130), (131, pf131), (132, pf132), (133, pf133), (134, pf134), (135, pf135)]
theorem funcs_eq : funcs = ofFuncs fl := by kernel_rfl
theorem ok : CtxOK C.c where
  mixed := by kernel_rfl
  funcs := by
    intro f pf h
    have hm : (f, pf) ∈ fl := ofFuncs_get (by rw [← funcs_eq]; exact h)
    simp only [fl, List.mem_cons, List.not_mem_nil, or_false, Prod.mk.injEq] at hm
    rcases hm with ⟨rfl, rfl⟩ | ⟨rfl, rfl⟩ | ⟨rfl, rfl⟩ | ⟨rfl, rfl⟩ | ⟨rfl, rfl⟩ | ⟨rfl, rfl⟩ | ⟨rfl, rfl⟩ | ⟨rfl, rfl⟩ | ⟨rfl, rfl⟩ | ⟨rfl, rfl⟩ | ⟨rfl, rfl⟩ | ⟨rfl, rfl⟩ | ⟨rfl, rfl⟩ | ⟨rfl, rfl⟩ | ⟨rfl, rfl⟩ | ⟨rfl, rfl⟩ | ⟨rfl, rfl⟩ | ⟨rfl, rfl⟩ | ⟨rfl, rfl⟩ | ⟨rfl, rfl⟩ | ⟨rfl, rfl⟩ | ⟨rfl, rfl⟩ | ⟨rfl, rfl⟩ | ⟨rfl, rfl⟩ | ⟨rfl, rfl⟩ | ⟨rfl, rfl⟩ | ⟨rfl, rfl⟩ | ⟨rfl, rfl⟩ | ⟨rfl, rfl⟩ | ⟨rfl, rfl⟩ | ⟨rfl, rfl⟩ | ⟨rfl, rfl⟩ | ⟨rfl, rfl⟩ | ⟨rfl, rfl⟩ | ⟨rfl, rfl⟩ | ⟨rfl, rfl⟩ | ⟨rfl, rfl⟩ | ⟨rfl, rfl⟩ | ⟨rfl, rfl⟩ | ⟨rfl, rfl⟩ | ⟨rfl, rfl⟩ | ⟨rfl, rfl⟩ | ⟨rfl, rfl⟩ | ⟨rfl, rfl⟩ | ⟨rfl, rfl⟩ | ⟨rfl, rfl⟩ | ⟨rfl, rfl⟩ | ⟨rfl, rfl⟩ | ⟨rfl, rfl⟩ | ⟨rfl, rfl⟩ | ⟨rfl, rfl⟩ | ⟨rfl, rfl⟩ | ⟨rfl, rfl⟩ | ⟨rfl, rfl⟩ | ⟨rfl, rfl⟩ | ⟨rfl, rfl⟩ | ⟨rfl, rfl⟩ | ⟨rfl, rfl⟩ | ⟨rfl, rfl⟩ | ⟨rfl, rfl⟩ | ⟨rfl, rfl⟩ | ⟨rfl, rfl⟩ | ⟨rfl, rfl⟩ | ⟨rfl, rfl⟩ | ⟨rfl, rfl⟩ | ⟨rfl, rfl⟩ | ⟨rfl, rfl⟩ | ⟨rfl, rfl⟩ | ⟨rfl, rfl⟩ | ⟨rfl, rfl⟩ | ⟨rfl, rfl⟩ | ⟨rfl, rfl⟩ | ⟨rfl, rfl⟩ | ⟨rfl, rfl⟩ | ⟨rfl, rfl⟩ | ⟨rfl, rfl⟩ | ⟨rfl, rfl⟩ | ⟨rfl, rfl⟩ | ⟨rfl, rfl⟩ | ⟨rfl, rfl⟩ | ⟨rfl, rfl⟩ | ⟨rfl, rfl⟩ | ⟨rfl, rfl⟩ | ⟨rfl, rfl⟩ | ⟨rfl, rfl⟩ | ⟨rfl, rfl⟩ | ⟨rfl, rfl⟩ | ⟨rfl, rfl⟩
    · exact is10
    · exact is11
    · exact is15
    · exact is19
    · exact is21
    · exact is23
    · exact is25
    · exact is26
    · exact is27
    · exact is29
    · exact is31
    · exact is33
    · exact is35
    · exact is37
    · exact is38
    · exact is40
    · exact is42
    · exact is44
    · exact is46
    · exact is47
    · exact is48
    · exact is49
    · exact is50
    · exact is52
    · exact is53
    · exact is54
    · exact is55
    · exact is56
    · exact is57
    · exact is58
    · exact is59
    · exact is61
    · exact is62
    · exact is63
    · exact is66
    · exact is70
    · exact is71
    · exact is72
    · exact is75
    · exact is76
    · exact is77
    · exact is79
    · exact is80
    · exact is81
    · exact is83
    · exact is85
    · exact is86
    · exact is88
    · exact is91
    · exact is92
    · exact is94
    · exact is97
    · exact is98
    · exact is100
    · exact is101
    · exact is102
    · exact is103
    · exact is104
    · exact is105
    · exact is106
    · exact is107
    · exact is108
    · exact is109
    · exact is110
    · exact is111
    · exact is112
    · exact is113
    · exact is114
    · exact is115
    · exact is116
    · exact is117
    · exact is118
    · exact is119
    · exact is121
    · exact is122
    · exact is123
    · exact is124
    · exact is125
    · exact is126
    · exact is127
    · exact is128
    · exact is129
    · exact is130
    · exact is131
    · exact is132
    · exact is133
    · exact is134
    · exact is135
end Go.Proofs.Ytaipmdhnhffckaa.Sh
