/- They are the program's. -/
import Derived.Test.YtckcbhbompfoeaaKnP
namespace Go.Proofs.Ytckcbhbompfoeaa.Ev
open Go Go.Abs
set_option maxRecDepth 100000
theorem is13 : prepF Try.prog 13 = some pf13 := by kernel_rfl
theorem is16 : prepF Try.prog 16 = some pf16 := by kernel_rfl
theorem is17 : prepF Try.prog 17 = some pf17 := by kernel_rfl
theorem is19 : prepF Try.prog 19 = some pf19 := by kernel_rfl
theorem is21 : prepF Try.prog 21 = some pf21 := by kernel_rfl
theorem is23 : prepF Try.prog 23 = some pf23 := by kernel_rfl
theorem is24 : prepF Try.prog 24 = some pf24 := by kernel_rfl
theorem is25 : prepF Try.prog 25 = some pf25 := by kernel_rfl
theorem is27 : prepF Try.prog 27 = some pf27 := by kernel_rfl
theorem is29 : prepF Try.prog 29 = some pf29 := by kernel_rfl
theorem is31 : prepF Try.prog 31 = some pf31 := by kernel_rfl
theorem is33 : prepF Try.prog 33 = some pf33 := by kernel_rfl
theorem is35 : prepF Try.prog 35 = some pf35 := by kernel_rfl
theorem is37 : prepF Try.prog 37 = some pf37 := by kernel_rfl
theorem is39 : prepF Try.prog 39 = some pf39 := by kernel_rfl
theorem is46 : prepF Try.prog 46 = some pf46 := by kernel_rfl
theorem is47 : prepF Try.prog 47 = some pf47 := by kernel_rfl
theorem is49 : prepF Try.prog 49 = some pf49 := by kernel_rfl
theorem is62 : prepF Try.prog 62 = some pf62 := by kernel_rfl
theorem is63 : prepF Try.prog 63 = some pf63 := by kernel_rfl
theorem is64 : prepF Try.prog 64 = some pf64 := by kernel_rfl
theorem is70 : prepF Try.prog 70 = some pf70 := by kernel_rfl
theorem is71 : prepF Try.prog 71 = some pf71 := by kernel_rfl
theorem is72 : prepF Try.prog 72 = some pf72 := by kernel_rfl
theorem is74 : prepF Try.prog 74 = some pf74 := by kernel_rfl
theorem is75 : prepF Try.prog 75 = some pf75 := by kernel_rfl
theorem is77 : prepF Try.prog 77 = some pf77 := by kernel_rfl
theorem is79 : prepF Try.prog 79 = some pf79 := by kernel_rfl
theorem is80 : prepF Try.prog 80 = some pf80 := by kernel_rfl
theorem is81 : prepF Try.prog 81 = some pf81 := by kernel_rfl
theorem is85 : prepF Try.prog 85 = some pf85 := by kernel_rfl
theorem is87 : prepF Try.prog 87 = some pf87 := by kernel_rfl
theorem is89 : prepF Try.prog 89 = some pf89 := by kernel_rfl
theorem is91 : prepF Try.prog 91 = some pf91 := by kernel_rfl
theorem is95 : prepF Try.prog 95 = some pf95 := by kernel_rfl
theorem is105 : prepF Try.prog 105 = some pf105 := by kernel_rfl
theorem is106 : prepF Try.prog 106 = some pf106 := by kernel_rfl
theorem is109 : prepF Try.prog 109 = some pf109 := by kernel_rfl
theorem is110 : prepF Try.prog 110 = some pf110 := by kernel_rfl
theorem is111 : prepF Try.prog 111 = some pf111 := by kernel_rfl
theorem is112 : prepF Try.prog 112 = some pf112 := by kernel_rfl
theorem is113 : prepF Try.prog 113 = some pf113 := by kernel_rfl
theorem is115 : prepF Try.prog 115 = some pf115 := by kernel_rfl
theorem is116 : prepF Try.prog 116 = some pf116 := by kernel_rfl
theorem is117 : prepF Try.prog 117 = some pf117 := by kernel_rfl
theorem is127 : prepF Try.prog 127 = some pf127 := by kernel_rfl
theorem is128 : prepF Try.prog 128 = some pf128 := by kernel_rfl
theorem is129 : prepF Try.prog 129 = some pf129 := by kernel_rfl
theorem is130 : prepF Try.prog 130 = some pf130 := by kernel_rfl
theorem is131 : prepF Try.prog 131 = some pf131 := by kernel_rfl
theorem is137 : prepF Try.prog 137 = some pf137 := by kernel_rfl
theorem is138 : prepF Try.prog 138 = some pf138 := by kernel_rfl
theorem is139 : prepF Try.prog 139 = some pf139 := by kernel_rfl
theorem is140 : prepF Try.prog 140 = some pf140 := by kernel_rfl
theorem is141 : prepF Try.prog 141 = some pf141 := by kernel_rfl
theorem is142 : prepF Try.prog 142 = some pf142 := by kernel_rfl
theorem is143 : prepF Try.prog 143 = some pf143 := by kernel_rfl
theorem is144 : prepF Try.prog 144 = some pf144 := by kernel_rfl
theorem is145 : prepF Try.prog 145 = some pf145 := by kernel_rfl
theorem is146 : prepF Try.prog 146 = some pf146 := by kernel_rfl
theorem is147 : prepF Try.prog 147 = some pf147 := by kernel_rfl
theorem is148 : prepF Try.prog 148 = some pf148 := by kernel_rfl
theorem is151 : prepF Try.prog 151 = some pf151 := by kernel_rfl
theorem is152 : prepF Try.prog 152 = some pf152 := by kernel_rfl
theorem is153 : prepF Try.prog 153 = some pf153 := by kernel_rfl
theorem is154 : prepF Try.prog 154 = some pf154 := by kernel_rfl
theorem is155 : prepF Try.prog 155 = some pf155 := by kernel_rfl
theorem is156 : prepF Try.prog 156 = some pf156 := by kernel_rfl
theorem is174 : prepF Try.prog 174 = some pf174 := by kernel_rfl
theorem is175 : prepF Try.prog 175 = some pf175 := by kernel_rfl
def fl : List (Nat × PF) := [(13, pf13), (16, pf16), (17, pf17), (19, pf19), (21, pf21), (23, pf23), (24, pf24), (25, pf25), (27, pf27), (29, pf29), (31, pf31), (33, pf33), (35, pf35), (37, pf37), (39, pf39), (46, pf46), (47, pf47), (49, pf49), (62, pf62), (63, pf63), (64, pf64), (70, pf70), (71, pf71), (72, pf72), (74, pf74), (75, pf75), (77, pf77), (79, pf79), (80, pf80), (81, pf81), (85, pf85), (87, pf87), (89, pf89), (91, pf91), (95, pf95), (105, pf105), (106, pf106), (109, pf109), (110, pf110), (111, pf111), (112, pf112), (113, pf113), (115, pf115), (116, pf116), (117, pf117), (127, pf127), (128, pf128), (129, pf129), (130, pf130), (131, pf131), (137, pf137), (138, pf138), (139, pf139), (140, pf140), (141, pf141), (142, pf142), (143, pf143), (144, pf144), (145, pf145), (146, pf146), (147, pf147), (148, pf148), (151, pf151), (152, pf152), (153, pf153), (154, pf154), (155, pf155), (156, pf156), (174, pf174), (175, pf175)]
theorem funcs_eq : funcs = ofFuncs fl := by kernel_rfl
theorem ok : CtxOK C where
  mixed := by kernel_rfl
  funcs := by
    intro f pf h
    have hm : (f, pf) ∈ fl := ofFuncs_get (by rw [← funcs_eq]; exact h)
    simp only [fl, List.mem_cons, List.not_mem_nil, or_false, Prod.mk.injEq] at hm
    rcases hm with ⟨rfl, rfl⟩ | ⟨rfl, rfl⟩ | ⟨rfl, rfl⟩ | ⟨rfl, rfl⟩ | ⟨rfl, rfl⟩ | ⟨rfl, rfl⟩ | ⟨rfl, rfl⟩ | ⟨rfl, rfl⟩ | ⟨rfl, rfl⟩ | ⟨rfl, rfl⟩ | ⟨rfl, rfl⟩ | ⟨rfl, rfl⟩ | ⟨rfl, rfl⟩ | ⟨rfl, rfl⟩ | ⟨rfl, rfl⟩ | ⟨rfl, rfl⟩ | ⟨rfl, rfl⟩ | ⟨rfl, rfl⟩ | ⟨rfl, rfl⟩ | ⟨rfl, rfl⟩ | ⟨rfl, rfl⟩ | ⟨rfl, rfl⟩ | ⟨rfl, rfl⟩ | ⟨rfl, rfl⟩ | ⟨rfl, rfl⟩ | ⟨rfl, rfl⟩ | ⟨rfl, rfl⟩ | ⟨rfl, rfl⟩ | ⟨rfl, rfl⟩ | ⟨rfl, rfl⟩ | ⟨rfl, rfl⟩ | ⟨rfl, rfl⟩ | ⟨rfl, rfl⟩ | ⟨rfl, rfl⟩ | ⟨rfl, rfl⟩ | ⟨rfl, rfl⟩ | ⟨rfl, rfl⟩ | ⟨rfl, rfl⟩ | ⟨rfl, rfl⟩ | ⟨rfl, rfl⟩ | ⟨rfl, rfl⟩ | ⟨rfl, rfl⟩ | ⟨rfl, rfl⟩ | ⟨rfl, rfl⟩ | ⟨rfl, rfl⟩ | ⟨rfl, rfl⟩ | ⟨rfl, rfl⟩ | ⟨rfl, rfl⟩ | ⟨rfl, rfl⟩ | ⟨rfl, rfl⟩ | ⟨rfl, rfl⟩ | ⟨rfl, rfl⟩ | ⟨rfl, rfl⟩ | ⟨rfl, rfl⟩ | ⟨rfl, rfl⟩ | ⟨rfl, rfl⟩ | ⟨rfl, rfl⟩ | ⟨rfl, rfl⟩ | ⟨rfl, rfl⟩ | ⟨rfl, rfl⟩ | ⟨rfl, rfl⟩ | ⟨rfl, rfl⟩ | ⟨rfl, rfl⟩ | ⟨rfl, rfl⟩ | ⟨rfl, rfl⟩ | ⟨rfl, rfl⟩ | ⟨rfl, rfl⟩ | ⟨rfl, rfl⟩ | ⟨rfl, rfl⟩ | ⟨rfl, rfl⟩
    · exact is13
    · exact is16
    · exact is17
    · exact is19
    · exact is21
    · exact is23
    · exact is24
    · exact is25
    · exact is27
    · exact is29
    · exact is31
    · exact is33
    · exact is35
    · exact is37
    · exact is39
    · exact is46
    · exact is47
    · exact is49
    · exact is62
    · exact is63
    · exact is64
    · exact is70
    · exact is71
    · exact is72
    · exact is74
    · exact is75
    · exact is77
    · exact is79
    · exact is80
    · exact is81
    · exact is85
    · exact is87
    · exact is89
    · exact is91
    · exact is95
    · exact is105
    · exact is106
    · exact is109
    · exact is110
    · exact is111
    · exact is112
    · exact is113
    · exact is115
    · exact is116
    · exact is117
    · exact is127
    · exact is128
    · exact is129
    · exact is130
    · exact is131
    · exact is137
    · exact is138
    · exact is139
    · exact is140
    · exact is141
    · exact is142
    · exact is143
    · exact is144
    · exact is145
    · exact is146
    · exact is147
    · exact is148
    · exact is151
    · exact is152
    · exact is153
    · exact is154
    · exact is155
    · exact is156
    · exact is174
    · exact is175
end Go.Proofs.Ytckcbhbompfoeaa.Ev
