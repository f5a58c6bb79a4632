/- They are the program's. -/
import Derived.Test.YtpjmobhhejdhbaaDoorKnP
namespace Go.Proofs.YtpjmobhhejdhbaaDoor.Ev
open Go Go.Abs
set_option maxRecDepth 100000
set_option linter.unusedSectionVars false
variable [HG]
theorem is15 : prepF Tryd.prog 15 = some pf15 := by kernel_rfl
theorem is16 : prepF Tryd.prog 16 = some pf16 := by kernel_rfl
theorem is17 : prepF Tryd.prog 17 = some pf17 := by kernel_rfl
theorem is19 : prepF Tryd.prog 19 = some pf19 := by kernel_rfl
theorem is21 : prepF Tryd.prog 21 = some pf21 := by kernel_rfl
theorem is23 : prepF Tryd.prog 23 = some pf23 := by kernel_rfl
theorem is25 : prepF Tryd.prog 25 = some pf25 := by kernel_rfl
theorem is27 : prepF Tryd.prog 27 = some pf27 := by kernel_rfl
theorem is29 : prepF Tryd.prog 29 = some pf29 := by kernel_rfl
theorem is30 : prepF Tryd.prog 30 = some pf30 := by kernel_rfl
theorem is32 : prepF Tryd.prog 32 = some pf32 := by kernel_rfl
theorem is34 : prepF Tryd.prog 34 = some pf34 := by kernel_rfl
theorem is36 : prepF Tryd.prog 36 = some pf36 := by kernel_rfl
theorem is38 : prepF Tryd.prog 38 = some pf38 := by kernel_rfl
theorem is40 : prepF Tryd.prog 40 = some pf40 := by kernel_rfl
theorem is42 : prepF Tryd.prog 42 = some pf42 := by kernel_rfl
theorem is56 : prepF Tryd.prog 56 = some pf56 := by kernel_rfl
theorem is58 : prepF Tryd.prog 58 = some pf58 := by kernel_rfl
theorem is59 : prepF Tryd.prog 59 = some pf59 := by kernel_rfl
theorem is61 : prepF Tryd.prog 61 = some pf61 := by kernel_rfl
theorem is62 : prepF Tryd.prog 62 = some pf62 := by kernel_rfl
theorem is67 : prepF Tryd.prog 67 = some pf67 := by kernel_rfl
theorem is68 : prepF Tryd.prog 68 = some pf68 := by kernel_rfl
theorem is70 : prepF Tryd.prog 70 = some pf70 := by kernel_rfl
theorem is71 : prepF Tryd.prog 71 = some pf71 := by kernel_rfl
theorem is73 : prepF Tryd.prog 73 = some pf73 := by kernel_rfl
theorem is75 : prepF Tryd.prog 75 = some pf75 := by kernel_rfl
theorem is77 : prepF Tryd.prog 77 = some pf77 := by kernel_rfl
theorem is79 : prepF Tryd.prog 79 = some pf79 := by kernel_rfl
theorem is80 : prepF Tryd.prog 80 = some pf80 := by kernel_rfl
theorem is87 : prepF Tryd.prog 87 = some pf87 := by kernel_rfl
theorem is90 : prepF Tryd.prog 90 = some pf90 := by kernel_rfl
theorem is91 : prepF Tryd.prog 91 = some pf91 := by kernel_rfl
theorem is92 : prepF Tryd.prog 92 = some pf92 := by kernel_rfl
theorem is93 : prepF Tryd.prog 93 = some pf93 := by kernel_rfl
theorem is94 : prepF Tryd.prog 94 = some pf94 := by kernel_rfl
theorem is95 : prepF Tryd.prog 95 = some pf95 := by kernel_rfl
theorem is97 : prepF Tryd.prog 97 = some pf97 := by kernel_rfl
theorem is98 : prepF Tryd.prog 98 = some pf98 := by kernel_rfl
theorem is99 : prepF Tryd.prog 99 = some pf99 := by kernel_rfl
theorem is100 : prepF Tryd.prog 100 = some pf100 := by kernel_rfl
theorem is101 : prepF Tryd.prog 101 = some pf101 := by kernel_rfl
theorem is105 : prepF Tryd.prog 105 = some pf105 := by kernel_rfl
theorem is113 : prepF Tryd.prog 113 = some pf113 := by kernel_rfl
theorem is114 : prepF Tryd.prog 114 = some pf114 := by kernel_rfl
theorem is115 : prepF Tryd.prog 115 = some pf115 := by kernel_rfl
theorem is116 : prepF Tryd.prog 116 = some pf116 := by kernel_rfl
theorem is127 : prepF Tryd.prog 127 = some pf127 := by kernel_rfl
theorem is129 : prepF Tryd.prog 129 = some pf129 := by kernel_rfl
theorem is130 : prepF Tryd.prog 130 = some pf130 := by kernel_rfl
theorem is138 : prepF Tryd.prog 138 = some pf138 := by kernel_rfl
theorem is145 : prepF Tryd.prog 145 = some pf145 := by kernel_rfl
def fl : List (Nat × PF) := [(15, pf15), (16, pf16), (17, pf17), (19, pf19), (21, pf21), (23, pf23), (25, pf25), (27, pf27), (29, pf29), (30, pf30), (32, pf32), (34, pf34), (36, pf36), (38, pf38), (40, pf40), (42, pf42), (56, pf56), (58, pf58), (59, pf59), (61, pf61), (62, pf62), (67, pf67), (68, pf68), (70, pf70), (71, pf71), (73, pf73), (75, pf75), (77, pf77), (79, pf79), (80, pf80), (87, pf87), (90, pf90), (91, pf91), (92, pf92), (93, pf93), (94, pf94), (95, pf95), (97, pf97), (98, pf98), (99, pf99), (100, pf100), (101, pf101), (105, pf105), (113, pf113), (114, pf114), (115, pf115), (116, pf116), (127, pf127), (129, pf129), (130, pf130), (138, pf138), (145, pf145)]
theorem funcs_eq : funcs = ofFuncs fl := by kernel_rfl
theorem ok : CtxOK C where
  mixed := by kernel_rfl
  funcs := by
    intro f pf h
    have hm : (f, pf) ∈ fl := ofFuncs_get (by rw [← funcs_eq]; exact h)
    simp only [fl, List.mem_cons, List.not_mem_nil, or_false, Prod.mk.injEq] at hm
    rcases hm with ⟨rfl, rfl⟩ | ⟨rfl, rfl⟩ | ⟨rfl, rfl⟩ | ⟨rfl, rfl⟩ | ⟨rfl, rfl⟩ | ⟨rfl, rfl⟩ | ⟨rfl, rfl⟩ | ⟨rfl, rfl⟩ | ⟨rfl, rfl⟩ | ⟨rfl, rfl⟩ | ⟨rfl, rfl⟩ | ⟨rfl, rfl⟩ | ⟨rfl, rfl⟩ | ⟨rfl, rfl⟩ | ⟨rfl, rfl⟩ | ⟨rfl, rfl⟩ | ⟨rfl, rfl⟩ | ⟨rfl, rfl⟩ | ⟨rfl, rfl⟩ | ⟨rfl, rfl⟩ | ⟨rfl, rfl⟩ | ⟨rfl, rfl⟩ | ⟨rfl, rfl⟩ | ⟨rfl, rfl⟩ | ⟨rfl, rfl⟩ | ⟨rfl, rfl⟩ | ⟨rfl, rfl⟩ | ⟨rfl, rfl⟩ | ⟨rfl, rfl⟩ | ⟨rfl, rfl⟩ | ⟨rfl, rfl⟩ | ⟨rfl, rfl⟩ | ⟨rfl, rfl⟩ | ⟨rfl, rfl⟩ | ⟨rfl, rfl⟩ | ⟨rfl, rfl⟩ | ⟨rfl, rfl⟩ | ⟨rfl, rfl⟩ | ⟨rfl, rfl⟩ | ⟨rfl, rfl⟩ | ⟨rfl, rfl⟩ | ⟨rfl, rfl⟩ | ⟨rfl, rfl⟩ | ⟨rfl, rfl⟩ | ⟨rfl, rfl⟩ | ⟨rfl, rfl⟩ | ⟨rfl, rfl⟩ | ⟨rfl, rfl⟩ | ⟨rfl, rfl⟩ | ⟨rfl, rfl⟩ | ⟨rfl, rfl⟩ | ⟨rfl, rfl⟩
    · exact is15
    · exact is16
    · exact is17
    · exact is19
    · exact is21
    · exact is23
    · exact is25
    · exact is27
    · exact is29
    · exact is30
    · exact is32
    · exact is34
    · exact is36
    · exact is38
    · exact is40
    · exact is42
    · exact is56
    · exact is58
    · exact is59
    · exact is61
    · exact is62
    · exact is67
    · exact is68
    · exact is70
    · exact is71
    · exact is73
    · exact is75
    · exact is77
    · exact is79
    · exact is80
    · exact is87
    · exact is90
    · exact is91
    · exact is92
    · exact is93
    · exact is94
    · exact is95
    · exact is97
    · exact is98
    · exact is99
    · exact is100
    · exact is101
    · exact is105
    · exact is113
    · exact is114
    · exact is115
    · exact is116
    · exact is127
    · exact is129
    · exact is130
    · exact is138
    · exact is145
end Go.Proofs.YtpjmobhhejdhbaaDoor.Ev
