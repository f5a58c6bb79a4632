/- They are the program's. -/
import Derived.Test.YtmgmkglmjmaipaaDoorCtP
namespace Go.Proofs.YtmgmkglmjmaipaaDoor.Ct
open Go Go.Abs
set_option maxRecDepth 100000
set_option maxHeartbeats 4000000
theorem is5 : prepF Tryd.prog 5 = some pf5 := by kernel_rfl
theorem is6 : prepF Tryd.prog 6 = some pf6 := by kernel_rfl
theorem is15 : prepF Tryd.prog 15 = some pf15 := by kernel_rfl
theorem is17 : prepF Tryd.prog 17 = some pf17 := by kernel_rfl
theorem is19 : prepF Tryd.prog 19 = some pf19 := by kernel_rfl
theorem is21 : prepF Tryd.prog 21 = some pf21 := by kernel_rfl
theorem is22 : prepF Tryd.prog 22 = some pf22 := by kernel_rfl
theorem is23 : prepF Tryd.prog 23 = some pf23 := by kernel_rfl
theorem is24 : prepF Tryd.prog 24 = some pf24 := by kernel_rfl
theorem is26 : prepF Tryd.prog 26 = some pf26 := by kernel_rfl
theorem is28 : prepF Tryd.prog 28 = some pf28 := by kernel_rfl
theorem is30 : prepF Tryd.prog 30 = some pf30 := by kernel_rfl
theorem is34 : prepF Tryd.prog 34 = some pf34 := by kernel_rfl
theorem is35 : prepF Tryd.prog 35 = some pf35 := by kernel_rfl
theorem is36 : prepF Tryd.prog 36 = some pf36 := by kernel_rfl
theorem is37 : prepF Tryd.prog 37 = some pf37 := by kernel_rfl
theorem is38 : prepF Tryd.prog 38 = some pf38 := by kernel_rfl
theorem is39 : prepF Tryd.prog 39 = some pf39 := by kernel_rfl
theorem is40 : prepF Tryd.prog 40 = some pf40 := by kernel_rfl
theorem is41 : prepF Tryd.prog 41 = some pf41 := by kernel_rfl
theorem is42 : prepF Tryd.prog 42 = some pf42 := by kernel_rfl
theorem is43 : prepF Tryd.prog 43 = some pf43 := by kernel_rfl
theorem is44 : prepF Tryd.prog 44 = some pf44 := by kernel_rfl
theorem is45 : prepF Tryd.prog 45 = some pf45 := by kernel_rfl
theorem is47 : prepF Tryd.prog 47 = some pf47 := by kernel_rfl
theorem is48 : prepF Tryd.prog 48 = some pf48 := by kernel_rfl
theorem is54 : prepF Tryd.prog 54 = some pf54 := by kernel_rfl
theorem is55 : prepF Tryd.prog 55 = some pf55 := by kernel_rfl
theorem is56 : prepF Tryd.prog 56 = some pf56 := by kernel_rfl
theorem is64 : prepF Tryd.prog 64 = some pf64 := by kernel_rfl
theorem is65 : prepF Tryd.prog 65 = some pf65 := by kernel_rfl
theorem is67 : prepF Tryd.prog 67 = some pf67 := by kernel_rfl
theorem is68 : prepF Tryd.prog 68 = some pf68 := by kernel_rfl
theorem is70 : prepF Tryd.prog 70 = some pf70 := by kernel_rfl
theorem is71 : prepF Tryd.prog 71 = some pf71 := by kernel_rfl
theorem is72 : prepF Tryd.prog 72 = some pf72 := by kernel_rfl
theorem is73 : prepF Tryd.prog 73 = some pf73 := by kernel_rfl
theorem is74 : prepF Tryd.prog 74 = some pf74 := by kernel_rfl
theorem is76 : prepF Tryd.prog 76 = some pf76 := by kernel_rfl
theorem is78 : prepF Tryd.prog 78 = some pf78 := by kernel_rfl
theorem is79 : prepF Tryd.prog 79 = some pf79 := by kernel_rfl
theorem is80 : prepF Tryd.prog 80 = some pf80 := by kernel_rfl
theorem is81 : prepF Tryd.prog 81 = some pf81 := by kernel_rfl
theorem is82 : prepF Tryd.prog 82 = some pf82 := by kernel_rfl
theorem is83 : prepF Tryd.prog 83 = some pf83 := by kernel_rfl
theorem is84 : prepF Tryd.prog 84 = some pf84 := by kernel_rfl
theorem is85 : prepF Tryd.prog 85 = some pf85 := by kernel_rfl
theorem is86 : prepF Tryd.prog 86 = some pf86 := by kernel_rfl
theorem is87 : prepF Tryd.prog 87 = some pf87 := by kernel_rfl
theorem is88 : prepF Tryd.prog 88 = some pf88 := by kernel_rfl
theorem is90 : prepF Tryd.prog 90 = some pf90 := by kernel_rfl
theorem is95 : prepF Tryd.prog 95 = some pf95 := by kernel_rfl
theorem is96 : prepF Tryd.prog 96 = some pf96 := by kernel_rfl
theorem is98 : prepF Tryd.prog 98 = some pf98 := by kernel_rfl
theorem is99 : prepF Tryd.prog 99 = some pf99 := by kernel_rfl
theorem is100 : prepF Tryd.prog 100 = some pf100 := by kernel_rfl
theorem is101 : prepF Tryd.prog 101 = some pf101 := by kernel_rfl
theorem is102 : prepF Tryd.prog 102 = some pf102 := by kernel_rfl
theorem is103 : prepF Tryd.prog 103 = some pf103 := by kernel_rfl
def fl : List (Nat × PF) := [(5, pf5), (6, pf6), (15, pf15), (17, pf17), (19, pf19), (21, pf21), (22, pf22), (23, pf23), (24, pf24), (26, pf26), (28, pf28), (30, pf30), (34, pf34), (35, pf35), (36, pf36), (37, pf37), (38, pf38), (39, pf39), (40, pf40), (41, pf41), (42, pf42), (43, pf43), (44, pf44), (45, pf45), (47, pf47), (48, pf48), (54, pf54), (55, pf55), (56, pf56), (64, pf64), (65, pf65), (67, pf67), (68, pf68), (70, pf70), (71, pf71), (72, pf72), (73, pf73), (74, pf74), (76, pf76), (78, pf78), (79, pf79), (80, pf80), (81, pf81), (82, pf82), (83, pf83), (84, pf84), (85, pf85), (86, pf86), (87, pf87), (88, pf88), (90, pf90), (95, pf95), (96, pf96), (98, pf98), (99, pf99), (100, pf100), (101, pf101), (102, pf102), (103, pf103)]
theorem funcs_eq : funcs = ofFuncs fl := by kernel_rfl
theorem ok : CtxOK C.c where
  mixed := by kernel_rfl
  funcs := by
    intro f pf h
    have hm : (f, pf) ∈ fl := ofFuncs_get (by rw [← funcs_eq]; exact h)
    simp only [fl, List.mem_cons, List.not_mem_nil, or_false, Prod.mk.injEq] at hm
    rcases hm with ⟨rfl, rfl⟩ | ⟨rfl, rfl⟩ | ⟨rfl, rfl⟩ | ⟨rfl, rfl⟩ | ⟨rfl, rfl⟩ | ⟨rfl, rfl⟩ | ⟨rfl, rfl⟩ | ⟨rfl, rfl⟩ | ⟨rfl, rfl⟩ | ⟨rfl, rfl⟩ | ⟨rfl, rfl⟩ | ⟨rfl, rfl⟩ | ⟨rfl, rfl⟩ | ⟨rfl, rfl⟩ | ⟨rfl, rfl⟩ | ⟨rfl, rfl⟩ | ⟨rfl, rfl⟩ | ⟨rfl, rfl⟩ | ⟨rfl, rfl⟩ | ⟨rfl, rfl⟩ | ⟨rfl, rfl⟩ | ⟨rfl, rfl⟩ | ⟨rfl, rfl⟩ | ⟨rfl, rfl⟩ | ⟨rfl, rfl⟩ | ⟨rfl, rfl⟩ | ⟨rfl, rfl⟩ | ⟨rfl, rfl⟩ | ⟨rfl, rfl⟩ | ⟨rfl, rfl⟩ | ⟨rfl, rfl⟩ | ⟨rfl, rfl⟩ | ⟨rfl, rfl⟩ | ⟨rfl, rfl⟩ | ⟨rfl, rfl⟩ | ⟨rfl, rfl⟩ | ⟨rfl, rfl⟩ | ⟨rfl, rfl⟩ | ⟨rfl, rfl⟩ | ⟨rfl, rfl⟩ | ⟨rfl, rfl⟩ | ⟨rfl, rfl⟩ | ⟨rfl, rfl⟩ | ⟨rfl, rfl⟩ | ⟨rfl, rfl⟩ | ⟨rfl, rfl⟩ | ⟨rfl, rfl⟩ | ⟨rfl, rfl⟩ | ⟨rfl, rfl⟩ | ⟨rfl, rfl⟩ | ⟨rfl, rfl⟩ | ⟨rfl, rfl⟩ | ⟨rfl, rfl⟩ | ⟨rfl, rfl⟩ | ⟨rfl, rfl⟩ | ⟨rfl, rfl⟩ | ⟨rfl, rfl⟩ | ⟨rfl, rfl⟩ | ⟨rfl, rfl⟩
    · exact is5
    · exact is6
    · exact is15
    · exact is17
    · exact is19
    · exact is21
    · exact is22
    · exact is23
    · exact is24
    · exact is26
    · exact is28
    · exact is30
    · exact is34
    · exact is35
    · exact is36
    · exact is37
    · exact is38
    · exact is39
    · exact is40
    · exact is41
    · exact is42
    · exact is43
    · exact is44
    · exact is45
    · exact is47
    · exact is48
    · exact is54
    · exact is55
    · exact is56
    · exact is64
    · exact is65
    · exact is67
    · exact is68
    · exact is70
    · exact is71
    · exact is72
    · exact is73
    · exact is74
    · exact is76
    · exact is78
    · exact is79
    · exact is80
    · exact is81
    · exact is82
    · exact is83
    · exact is84
    · exact is85
    · exact is86
    · exact is87
    · exact is88
    · exact is90
    · exact is95
    · exact is96
    · exact is98
    · exact is99
    · exact is100
    · exact is101
    · exact is102
    · exact is103
end Go.Proofs.YtmgmkglmjmaipaaDoor.Ct
