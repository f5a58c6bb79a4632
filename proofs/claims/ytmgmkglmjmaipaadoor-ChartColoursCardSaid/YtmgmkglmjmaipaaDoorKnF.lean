/- They are the program's. -/
import Derived.Test.YtmgmkglmjmaipaaDoorKnP
namespace Go.Proofs.YtmgmkglmjmaipaaDoor.Ev
open Go Go.Abs
set_option maxRecDepth 100000
theorem is16 : prepF Tryd.prog 16 = some pf16 := by kernel_rfl
theorem is17 : prepF Tryd.prog 17 = some pf17 := by kernel_rfl
theorem is19 : prepF Tryd.prog 19 = some pf19 := by kernel_rfl
theorem is21 : prepF Tryd.prog 21 = some pf21 := by kernel_rfl
theorem is22 : prepF Tryd.prog 22 = some pf22 := by kernel_rfl
theorem is24 : prepF Tryd.prog 24 = some pf24 := by kernel_rfl
theorem is26 : prepF Tryd.prog 26 = some pf26 := by kernel_rfl
theorem is28 : prepF Tryd.prog 28 = some pf28 := by kernel_rfl
theorem is30 : prepF Tryd.prog 30 = some pf30 := by kernel_rfl
theorem is32 : prepF Tryd.prog 32 = some pf32 := by kernel_rfl
theorem is34 : prepF Tryd.prog 34 = some pf34 := by kernel_rfl
theorem is36 : prepF Tryd.prog 36 = some pf36 := by kernel_rfl
theorem is38 : prepF Tryd.prog 38 = some pf38 := by kernel_rfl
theorem is40 : prepF Tryd.prog 40 = some pf40 := by kernel_rfl
theorem is41 : prepF Tryd.prog 41 = some pf41 := by kernel_rfl
theorem is56 : prepF Tryd.prog 56 = some pf56 := by kernel_rfl
theorem is58 : prepF Tryd.prog 58 = some pf58 := by kernel_rfl
theorem is59 : prepF Tryd.prog 59 = some pf59 := by kernel_rfl
theorem is60 : prepF Tryd.prog 60 = some pf60 := by kernel_rfl
theorem is61 : prepF Tryd.prog 61 = some pf61 := by kernel_rfl
theorem is62 : prepF Tryd.prog 62 = some pf62 := by kernel_rfl
theorem is63 : prepF Tryd.prog 63 = some pf63 := by kernel_rfl
theorem is64 : prepF Tryd.prog 64 = some pf64 := by kernel_rfl
theorem is65 : prepF Tryd.prog 65 = some pf65 := by kernel_rfl
theorem is68 : prepF Tryd.prog 68 = some pf68 := by kernel_rfl
theorem is70 : prepF Tryd.prog 70 = some pf70 := by kernel_rfl
theorem is74 : prepF Tryd.prog 74 = some pf74 := by kernel_rfl
theorem is76 : prepF Tryd.prog 76 = some pf76 := by kernel_rfl
theorem is77 : prepF Tryd.prog 77 = some pf77 := by kernel_rfl
theorem is78 : prepF Tryd.prog 78 = some pf78 := by kernel_rfl
theorem is79 : prepF Tryd.prog 79 = some pf79 := by kernel_rfl
theorem is81 : prepF Tryd.prog 81 = some pf81 := by kernel_rfl
theorem is82 : prepF Tryd.prog 82 = some pf82 := by kernel_rfl
theorem is85 : prepF Tryd.prog 85 = some pf85 := by kernel_rfl
theorem is90 : prepF Tryd.prog 90 = some pf90 := by kernel_rfl
theorem is96 : prepF Tryd.prog 96 = some pf96 := by kernel_rfl
theorem is98 : prepF Tryd.prog 98 = some pf98 := by kernel_rfl
theorem is101 : prepF Tryd.prog 101 = some pf101 := by kernel_rfl
theorem is102 : prepF Tryd.prog 102 = some pf102 := by kernel_rfl
theorem is103 : prepF Tryd.prog 103 = some pf103 := by kernel_rfl
def fl : List (Nat × PF) := [(16, pf16), (17, pf17), (19, pf19), (21, pf21), (22, pf22), (24, pf24), (26, pf26), (28, pf28), (30, pf30), (32, pf32), (34, pf34), (36, pf36), (38, pf38), (40, pf40), (41, pf41), (56, pf56), (58, pf58), (59, pf59), (60, pf60), (61, pf61), (62, pf62), (63, pf63), (64, pf64), (65, pf65), (68, pf68), (70, pf70), (74, pf74), (76, pf76), (77, pf77), (78, pf78), (79, pf79), (81, pf81), (82, pf82), (85, pf85), (90, pf90), (96, pf96), (98, pf98), (101, pf101), (102, pf102), (103, pf103)]
theorem funcs_eq : funcs = ofFuncs fl := by kernel_rfl
theorem ok : CtxOK C where
  mixed := by kernel_rfl
  funcs := by
    intro f pf h
    have hm : (f, pf) ∈ fl := ofFuncs_get (by rw [← funcs_eq]; exact h)
    simp only [fl, List.mem_cons, List.not_mem_nil, or_false, Prod.mk.injEq] at hm
    rcases hm with ⟨rfl, rfl⟩ | ⟨rfl, rfl⟩ | ⟨rfl, rfl⟩ | ⟨rfl, rfl⟩ | ⟨rfl, rfl⟩ | ⟨rfl, rfl⟩ | ⟨rfl, rfl⟩ | ⟨rfl, rfl⟩ | ⟨rfl, rfl⟩ | ⟨rfl, rfl⟩ | ⟨rfl, rfl⟩ | ⟨rfl, rfl⟩ | ⟨rfl, rfl⟩ | ⟨rfl, rfl⟩ | ⟨rfl, rfl⟩ | ⟨rfl, rfl⟩ | ⟨rfl, rfl⟩ | ⟨rfl, rfl⟩ | ⟨rfl, rfl⟩ | ⟨rfl, rfl⟩ | ⟨rfl, rfl⟩ | ⟨rfl, rfl⟩ | ⟨rfl, rfl⟩ | ⟨rfl, rfl⟩ | ⟨rfl, rfl⟩ | ⟨rfl, rfl⟩ | ⟨rfl, rfl⟩ | ⟨rfl, rfl⟩ | ⟨rfl, rfl⟩ | ⟨rfl, rfl⟩ | ⟨rfl, rfl⟩ | ⟨rfl, rfl⟩ | ⟨rfl, rfl⟩ | ⟨rfl, rfl⟩ | ⟨rfl, rfl⟩ | ⟨rfl, rfl⟩ | ⟨rfl, rfl⟩ | ⟨rfl, rfl⟩ | ⟨rfl, rfl⟩ | ⟨rfl, rfl⟩
    · exact is16
    · exact is17
    · exact is19
    · exact is21
    · exact is22
    · exact is24
    · exact is26
    · exact is28
    · exact is30
    · exact is32
    · exact is34
    · exact is36
    · exact is38
    · exact is40
    · exact is41
    · exact is56
    · exact is58
    · exact is59
    · exact is60
    · exact is61
    · exact is62
    · exact is63
    · exact is64
    · exact is65
    · exact is68
    · exact is70
    · exact is74
    · exact is76
    · exact is77
    · exact is78
    · exact is79
    · exact is81
    · exact is82
    · exact is85
    · exact is90
    · exact is96
    · exact is98
    · exact is101
    · exact is102
    · exact is103
end Go.Proofs.YtmgmkglmjmaipaaDoor.Ev
