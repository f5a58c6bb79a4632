/- They are the program's. -/
import Derived.Test.YtgeochdkhncfmaaKnP
namespace Go.Proofs.Ytgeochdkhncfmaa.Ev
open Go Go.Abs
set_option maxRecDepth 100000
theorem is13 : prepF Try.prog 13 = some pf13 := by kernel_rfl
theorem is16 : prepF Try.prog 16 = some pf16 := by kernel_rfl
theorem is17 : prepF Try.prog 17 = some pf17 := by kernel_rfl
theorem is19 : prepF Try.prog 19 = some pf19 := by kernel_rfl
theorem is21 : prepF Try.prog 21 = some pf21 := by kernel_rfl
theorem is23 : prepF Try.prog 23 = some pf23 := by kernel_rfl
theorem is24 : prepF Try.prog 24 = some pf24 := by kernel_rfl
theorem is26 : prepF Try.prog 26 = some pf26 := by kernel_rfl
theorem is28 : prepF Try.prog 28 = some pf28 := by kernel_rfl
theorem is30 : prepF Try.prog 30 = some pf30 := by kernel_rfl
theorem is32 : prepF Try.prog 32 = some pf32 := by kernel_rfl
theorem is33 : prepF Try.prog 33 = some pf33 := by kernel_rfl
theorem is35 : prepF Try.prog 35 = some pf35 := by kernel_rfl
theorem is37 : prepF Try.prog 37 = some pf37 := by kernel_rfl
theorem is44 : prepF Try.prog 44 = some pf44 := by kernel_rfl
theorem is48 : prepF Try.prog 48 = some pf48 := by kernel_rfl
theorem is52 : prepF Try.prog 52 = some pf52 := by kernel_rfl
theorem is53 : prepF Try.prog 53 = some pf53 := by kernel_rfl
theorem is57 : prepF Try.prog 57 = some pf57 := by kernel_rfl
theorem is58 : prepF Try.prog 58 = some pf58 := by kernel_rfl
theorem is59 : prepF Try.prog 59 = some pf59 := by kernel_rfl
theorem is60 : prepF Try.prog 60 = some pf60 := by kernel_rfl
theorem is65 : prepF Try.prog 65 = some pf65 := by kernel_rfl
theorem is66 : prepF Try.prog 66 = some pf66 := by kernel_rfl
theorem is67 : prepF Try.prog 67 = some pf67 := by kernel_rfl
theorem is70 : prepF Try.prog 70 = some pf70 := by kernel_rfl
theorem is72 : prepF Try.prog 72 = some pf72 := by kernel_rfl
theorem is74 : prepF Try.prog 74 = some pf74 := by kernel_rfl
theorem is76 : prepF Try.prog 76 = some pf76 := by kernel_rfl
theorem is78 : prepF Try.prog 78 = some pf78 := by kernel_rfl
theorem is79 : prepF Try.prog 79 = some pf79 := by kernel_rfl
theorem is81 : prepF Try.prog 81 = some pf81 := by kernel_rfl
theorem is83 : prepF Try.prog 83 = some pf83 := by kernel_rfl
theorem is84 : prepF Try.prog 84 = some pf84 := by kernel_rfl
theorem is85 : prepF Try.prog 85 = some pf85 := by kernel_rfl
theorem is88 : prepF Try.prog 88 = some pf88 := by kernel_rfl
theorem is90 : prepF Try.prog 90 = some pf90 := by kernel_rfl
theorem is99 : prepF Try.prog 99 = some pf99 := by kernel_rfl
theorem is100 : prepF Try.prog 100 = some pf100 := by kernel_rfl
theorem is101 : prepF Try.prog 101 = some pf101 := by kernel_rfl
theorem is102 : prepF Try.prog 102 = some pf102 := by kernel_rfl
theorem is103 : prepF Try.prog 103 = some pf103 := by kernel_rfl
theorem is106 : prepF Try.prog 106 = some pf106 := by kernel_rfl
theorem is107 : prepF Try.prog 107 = some pf107 := by kernel_rfl
theorem is108 : prepF Try.prog 108 = some pf108 := by kernel_rfl
theorem is109 : prepF Try.prog 109 = some pf109 := by kernel_rfl
theorem is112 : prepF Try.prog 112 = some pf112 := by kernel_rfl
theorem is128 : prepF Try.prog 128 = some pf128 := by kernel_rfl
theorem is129 : prepF Try.prog 129 = some pf129 := by kernel_rfl
theorem is130 : prepF Try.prog 130 = some pf130 := by kernel_rfl
def fl : List (Nat × PF) := [(13, pf13), (16, pf16), (17, pf17), (19, pf19), (21, pf21), (23, pf23), (24, pf24), (26, pf26), (28, pf28), (30, pf30), (32, pf32), (33, pf33), (35, pf35), (37, pf37), (44, pf44), (48, pf48), (52, pf52), (53, pf53), (57, pf57), (58, pf58), (59, pf59), (60, pf60), (65, pf65), (66, pf66), (67, pf67), (70, pf70), (72, pf72), (74, pf74), (76, pf76), (78, pf78), (79, pf79), (81, pf81), (83, pf83), (84, pf84), (85, pf85), (88, pf88), (90, pf90), (99, pf99), (100, pf100), (101, pf101), (102, pf102), (103, pf103), (106, pf106), (107, pf107), (108, pf108), (109, pf109), (112, pf112), (128, pf128), (129, pf129), (130, pf130)]
theorem funcs_eq : funcs = ofFuncs fl := by kernel_rfl
theorem ok : CtxOK C where
  mixed := by kernel_rfl
  funcs := by
    intro f pf h
    have hm : (f, pf) ∈ fl := ofFuncs_get (by rw [← funcs_eq]; exact h)
    simp only [fl, List.mem_cons, List.not_mem_nil, or_false, Prod.mk.injEq] at hm
    rcases hm with ⟨rfl, rfl⟩ | ⟨rfl, rfl⟩ | ⟨rfl, rfl⟩ | ⟨rfl, rfl⟩ | ⟨rfl, rfl⟩ | ⟨rfl, rfl⟩ | ⟨rfl, rfl⟩ | ⟨rfl, rfl⟩ | ⟨rfl, rfl⟩ | ⟨rfl, rfl⟩ | ⟨rfl, rfl⟩ | ⟨rfl, rfl⟩ | ⟨rfl, rfl⟩ | ⟨rfl, rfl⟩ | ⟨rfl, rfl⟩ | ⟨rfl, rfl⟩ | ⟨rfl, rfl⟩ | ⟨rfl, rfl⟩ | ⟨rfl, rfl⟩ | ⟨rfl, rfl⟩ | ⟨rfl, rfl⟩ | ⟨rfl, rfl⟩ | ⟨rfl, rfl⟩ | ⟨rfl, rfl⟩ | ⟨rfl, rfl⟩ | ⟨rfl, rfl⟩ | ⟨rfl, rfl⟩ | ⟨rfl, rfl⟩ | ⟨rfl, rfl⟩ | ⟨rfl, rfl⟩ | ⟨rfl, rfl⟩ | ⟨rfl, rfl⟩ | ⟨rfl, rfl⟩ | ⟨rfl, rfl⟩ | ⟨rfl, rfl⟩ | ⟨rfl, rfl⟩ | ⟨rfl, rfl⟩ | ⟨rfl, rfl⟩ | ⟨rfl, rfl⟩ | ⟨rfl, rfl⟩ | ⟨rfl, rfl⟩ | ⟨rfl, rfl⟩ | ⟨rfl, rfl⟩ | ⟨rfl, rfl⟩ | ⟨rfl, rfl⟩ | ⟨rfl, rfl⟩ | ⟨rfl, rfl⟩ | ⟨rfl, rfl⟩ | ⟨rfl, rfl⟩ | ⟨rfl, rfl⟩
    · exact is13
    · exact is16
    · exact is17
    · exact is19
    · exact is21
    · exact is23
    · exact is24
    · exact is26
    · exact is28
    · exact is30
    · exact is32
    · exact is33
    · exact is35
    · exact is37
    · exact is44
    · exact is48
    · exact is52
    · exact is53
    · exact is57
    · exact is58
    · exact is59
    · exact is60
    · exact is65
    · exact is66
    · exact is67
    · exact is70
    · exact is72
    · exact is74
    · exact is76
    · exact is78
    · exact is79
    · exact is81
    · exact is83
    · exact is84
    · exact is85
    · exact is88
    · exact is90
    · exact is99
    · exact is100
    · exact is101
    · exact is102
    · exact is103
    · exact is106
    · exact is107
    · exact is108
    · exact is109
    · exact is112
    · exact is128
    · exact is129
    · exact is130
end Go.Proofs.Ytgeochdkhncfmaa.Ev
