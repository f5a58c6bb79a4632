/- They are the program's. -/
import Derived.Test.YtmogipomnjihcaaKnP
namespace Go.Proofs.Ytmogipomnjihcaa.Ev
open Go Go.Abs
set_option maxRecDepth 100000
theorem is16 : prepF Try.prog 16 = some pf16 := by kernel_rfl
theorem is17 : prepF Try.prog 17 = some pf17 := by kernel_rfl
theorem is19 : prepF Try.prog 19 = some pf19 := by kernel_rfl
theorem is21 : prepF Try.prog 21 = some pf21 := by kernel_rfl
theorem is22 : prepF Try.prog 22 = some pf22 := by kernel_rfl
theorem is24 : prepF Try.prog 24 = some pf24 := by kernel_rfl
theorem is26 : prepF Try.prog 26 = some pf26 := by kernel_rfl
theorem is28 : prepF Try.prog 28 = some pf28 := by kernel_rfl
theorem is29 : prepF Try.prog 29 = some pf29 := by kernel_rfl
theorem is31 : prepF Try.prog 31 = some pf31 := by kernel_rfl
theorem is33 : prepF Try.prog 33 = some pf33 := by kernel_rfl
theorem is35 : prepF Try.prog 35 = some pf35 := by kernel_rfl
theorem is37 : prepF Try.prog 37 = some pf37 := by kernel_rfl
theorem is39 : prepF Try.prog 39 = some pf39 := by kernel_rfl
theorem is41 : prepF Try.prog 41 = some pf41 := by kernel_rfl
theorem is46 : prepF Try.prog 46 = some pf46 := by kernel_rfl
theorem is52 : prepF Try.prog 52 = some pf52 := by kernel_rfl
theorem is53 : prepF Try.prog 53 = some pf53 := by kernel_rfl
theorem is54 : prepF Try.prog 54 = some pf54 := by kernel_rfl
theorem is55 : prepF Try.prog 55 = some pf55 := by kernel_rfl
theorem is56 : prepF Try.prog 56 = some pf56 := by kernel_rfl
theorem is57 : prepF Try.prog 57 = some pf57 := by kernel_rfl
theorem is59 : prepF Try.prog 59 = some pf59 := by kernel_rfl
theorem is60 : prepF Try.prog 60 = some pf60 := by kernel_rfl
theorem is63 : prepF Try.prog 63 = some pf63 := by kernel_rfl
theorem is64 : prepF Try.prog 64 = some pf64 := by kernel_rfl
theorem is66 : prepF Try.prog 66 = some pf66 := by kernel_rfl
theorem is67 : prepF Try.prog 67 = some pf67 := by kernel_rfl
theorem is70 : prepF Try.prog 70 = some pf70 := by kernel_rfl
theorem is72 : prepF Try.prog 72 = some pf72 := by kernel_rfl
theorem is73 : prepF Try.prog 73 = some pf73 := by kernel_rfl
theorem is74 : prepF Try.prog 74 = some pf74 := by kernel_rfl
theorem is77 : prepF Try.prog 77 = some pf77 := by kernel_rfl
theorem is78 : prepF Try.prog 78 = some pf78 := by kernel_rfl
theorem is80 : prepF Try.prog 80 = some pf80 := by kernel_rfl
theorem is83 : prepF Try.prog 83 = some pf83 := by kernel_rfl
theorem is88 : prepF Try.prog 88 = some pf88 := by kernel_rfl
theorem is89 : prepF Try.prog 89 = some pf89 := by kernel_rfl
theorem is90 : prepF Try.prog 90 = some pf90 := by kernel_rfl
theorem is91 : prepF Try.prog 91 = some pf91 := by kernel_rfl
theorem is92 : prepF Try.prog 92 = some pf92 := by kernel_rfl
theorem is93 : prepF Try.prog 93 = some pf93 := by kernel_rfl
theorem is94 : prepF Try.prog 94 = some pf94 := by kernel_rfl
theorem is97 : prepF Try.prog 97 = some pf97 := by kernel_rfl
theorem is98 : prepF Try.prog 98 = some pf98 := by kernel_rfl
theorem is99 : prepF Try.prog 99 = some pf99 := by kernel_rfl
theorem is100 : prepF Try.prog 100 = some pf100 := by kernel_rfl
theorem is101 : prepF Try.prog 101 = some pf101 := by kernel_rfl
theorem is102 : prepF Try.prog 102 = some pf102 := by kernel_rfl
theorem is103 : prepF Try.prog 103 = some pf103 := by kernel_rfl
def fl : List (Nat × PF) := [(16, pf16), (17, pf17), (19, pf19), (21, pf21), (22, pf22), (24, pf24), (26, pf26), (28, pf28), (29, pf29), (31, pf31), (33, pf33), (35, pf35), (37, pf37), (39, pf39), (41, pf41), (46, pf46), (52, pf52), (53, pf53), (54, pf54), (55, pf55), (56, pf56), (57, pf57), (59, pf59), (60, pf60), (63, pf63), (64, pf64), (66, pf66), (67, pf67), (70, pf70), (72, pf72), (73, pf73), (74, pf74), (77, pf77), (78, pf78), (80, pf80), (83, pf83), (88, pf88), (89, pf89), (90, pf90), (91, pf91), (92, pf92), (93, pf93), (94, pf94), (97, pf97), (98, pf98), (99, pf99), (100, pf100), (101, pf101), (102, pf102), (103, pf103)]
theorem funcs_eq : funcs = ofFuncs fl := by kernel_rfl
theorem ok : CtxOK C where
  mixed := by kernel_rfl
  funcs := by
    intro f pf h
    have hm : (f, pf) ∈ fl := ofFuncs_get (by rw [← funcs_eq]; exact h)
    simp only [fl, List.mem_cons, List.not_mem_nil, or_false, Prod.mk.injEq] at hm
    rcases hm with ⟨rfl, rfl⟩ | ⟨rfl, rfl⟩ | ⟨rfl, rfl⟩ | ⟨rfl, rfl⟩ | ⟨rfl, rfl⟩ | ⟨rfl, rfl⟩ | ⟨rfl, rfl⟩ | ⟨rfl, rfl⟩ | ⟨rfl, rfl⟩ | ⟨rfl, rfl⟩ | ⟨rfl, rfl⟩ | ⟨rfl, rfl⟩ | ⟨rfl, rfl⟩ | ⟨rfl, rfl⟩ | ⟨rfl, rfl⟩ | ⟨rfl, rfl⟩ | ⟨rfl, rfl⟩ | ⟨rfl, rfl⟩ | ⟨rfl, rfl⟩ | ⟨rfl, rfl⟩ | ⟨rfl, rfl⟩ | ⟨rfl, rfl⟩ | ⟨rfl, rfl⟩ | ⟨rfl, rfl⟩ | ⟨rfl, rfl⟩ | ⟨rfl, rfl⟩ | ⟨rfl, rfl⟩ | ⟨rfl, rfl⟩ | ⟨rfl, rfl⟩ | ⟨rfl, rfl⟩ | ⟨rfl, rfl⟩ | ⟨rfl, rfl⟩ | ⟨rfl, rfl⟩ | ⟨rfl, rfl⟩ | ⟨rfl, rfl⟩ | ⟨rfl, rfl⟩ | ⟨rfl, rfl⟩ | ⟨rfl, rfl⟩ | ⟨rfl, rfl⟩ | ⟨rfl, rfl⟩ | ⟨rfl, rfl⟩ | ⟨rfl, rfl⟩ | ⟨rfl, rfl⟩ | ⟨rfl, rfl⟩ | ⟨rfl, rfl⟩ | ⟨rfl, rfl⟩ | ⟨rfl, rfl⟩ | ⟨rfl, rfl⟩ | ⟨rfl, rfl⟩ | ⟨rfl, rfl⟩
    · exact is16
    · exact is17
    · exact is19
    · exact is21
    · exact is22
    · exact is24
    · exact is26
    · exact is28
    · exact is29
    · exact is31
    · exact is33
    · exact is35
    · exact is37
    · exact is39
    · exact is41
    · exact is46
    · exact is52
    · exact is53
    · exact is54
    · exact is55
    · exact is56
    · exact is57
    · exact is59
    · exact is60
    · exact is63
    · exact is64
    · exact is66
    · exact is67
    · exact is70
    · exact is72
    · exact is73
    · exact is74
    · exact is77
    · exact is78
    · exact is80
    · exact is83
    · exact is88
    · exact is89
    · exact is90
    · exact is91
    · exact is92
    · exact is93
    · exact is94
    · exact is97
    · exact is98
    · exact is99
    · exact is100
    · exact is101
    · exact is102
    · exact is103
end Go.Proofs.Ytmogipomnjihcaa.Ev
