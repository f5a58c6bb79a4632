/- They are the program's. -/
import Derived.Test.YteopjpfhhekkoaaTtP
namespace Go.Proofs.Yteopjpfhhekkoaa.Tt
open Go Go.Abs
set_option maxRecDepth 100000
set_option maxHeartbeats 4000000
theorem is13 : prepF Try.prog 13 = some pf13 := by kernel_rfl
theorem is25 : prepF Try.prog 25 = some pf25 := by kernel_rfl
theorem is29 : prepF Try.prog 29 = some pf29 := by kernel_rfl
theorem is31 : prepF Try.prog 31 = some pf31 := by kernel_rfl
theorem is33 : prepF Try.prog 33 = some pf33 := by kernel_rfl
theorem is36 : prepF Try.prog 36 = some pf36 := by kernel_rfl
theorem is37 : prepF Try.prog 37 = some pf37 := by kernel_rfl
theorem is39 : prepF Try.prog 39 = some pf39 := by kernel_rfl
theorem is41 : prepF Try.prog 41 = some pf41 := by kernel_rfl
theorem is43 : prepF Try.prog 43 = some pf43 := by kernel_rfl
theorem is44 : prepF Try.prog 44 = some pf44 := by kernel_rfl
theorem is45 : prepF Try.prog 45 = some pf45 := by kernel_rfl
theorem is46 : prepF Try.prog 46 = some pf46 := by kernel_rfl
theorem is49 : prepF Try.prog 49 = some pf49 := by kernel_rfl
theorem is50 : prepF Try.prog 50 = some pf50 := by kernel_rfl
theorem is52 : prepF Try.prog 52 = some pf52 := by kernel_rfl
theorem is54 : prepF Try.prog 54 = some pf54 := by kernel_rfl
theorem is57 : prepF Try.prog 57 = some pf57 := by kernel_rfl
theorem is58 : prepF Try.prog 58 = some pf58 := by kernel_rfl
theorem is65 : prepF Try.prog 65 = some pf65 := by kernel_rfl
theorem is67 : prepF Try.prog 67 = some pf67 := by kernel_rfl
theorem is69 : prepF Try.prog 69 = some pf69 := by kernel_rfl
theorem is71 : prepF Try.prog 71 = some pf71 := by kernel_rfl
theorem is73 : prepF Try.prog 73 = some pf73 := by kernel_rfl
theorem is74 : prepF Try.prog 74 = some pf74 := by kernel_rfl
theorem is76 : prepF Try.prog 76 = some pf76 := by kernel_rfl
theorem is78 : prepF Try.prog 78 = some pf78 := by kernel_rfl
theorem is80 : prepF Try.prog 80 = some pf80 := by kernel_rfl
theorem is83 : prepF Try.prog 83 = some pf83 := by kernel_rfl
theorem is84 : prepF Try.prog 84 = some pf84 := by kernel_rfl
theorem is85 : prepF Try.prog 85 = some pf85 := by kernel_rfl
theorem is90 : prepF Try.prog 90 = some pf90 := by kernel_rfl
theorem is91 : prepF Try.prog 91 = some pf91 := by kernel_rfl
theorem is92 : prepF Try.prog 92 = some pf92 := by kernel_rfl
theorem is93 : prepF Try.prog 93 = some pf93 := by kernel_rfl
theorem is94 : prepF Try.prog 94 = some pf94 := by kernel_rfl
theorem is95 : prepF Try.prog 95 = some pf95 := by kernel_rfl
theorem is96 : prepF Try.prog 96 = some pf96 := by kernel_rfl
theorem is97 : prepF Try.prog 97 = some pf97 := by kernel_rfl
theorem is98 : prepF Try.prog 98 = some pf98 := by kernel_rfl
theorem is99 : prepF Try.prog 99 = some pf99 := by kernel_rfl
theorem is100 : prepF Try.prog 100 = some pf100 := by kernel_rfl
theorem is101 : prepF Try.prog 101 = some pf101 := by kernel_rfl
def fl : List (Nat × PF) := [(13, pf13), (25, pf25), (29, pf29), (31, pf31), (33, pf33), (36, pf36), (37, pf37), (39, pf39), (41, pf41), (43, pf43), (44, pf44), (45, pf45), (46, pf46), (49, pf49), (50, pf50), (52, pf52), (54, pf54), (57, pf57), (58, pf58), (65, pf65), (67, pf67), (69, pf69), (71, pf71), (73, pf73), (74, pf74), (76, pf76), (78, pf78), (80, pf80), (83, pf83), (84, pf84), (85, pf85), (90, pf90), (91, pf91), (92, pf92), (93, pf93), (94, pf94), (95, pf95), (96, pf96), (97, pf97), (98, pf98), (99, pf99), (100, pf100), (101, pf101)]
theorem funcs_eq : funcs = ofFuncs fl := by kernel_rfl
theorem ok : CtxOK C.c where
  mixed := by kernel_rfl
  funcs := by
    intro f pf h
    have hm : (f, pf) ∈ fl := ofFuncs_get (by rw [← funcs_eq]; exact h)
    simp only [fl, List.mem_cons, List.not_mem_nil, or_false, Prod.mk.injEq] at hm
    rcases hm with ⟨rfl, rfl⟩ | ⟨rfl, rfl⟩ | ⟨rfl, rfl⟩ | ⟨rfl, rfl⟩ | ⟨rfl, rfl⟩ | ⟨rfl, rfl⟩ | ⟨rfl, rfl⟩ | ⟨rfl, rfl⟩ | ⟨rfl, rfl⟩ | ⟨rfl, rfl⟩ | ⟨rfl, rfl⟩ | ⟨rfl, rfl⟩ | ⟨rfl, rfl⟩ | ⟨rfl, rfl⟩ | ⟨rfl, rfl⟩ | ⟨rfl, rfl⟩ | ⟨rfl, rfl⟩ | ⟨rfl, rfl⟩ | ⟨rfl, rfl⟩ | ⟨rfl, rfl⟩ | ⟨rfl, rfl⟩ | ⟨rfl, rfl⟩ | ⟨rfl, rfl⟩ | ⟨rfl, rfl⟩ | ⟨rfl, rfl⟩ | ⟨rfl, rfl⟩ | ⟨rfl, rfl⟩ | ⟨rfl, rfl⟩ | ⟨rfl, rfl⟩ | ⟨rfl, rfl⟩ | ⟨rfl, rfl⟩ | ⟨rfl, rfl⟩ | ⟨rfl, rfl⟩ | ⟨rfl, rfl⟩ | ⟨rfl, rfl⟩ | ⟨rfl, rfl⟩ | ⟨rfl, rfl⟩ | ⟨rfl, rfl⟩ | ⟨rfl, rfl⟩ | ⟨rfl, rfl⟩ | ⟨rfl, rfl⟩ | ⟨rfl, rfl⟩ | ⟨rfl, rfl⟩
    · exact is13
    · exact is25
    · exact is29
    · exact is31
    · exact is33
    · exact is36
    · exact is37
    · exact is39
    · exact is41
    · exact is43
    · exact is44
    · exact is45
    · exact is46
    · exact is49
    · exact is50
    · exact is52
    · exact is54
    · exact is57
    · exact is58
    · exact is65
    · exact is67
    · exact is69
    · exact is71
    · exact is73
    · exact is74
    · exact is76
    · exact is78
    · exact is80
    · exact is83
    · exact is84
    · exact is85
    · exact is90
    · exact is91
    · exact is92
    · exact is93
    · exact is94
    · exact is95
    · exact is96
    · exact is97
    · exact is98
    · exact is99
    · exact is100
    · exact is101
end Go.Proofs.Yteopjpfhhekkoaa.Tt
