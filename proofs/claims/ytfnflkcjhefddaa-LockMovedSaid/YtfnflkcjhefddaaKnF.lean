/- They are the program's. -/
import Derived.Test.YtfnflkcjhefddaaKnP
namespace Go.Proofs.Ytfnflkcjhefddaa.Ev
open Go Go.Abs
set_option maxRecDepth 100000
theorem is15 : prepF Try.prog 15 = some pf15 := by kernel_rfl
theorem is16 : prepF Try.prog 16 = some pf16 := by kernel_rfl
theorem is18 : prepF Try.prog 18 = some pf18 := by kernel_rfl
theorem is20 : prepF Try.prog 20 = some pf20 := by kernel_rfl
theorem is22 : prepF Try.prog 22 = some pf22 := by kernel_rfl
theorem is23 : prepF Try.prog 23 = some pf23 := by kernel_rfl
theorem is25 : prepF Try.prog 25 = some pf25 := by kernel_rfl
theorem is27 : prepF Try.prog 27 = some pf27 := by kernel_rfl
theorem is29 : prepF Try.prog 29 = some pf29 := by kernel_rfl
theorem is31 : prepF Try.prog 31 = some pf31 := by kernel_rfl
theorem is33 : prepF Try.prog 33 = some pf33 := by kernel_rfl
theorem is35 : prepF Try.prog 35 = some pf35 := by kernel_rfl
theorem is37 : prepF Try.prog 37 = some pf37 := by kernel_rfl
theorem is39 : prepF Try.prog 39 = some pf39 := by kernel_rfl
theorem is41 : prepF Try.prog 41 = some pf41 := by kernel_rfl
theorem is45 : prepF Try.prog 45 = some pf45 := by kernel_rfl
theorem is51 : prepF Try.prog 51 = some pf51 := by kernel_rfl
theorem is52 : prepF Try.prog 52 = some pf52 := by kernel_rfl
theorem is55 : prepF Try.prog 55 = some pf55 := by kernel_rfl
theorem is59 : prepF Try.prog 59 = some pf59 := by kernel_rfl
theorem is60 : prepF Try.prog 60 = some pf60 := by kernel_rfl
theorem is61 : prepF Try.prog 61 = some pf61 := by kernel_rfl
theorem is63 : prepF Try.prog 63 = some pf63 := by kernel_rfl
theorem is64 : prepF Try.prog 64 = some pf64 := by kernel_rfl
theorem is65 : prepF Try.prog 65 = some pf65 := by kernel_rfl
theorem is66 : prepF Try.prog 66 = some pf66 := by kernel_rfl
theorem is67 : prepF Try.prog 67 = some pf67 := by kernel_rfl
theorem is68 : prepF Try.prog 68 = some pf68 := by kernel_rfl
theorem is71 : prepF Try.prog 71 = some pf71 := by kernel_rfl
theorem is73 : prepF Try.prog 73 = some pf73 := by kernel_rfl
theorem is74 : prepF Try.prog 74 = some pf74 := by kernel_rfl
theorem is77 : prepF Try.prog 77 = some pf77 := by kernel_rfl
theorem is78 : prepF Try.prog 78 = some pf78 := by kernel_rfl
theorem is80 : prepF Try.prog 80 = some pf80 := by kernel_rfl
theorem is81 : prepF Try.prog 81 = some pf81 := by kernel_rfl
theorem is83 : prepF Try.prog 83 = some pf83 := by kernel_rfl
theorem is85 : prepF Try.prog 85 = some pf85 := by kernel_rfl
theorem is89 : prepF Try.prog 89 = some pf89 := by kernel_rfl
theorem is95 : prepF Try.prog 95 = some pf95 := by kernel_rfl
theorem is96 : prepF Try.prog 96 = some pf96 := by kernel_rfl
theorem is97 : prepF Try.prog 97 = some pf97 := by kernel_rfl
theorem is98 : prepF Try.prog 98 = some pf98 := by kernel_rfl
theorem is99 : prepF Try.prog 99 = some pf99 := by kernel_rfl
theorem is100 : prepF Try.prog 100 = some pf100 := by kernel_rfl
theorem is101 : prepF Try.prog 101 = some pf101 := by kernel_rfl
theorem is103 : prepF Try.prog 103 = some pf103 := by kernel_rfl
theorem is104 : prepF Try.prog 104 = some pf104 := by kernel_rfl
theorem is105 : prepF Try.prog 105 = some pf105 := by kernel_rfl
theorem is106 : prepF Try.prog 106 = some pf106 := by kernel_rfl
theorem is107 : prepF Try.prog 107 = some pf107 := by kernel_rfl
theorem is108 : prepF Try.prog 108 = some pf108 := by kernel_rfl
theorem is109 : prepF Try.prog 109 = some pf109 := by kernel_rfl
theorem is120 : prepF Try.prog 120 = some pf120 := by kernel_rfl
def fl : List (Nat × PF) := [(15, pf15), (16, pf16), (18, pf18), (20, pf20), (22, pf22), (23, pf23), (25, pf25), (27, pf27), (29, pf29), (31, pf31), (33, pf33), (35, pf35), (37, pf37), (39, pf39), (41, pf41), (45, pf45), (51, pf51), (52, pf52), (55, pf55), (59, pf59), (60, pf60), (61, pf61), (63, pf63), (64, pf64), (65, pf65), (66, pf66), (67, pf67), (68, pf68), (71, pf71), (73, pf73), (74, pf74), (77, pf77), (78, pf78), (80, pf80), (81, pf81), (83, pf83), (85, pf85), (89, pf89), (95, pf95), (96, pf96), (97, pf97), (98, pf98), (99, pf99), (100, pf100), (101, pf101), (103, pf103), (104, pf104), (105, pf105), (106, pf106), (107, pf107), (108, pf108), (109, pf109), (120, pf120)]
theorem funcs_eq : funcs = ofFuncs fl := by kernel_rfl
theorem ok : CtxOK C where
  mixed := by kernel_rfl
  funcs := by
    intro f pf h
    have hm : (f, pf) ∈ fl := ofFuncs_get (by rw [← funcs_eq]; exact h)
    simp only [fl, List.mem_cons, List.not_mem_nil, or_false, Prod.mk.injEq] at hm
    rcases hm with ⟨rfl, rfl⟩ | ⟨rfl, rfl⟩ | ⟨rfl, rfl⟩ | ⟨rfl, rfl⟩ | ⟨rfl, rfl⟩ | ⟨rfl, rfl⟩ | ⟨rfl, rfl⟩ | ⟨rfl, rfl⟩ | ⟨rfl, rfl⟩ | ⟨rfl, rfl⟩ | ⟨rfl, rfl⟩ | ⟨rfl, rfl⟩ | ⟨rfl, rfl⟩ | ⟨rfl, rfl⟩ | ⟨rfl, rfl⟩ | ⟨rfl, rfl⟩ | ⟨rfl, rfl⟩ | ⟨rfl, rfl⟩ | ⟨rfl, rfl⟩ | ⟨rfl, rfl⟩ | ⟨rfl, rfl⟩ | ⟨rfl, rfl⟩ | ⟨rfl, rfl⟩ | ⟨rfl, rfl⟩ | ⟨rfl, rfl⟩ | ⟨rfl, rfl⟩ | ⟨rfl, rfl⟩ | ⟨rfl, rfl⟩ | ⟨rfl, rfl⟩ | ⟨rfl, rfl⟩ | ⟨rfl, rfl⟩ | ⟨rfl, rfl⟩ | ⟨rfl, rfl⟩ | ⟨rfl, rfl⟩ | ⟨rfl, rfl⟩ | ⟨rfl, rfl⟩ | ⟨rfl, rfl⟩ | ⟨rfl, rfl⟩ | ⟨rfl, rfl⟩ | ⟨rfl, rfl⟩ | ⟨rfl, rfl⟩ | ⟨rfl, rfl⟩ | ⟨rfl, rfl⟩ | ⟨rfl, rfl⟩ | ⟨rfl, rfl⟩ | ⟨rfl, rfl⟩ | ⟨rfl, rfl⟩ | ⟨rfl, rfl⟩ | ⟨rfl, rfl⟩ | ⟨rfl, rfl⟩ | ⟨rfl, rfl⟩ | ⟨rfl, rfl⟩ | ⟨rfl, rfl⟩
    · exact is15
    · exact is16
    · exact is18
    · exact is20
    · exact is22
    · exact is23
    · exact is25
    · exact is27
    · exact is29
    · exact is31
    · exact is33
    · exact is35
    · exact is37
    · exact is39
    · exact is41
    · exact is45
    · exact is51
    · exact is52
    · exact is55
    · exact is59
    · exact is60
    · exact is61
    · exact is63
    · exact is64
    · exact is65
    · exact is66
    · exact is67
    · exact is68
    · exact is71
    · exact is73
    · exact is74
    · exact is77
    · exact is78
    · exact is80
    · exact is81
    · exact is83
    · exact is85
    · exact is89
    · exact is95
    · exact is96
    · exact is97
    · exact is98
    · exact is99
    · exact is100
    · exact is101
    · exact is103
    · exact is104
    · exact is105
    · exact is106
    · exact is107
    · exact is108
    · exact is109
    · exact is120
end Go.Proofs.Ytfnflkcjhefddaa.Ev
