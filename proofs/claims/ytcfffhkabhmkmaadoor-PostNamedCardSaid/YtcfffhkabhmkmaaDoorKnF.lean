/- They are the program's. -/
import Derived.Test.YtcfffhkabhmkmaaDoorKnP
namespace Go.Proofs.YtcfffhkabhmkmaaDoor.Ev
open Go Go.Abs
set_option maxRecDepth 100000
theorem is14 : prepF Tryd.prog 14 = some pf14 := by kernel_rfl
theorem is15 : prepF Tryd.prog 15 = some pf15 := by kernel_rfl
theorem is16 : prepF Tryd.prog 16 = some pf16 := by kernel_rfl
theorem is17 : prepF Tryd.prog 17 = some pf17 := by kernel_rfl
theorem is18 : prepF Tryd.prog 18 = some pf18 := by kernel_rfl
theorem is19 : prepF Tryd.prog 19 = some pf19 := by kernel_rfl
theorem is20 : prepF Tryd.prog 20 = some pf20 := by kernel_rfl
theorem is22 : prepF Tryd.prog 22 = some pf22 := by kernel_rfl
theorem is23 : prepF Tryd.prog 23 = some pf23 := by kernel_rfl
theorem is24 : prepF Tryd.prog 24 = some pf24 := by kernel_rfl
theorem is25 : prepF Tryd.prog 25 = some pf25 := by kernel_rfl
theorem is26 : prepF Tryd.prog 26 = some pf26 := by kernel_rfl
theorem is27 : prepF Tryd.prog 27 = some pf27 := by kernel_rfl
theorem is29 : prepF Tryd.prog 29 = some pf29 := by kernel_rfl
theorem is34 : prepF Tryd.prog 34 = some pf34 := by kernel_rfl
theorem is35 : prepF Tryd.prog 35 = some pf35 := by kernel_rfl
theorem is36 : prepF Tryd.prog 36 = some pf36 := by kernel_rfl
theorem is37 : prepF Tryd.prog 37 = some pf37 := by kernel_rfl
theorem is38 : prepF Tryd.prog 38 = some pf38 := by kernel_rfl
theorem is39 : prepF Tryd.prog 39 = some pf39 := by kernel_rfl
theorem is40 : prepF Tryd.prog 40 = some pf40 := by kernel_rfl
theorem is41 : prepF Tryd.prog 41 = some pf41 := by kernel_rfl
theorem is42 : prepF Tryd.prog 42 = some pf42 := by kernel_rfl
theorem is43 : prepF Tryd.prog 43 = some pf43 := by kernel_rfl
theorem is44 : prepF Tryd.prog 44 = some pf44 := by kernel_rfl
theorem is45 : prepF Tryd.prog 45 = some pf45 := by kernel_rfl
theorem is46 : prepF Tryd.prog 46 = some pf46 := by kernel_rfl
theorem is49 : prepF Tryd.prog 49 = some pf49 := by kernel_rfl
theorem is50 : prepF Tryd.prog 50 = some pf50 := by kernel_rfl
theorem is51 : prepF Tryd.prog 51 = some pf51 := by kernel_rfl
theorem is52 : prepF Tryd.prog 52 = some pf52 := by kernel_rfl
theorem is57 : prepF Tryd.prog 57 = some pf57 := by kernel_rfl
theorem is58 : prepF Tryd.prog 58 = some pf58 := by kernel_rfl
theorem is59 : prepF Tryd.prog 59 = some pf59 := by kernel_rfl
theorem is60 : prepF Tryd.prog 60 = some pf60 := by kernel_rfl
theorem is61 : prepF Tryd.prog 61 = some pf61 := by kernel_rfl
theorem is62 : prepF Tryd.prog 62 = some pf62 := by kernel_rfl
theorem is63 : prepF Tryd.prog 63 = some pf63 := by kernel_rfl
theorem is64 : prepF Tryd.prog 64 = some pf64 := by kernel_rfl
theorem is65 : prepF Tryd.prog 65 = some pf65 := by kernel_rfl
theorem is66 : prepF Tryd.prog 66 = some pf66 := by kernel_rfl
theorem is67 : prepF Tryd.prog 67 = some pf67 := by kernel_rfl
theorem is68 : prepF Tryd.prog 68 = some pf68 := by kernel_rfl
theorem is69 : prepF Tryd.prog 69 = some pf69 := by kernel_rfl
def fl : List (Nat × PF) := [(14, pf14), (15, pf15), (16, pf16), (17, pf17), (18, pf18), (19, pf19), (20, pf20), (22, pf22), (23, pf23), (24, pf24), (25, pf25), (26, pf26), (27, pf27), (29, pf29), (34, pf34), (35, pf35), (36, pf36), (37, pf37), (38, pf38), (39, pf39), (40, pf40), (41, pf41), (42, pf42), (43, pf43), (44, pf44), (45, pf45), (46, pf46), (49, pf49), (50, pf50), (51, pf51), (52, pf52), (57, pf57), (58, pf58), (59, pf59), (60, pf60), (61, pf61), (62, pf62), (63, pf63), (64, pf64), (65, pf65), (66, pf66), (67, pf67), (68, pf68), (69, pf69)]
theorem funcs_eq : funcs = ofFuncs fl := by kernel_rfl
theorem ok : CtxOK C where
  mixed := by kernel_rfl
  funcs := by
    intro f pf h
    have hm : (f, pf) ∈ fl := ofFuncs_get (by rw [← funcs_eq]; exact h)
    simp only [fl, List.mem_cons, List.not_mem_nil, or_false, Prod.mk.injEq] at hm
    rcases hm with ⟨rfl, rfl⟩ | ⟨rfl, rfl⟩ | ⟨rfl, rfl⟩ | ⟨rfl, rfl⟩ | ⟨rfl, rfl⟩ | ⟨rfl, rfl⟩ | ⟨rfl, rfl⟩ | ⟨rfl, rfl⟩ | ⟨rfl, rfl⟩ | ⟨rfl, rfl⟩ | ⟨rfl, rfl⟩ | ⟨rfl, rfl⟩ | ⟨rfl, rfl⟩ | ⟨rfl, rfl⟩ | ⟨rfl, rfl⟩ | ⟨rfl, rfl⟩ | ⟨rfl, rfl⟩ | ⟨rfl, rfl⟩ | ⟨rfl, rfl⟩ | ⟨rfl, rfl⟩ | ⟨rfl, rfl⟩ | ⟨rfl, rfl⟩ | ⟨rfl, rfl⟩ | ⟨rfl, rfl⟩ | ⟨rfl, rfl⟩ | ⟨rfl, rfl⟩ | ⟨rfl, rfl⟩ | ⟨rfl, rfl⟩ | ⟨rfl, rfl⟩ | ⟨rfl, rfl⟩ | ⟨rfl, rfl⟩ | ⟨rfl, rfl⟩ | ⟨rfl, rfl⟩ | ⟨rfl, rfl⟩ | ⟨rfl, rfl⟩ | ⟨rfl, rfl⟩ | ⟨rfl, rfl⟩ | ⟨rfl, rfl⟩ | ⟨rfl, rfl⟩ | ⟨rfl, rfl⟩ | ⟨rfl, rfl⟩ | ⟨rfl, rfl⟩ | ⟨rfl, rfl⟩ | ⟨rfl, rfl⟩
    · exact is14
    · exact is15
    · exact is16
    · exact is17
    · exact is18
    · exact is19
    · exact is20
    · exact is22
    · exact is23
    · exact is24
    · exact is25
    · exact is26
    · exact is27
    · exact is29
    · exact is34
    · exact is35
    · exact is36
    · exact is37
    · exact is38
    · exact is39
    · exact is40
    · exact is41
    · exact is42
    · exact is43
    · exact is44
    · exact is45
    · exact is46
    · exact is49
    · exact is50
    · exact is51
    · exact is52
    · exact is57
    · exact is58
    · exact is59
    · exact is60
    · exact is61
    · exact is62
    · exact is63
    · exact is64
    · exact is65
    · exact is66
    · exact is67
    · exact is68
    · exact is69
end Go.Proofs.YtcfffhkabhmkmaaDoor.Ev
