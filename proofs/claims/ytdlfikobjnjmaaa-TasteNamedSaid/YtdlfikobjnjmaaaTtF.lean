/- They are the program's. -/
import Derived.Test.YtdlfikobjnjmaaaTtP
namespace Go.Proofs.Ytdlfikobjnjmaaa.Tt
open Go Go.Abs
set_option maxRecDepth 100000
set_option maxHeartbeats 4000000
theorem is3 : prepF Try.prog 3 = some pf3 := by kernel_rfl
theorem is4 : prepF Try.prog 4 = some pf4 := by kernel_rfl
theorem is5 : prepF Try.prog 5 = some pf5 := by kernel_rfl
theorem is6 : prepF Try.prog 6 = some pf6 := by kernel_rfl
theorem is7 : prepF Try.prog 7 = some pf7 := by kernel_rfl
theorem is8 : prepF Try.prog 8 = some pf8 := by kernel_rfl
theorem is9 : prepF Try.prog 9 = some pf9 := by kernel_rfl
theorem is10 : prepF Try.prog 10 = some pf10 := by kernel_rfl
theorem is11 : prepF Try.prog 11 = some pf11 := by kernel_rfl
theorem is12 : prepF Try.prog 12 = some pf12 := by kernel_rfl
theorem is13 : prepF Try.prog 13 = some pf13 := by kernel_rfl
theorem is14 : prepF Try.prog 14 = some pf14 := by kernel_rfl
theorem is16 : prepF Try.prog 16 = some pf16 := by kernel_rfl
theorem is17 : prepF Try.prog 17 = some pf17 := by kernel_rfl
theorem is18 : prepF Try.prog 18 = some pf18 := by kernel_rfl
theorem is19 : prepF Try.prog 19 = some pf19 := by kernel_rfl
theorem is20 : prepF Try.prog 20 = some pf20 := by kernel_rfl
theorem is21 : prepF Try.prog 21 = some pf21 := by kernel_rfl
theorem is22 : prepF Try.prog 22 = some pf22 := by kernel_rfl
theorem is32 : prepF Try.prog 32 = some pf32 := by kernel_rfl
theorem is33 : prepF Try.prog 33 = some pf33 := by kernel_rfl
theorem is34 : prepF Try.prog 34 = some pf34 := by kernel_rfl
theorem is35 : prepF Try.prog 35 = some pf35 := by kernel_rfl
theorem is36 : prepF Try.prog 36 = some pf36 := by kernel_rfl
theorem is37 : prepF Try.prog 37 = some pf37 := by kernel_rfl
theorem is38 : prepF Try.prog 38 = some pf38 := by kernel_rfl
theorem is39 : prepF Try.prog 39 = some pf39 := by kernel_rfl
theorem is40 : prepF Try.prog 40 = some pf40 := by kernel_rfl
theorem is41 : prepF Try.prog 41 = some pf41 := by kernel_rfl
theorem is44 : prepF Try.prog 44 = some pf44 := by kernel_rfl
theorem is47 : prepF Try.prog 47 = some pf47 := by kernel_rfl
theorem is48 : prepF Try.prog 48 = some pf48 := by kernel_rfl
theorem is49 : prepF Try.prog 49 = some pf49 := by kernel_rfl
theorem is50 : prepF Try.prog 50 = some pf50 := by kernel_rfl
theorem is52 : prepF Try.prog 52 = some pf52 := by kernel_rfl
theorem is53 : prepF Try.prog 53 = some pf53 := by kernel_rfl
theorem is54 : prepF Try.prog 54 = some pf54 := by kernel_rfl
def fl : List (Nat × PF) := [(3, pf3), (4, pf4), (5, pf5), (6, pf6), (7, pf7), (8, pf8), (9, pf9), (10, pf10), (11, pf11), (12, pf12), (13, pf13), (14, pf14), (16, pf16), (17, pf17), (18, pf18), (19, pf19), (20, pf20), (21, pf21), (22, pf22), (32, pf32), (33, pf33), (34, pf34), (35, pf35), (36, pf36), (37, pf37), (38, pf38), (39, pf39), (40, pf40), (41, pf41), (44, pf44), (47, pf47), (48, pf48), (49, pf49), (50, pf50), (52, pf52), (53, pf53), (54, pf54)]
theorem funcs_eq : funcs = ofFuncs fl := by kernel_rfl
theorem ok : CtxOK C.c where
  mixed := by kernel_rfl
  funcs := by
    intro f pf h
    have hm : (f, pf) ∈ fl := ofFuncs_get (by rw [← funcs_eq]; exact h)
    simp only [fl, List.mem_cons, List.not_mem_nil, or_false, Prod.mk.injEq] at hm
    rcases hm with ⟨rfl, rfl⟩ | ⟨rfl, rfl⟩ | ⟨rfl, rfl⟩ | ⟨rfl, rfl⟩ | ⟨rfl, rfl⟩ | ⟨rfl, rfl⟩ | ⟨rfl, rfl⟩ | ⟨rfl, rfl⟩ | ⟨rfl, rfl⟩ | ⟨rfl, rfl⟩ | ⟨rfl, rfl⟩ | ⟨rfl, rfl⟩ | ⟨rfl, rfl⟩ | ⟨rfl, rfl⟩ | ⟨rfl, rfl⟩ | ⟨rfl, rfl⟩ | ⟨rfl, rfl⟩ | ⟨rfl, rfl⟩ | ⟨rfl, rfl⟩ | ⟨rfl, rfl⟩ | ⟨rfl, rfl⟩ | ⟨rfl, rfl⟩ | ⟨rfl, rfl⟩ | ⟨rfl, rfl⟩ | ⟨rfl, rfl⟩ | ⟨rfl, rfl⟩ | ⟨rfl, rfl⟩ | ⟨rfl, rfl⟩ | ⟨rfl, rfl⟩ | ⟨rfl, rfl⟩ | ⟨rfl, rfl⟩ | ⟨rfl, rfl⟩ | ⟨rfl, rfl⟩ | ⟨rfl, rfl⟩ | ⟨rfl, rfl⟩ | ⟨rfl, rfl⟩ | ⟨rfl, rfl⟩
    · exact is3
    · exact is4
    · exact is5
    · exact is6
    · exact is7
    · exact is8
    · exact is9
    · exact is10
    · exact is11
    · exact is12
    · exact is13
    · exact is14
    · exact is16
    · exact is17
    · exact is18
    · exact is19
    · exact is20
    · exact is21
    · exact is22
    · exact is32
    · exact is33
    · exact is34
    · exact is35
    · exact is36
    · exact is37
    · exact is38
    · exact is39
    · exact is40
    · exact is41
    · exact is44
    · exact is47
    · exact is48
    · exact is49
    · exact is50
    · exact is52
    · exact is53
    · exact is54
end Go.Proofs.Ytdlfikobjnjmaaa.Tt
