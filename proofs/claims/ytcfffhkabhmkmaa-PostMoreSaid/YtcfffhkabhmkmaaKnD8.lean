/- The calls of 8, one after another. -/
import Derived.Test.YtcfffhkabhmkmaaKnP
namespace Go.Proofs.Ytcfffhkabhmkmaa.Ev
open Go Go.Abs
set_option maxRecDepth 100000
def r8x0 : Ent := .cells 3 false [⟨0, 0, 7⟩] 1 (.node (some (.int .i64 (.negSucc 0))) (.node (some (.int .i64 (.ofNat 0))) (.node (some (.int .i64 (.ofNat 0))) .nil .nil) (.node (some (.int .i64 (.ofNat 0))) .nil .nil)) (.node (some (.int .i64 (.ofNat 1))) (.node (some (.int .i64 (.ofNat 3))) .nil .nil) (.node (some (.int .i64 (.ofNat 5))) .nil .nil)))
def h8x0a : Heap := heapOf 1 [(0, r8x0)]
def r8x1 : Ent := .cells 3 false [⟨3, 0, 4⟩, ⟨2, 0, 3⟩, ⟨1, 0, 2⟩, ⟨0, 0, 1⟩] 4 (.node (some (.int .i64 (.ofNat 0))) (.node (some (.int .i64 (.ofNat 1))) (.node (some (.int .i64 (.ofNat 5))) .nil .nil) .nil) (.node (some (.int .i64 (.ofNat 3))) .nil .nil))
def h8x0b : Heap := heapAdd h8x0a 7 [(3, r8x1)]
def e8x0 : Ora := ⟨9, [(.slice (some ⟨0, 0, (some 0)⟩) 7 15), (.int .i64 (.ofNat 0))], h8x0a, (.tuple #[(.slice (some ⟨3, 0, (some 3)⟩) 4 2), (.int .i64 (.ofNat 0))]), h8x0b⟩
def h8x1a : Heap := heapAdd h8x0b 8 [(7, r8x0)]
def r8x2 : Ent := .cells 3 false [⟨0, 0, 3⟩] 1 (.node (some (.int .i64 (.ofNat 1))) (.node (some (.int .i64 (.ofNat 3))) .nil .nil) (.node (some (.int .i64 (.ofNat 5))) .nil .nil))
def h8x1b : Heap := heapAdd h8x1a 229 [(176, r8x2)]
def e8x1 : Ora := ⟨18, [(.slice (some ⟨7, 0, (some 0)⟩) 7 15)], h8x1a, (.tuple #[(.slice (some ⟨176, 0, (some 0)⟩) 3 2), (.int .i64 (.ofNat 0))]), h8x1b⟩
def h8x2a : Heap := heapAdd h8x1b 230 [(229, r8x0)]
def r8x3 : Ent := .cells 3 false [⟨0, 0, 3⟩] 1 (.node (some (.int .i64 (.ofNat 1))) (.node (some (.int .i64 (.ofNat 4))) .nil .nil) (.node (some (.int .i64 (.ofNat 6))) .nil .nil))
def h8x2b : Heap := heapAdd h8x2a 355 [(311, r8x3)]
def e8x2 : Ora := ⟨20, [(.slice (some ⟨229, 0, (some 0)⟩) 7 15)], h8x2a, (.tuple #[(.slice (some ⟨311, 0, (some 0)⟩) 3 2), (.int .i64 (.ofNat 0))]), h8x2b⟩
def r8x4 : Ent := .cells 3 false [⟨0, 0, 6⟩] 1 (.node (some (.int .i64 (.negSucc 0))) (.node (some (.int .i64 (.ofNat 0))) (.node (some (.int .i64 (.ofNat 2))) .nil .nil) (.node (some (.int .i64 (.ofNat 4))) .nil .nil)) (.node (some (.int .i64 (.ofNat 1))) (.node (some (.int .i64 (.ofNat 3))) .nil .nil) .nil))
def h8x3a : Heap := heapAdd h8x2b 356 [(355, r8x4)]
def h8x3b : Heap := ⟨399, h8x3a.t⟩
def e8x3 : Ora := ⟨24, [(.slice (some ⟨355, 0, (some 0)⟩) 6 13)], h8x3a, (.tuple #[(.int .i64 (.ofNat 31)), (.int .i64 (.ofNat 0))]), h8x3b⟩
def h8x4a : Heap := heapAdd h8x3b 400 [(399, r8x0)]
def h8x4b : Heap := ⟨621, h8x4a.t⟩
def e8x4 : Ora := ⟨26, [(.slice (some ⟨399, 0, (some 0)⟩) 7 15)], h8x4a, (.tuple #[(.int .i64 (.ofNat 7)), (.int .i64 (.ofNat 0))]), h8x4b⟩
def h8x5a : Heap := heapAdd h8x4b 622 [(621, r8x4)]
def r8x5 : Ent := .cells 3 false [⟨1, 0, 2⟩, ⟨0, 0, 1⟩] 2 (.node (some (.int .i64 (.ofNat 1))) (.node (some (.int .i64 (.ofNat 4))) .nil .nil) .nil)
def h8x5b : Heap := heapAdd h8x5a 753 [(751, r8x5)]
def e8x5 : Ora := ⟨28, [(.slice (some ⟨621, 0, (some 0)⟩) 6 13)], h8x5a, (.tuple #[(.slice (some ⟨751, 0, (some 1)⟩) 2 2), (.int .i64 (.ofNat 0))]), h8x5b⟩
def h8x6a : Heap := heapAdd h8x5b 754 [(753, r8x0)]
def r8x6 : Ent := .cells 3 false [⟨0, 0, 1⟩] 1 (.node (some (.int .i64 (.ofNat 0))) .nil .nil)
def h8x6b : Heap := heapAdd h8x6a 977 [(976, r8x6)]
def e8x6 : Ora := ⟨30, [(.slice (some ⟨753, 0, (some 0)⟩) 7 15)], h8x6a, (.tuple #[(.slice (some ⟨976, 0, (some 0)⟩) 1 2), (.int .i64 (.ofNat 0))]), h8x6b⟩
def r8x7 : Ent := .cells 3 false [⟨0, 0, 4⟩] 1 (.node (some (.int .i64 (.negSucc 0))) (.node (some (.int .i64 (.ofNat 0))) (.node (some (.int .i64 (.ofNat 0))) .nil .nil) .nil) (.node (some (.int .i64 (.ofNat 0))) .nil .nil))
def r8x8 : Ent := .cells 3 false [⟨0, 0, 4⟩] 1 (.node (some (.int .i64 (.ofNat 9))) (.node (some (.int .i64 (.ofNat 1))) (.node (some (.int .i64 (.ofNat 1))) .nil .nil) .nil) (.node (some (.int .i64 (.ofNat 1))) .nil .nil))
def h8x7a : Heap := heapAdd h8x6b 979 [(977, r8x7), (978, r8x8)]
def r8x9 : Ent := .cells 3 false [⟨0, 0, 3⟩] 1 (.node (some (.int .i64 (.ofNat 1))) (.node (some (.int .i64 (.ofNat 2))) .nil .nil) (.node (some (.int .i64 (.ofNat 3))) .nil .nil))
def h8x7b : Heap := heapAdd h8x7a 1018 [(1014, r8x9)]
def e8x7 : Ora := ⟨22, [(.slice (some ⟨977, 0, (some 0)⟩) 4 9), (.slice (some ⟨978, 0, (some 0)⟩) 4 9)], h8x7a, (.tuple #[(.slice (some ⟨1014, 0, (some 0)⟩) 3 2), (.int .i64 (.ofNat 0))]), h8x7b⟩
def r8x10 : Ent := .cells 3 false [⟨0, 0, 4⟩] 1 (.node (some (.int .i64 (.ofNat 3))) (.node (some (.int .i64 (.ofNat 1))) (.node (some (.int .i64 (.ofNat 1))) .nil .nil) .nil) (.node (some (.int .i64 (.ofNat 1))) .nil .nil))
def h8x8a : Heap := heapAdd h8x7b 1020 [(1018, r8x7), (1019, r8x10)]
def h8x8b : Heap := heapAdd h8x8a 1058 [(1037, r8x6)]
def e8x8 : Ora := ⟨22, [(.slice (some ⟨1018, 0, (some 0)⟩) 4 9), (.slice (some ⟨1019, 0, (some 0)⟩) 4 9)], h8x8a, (.tuple #[(.slice (some ⟨1037, 0, (some 0)⟩) 1 2), (.int .i64 (.ofNat 0))]), h8x8b⟩
def h8x9a : Heap := heapAdd h8x8b 1059 [(1058, r8x0)]
def h8x9b : Heap := ⟨1059, h8x9a.t⟩
def e8x9 : Ora := ⟨9, [(.slice (some ⟨1058, 0, (some 0)⟩) 7 15), (.int .i64 (.ofNat 7))], h8x9a, (.tuple #[(.slice none 0 0), (.int .i64 (.ofNat 2))]), h8x9b⟩
def r8x11 : Ent := .cells 3 false [⟨0, 0, 4⟩] 1 (.node (some (.int .i64 (.ofNat 0))) (.node (some (.int .i64 (.ofNat 1))) (.node (some (.int .i64 (.ofNat 5))) .nil .nil) .nil) (.node (some (.int .i64 (.ofNat 3))) .nil .nil))
def r8x12 : Ent := .cells 3 false [⟨0, 0, 2⟩] 1 (.node (some (.int .i64 (.ofNat 1))) (.node (some (.int .i64 (.ofNat 4))) .nil .nil) .nil)
def h8x10a : Heap := heapAdd h8x9b 1068 [(1059, r8x11), (1060, r8x2), (1061, r8x3), (1062, r8x12), (1063, r8x6), (1064, r8x9), (1065, r8x6), (1066, r8x4), (1067, r8x12)]
def h8x10b : Heap := ⟨1069, h8x10a.t⟩
def e8x10 : Ora := ⟨14, [(.slice (some ⟨1066, 0, (some 0)⟩) 6 13), (.slice (some ⟨1067, 0, (some 0)⟩) 2 5)], h8x10a, (.int .i64 (.ofNat 0)), h8x10b⟩
def r8x13 : Ent := .cells 3 false [⟨0, 0, 2⟩] 1 (.node (some (.int .i64 (.ofNat 0))) (.node (some (.int .i64 (.ofNat 3))) .nil .nil) .nil)
def h8x11a : Heap := heapAdd h8x10b 1071 [(1069, r8x4), (1070, r8x13)]
def h8x11b : Heap := ⟨1072, h8x11a.t⟩
def e8x11 : Ora := ⟨14, [(.slice (some ⟨1069, 0, (some 0)⟩) 6 13), (.slice (some ⟨1070, 0, (some 0)⟩) 2 5)], h8x11a, (.int .i64 (.ofNat 14)), h8x11b⟩
def h8x12a : Heap := heapAdd h8x11b 1074 [(1072, r8x0), (1073, r8x3)]
def h8x12b : Heap := ⟨1075, h8x12a.t⟩
def e8x12 : Ora := ⟨16, [(.slice (some ⟨1072, 0, (some 0)⟩) 7 15), (.slice (some ⟨1073, 0, (some 0)⟩) 3 7)], h8x12a, (.int .i64 (.ofNat 0)), h8x12b⟩
def r8x14 : Ent := .cells 3 false [⟨0, 0, 2⟩] 1 (.node (some (.int .i64 (.ofNat 1))) (.node (some (.int .i64 (.ofNat 3))) .nil .nil) .nil)
def h8x13a : Heap := heapAdd h8x12b 1077 [(1075, r8x0), (1076, r8x14)]
def h8x13b : Heap := ⟨1078, h8x13a.t⟩
def e8x13 : Ora := ⟨16, [(.slice (some ⟨1075, 0, (some 0)⟩) 7 15), (.slice (some ⟨1076, 0, (some 0)⟩) 2 5)], h8x13a, (.int .i64 (.ofNat 14)), h8x13b⟩
def tab8 : List Ora := [e8x13, e8x12, e8x11, e8x10, e8x9, e8x8, e8x7, e8x6, e8x5, e8x4, e8x3, e8x2, e8x1, e8x0]
def e8 : Ora := ⟨8, [], noHeap, .bool true, ⟨1078, .nil⟩⟩
end Go.Proofs.Ytcfffhkabhmkmaa.Ev
