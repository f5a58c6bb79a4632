/- The calls of 19, one after another. -/
import Derived.Test.YtcfffhkabhmkmaaDoorKnP
namespace Go.Proofs.YtcfffhkabhmkmaaDoor.Ev
open Go Go.Abs
set_option maxRecDepth 100000
def r19x0 : Ent := .cells 3 false [⟨0, 0, 7⟩] 1 (.node (some (.int .i64 (.negSucc 0))) (.node (some (.int .i64 (.ofNat 0))) (.node (some (.int .i64 (.ofNat 0))) .nil .nil) (.node (some (.int .i64 (.ofNat 0))) .nil .nil)) (.node (some (.int .i64 (.ofNat 1))) (.node (some (.int .i64 (.ofNat 3))) .nil .nil) (.node (some (.int .i64 (.ofNat 5))) .nil .nil)))
def h19x0a : Heap := heapOf 1 [(0, r19x0)]
def r19x1 : Ent := .cells 3 false [⟨3, 0, 4⟩, ⟨2, 0, 3⟩, ⟨1, 0, 2⟩, ⟨0, 0, 1⟩] 4 (.node (some (.int .i64 (.ofNat 0))) (.node (some (.int .i64 (.ofNat 1))) (.node (some (.int .i64 (.ofNat 5))) .nil .nil) .nil) (.node (some (.int .i64 (.ofNat 3))) .nil .nil))
def h19x0b : Heap := heapAdd h19x0a 7 [(3, r19x1)]
def e19x0 : Ora := ⟨20, [(.slice (some ⟨0, 0, (some 0)⟩) 7 15), (.int .i64 (.ofNat 0))], h19x0a, (.tuple #[(.slice (some ⟨3, 0, (some 3)⟩) 4 2), (.int .i64 (.ofNat 0))]), h19x0b⟩
def h19x1a : Heap := heapAdd h19x0b 8 [(7, r19x0)]
def r19x2 : Ent := .cells 3 false [⟨0, 0, 3⟩] 1 (.node (some (.int .i64 (.ofNat 1))) (.node (some (.int .i64 (.ofNat 3))) .nil .nil) (.node (some (.int .i64 (.ofNat 5))) .nil .nil))
def h19x1b : Heap := heapAdd h19x1a 229 [(176, r19x2)]
def e19x1 : Ora := ⟨14, [(.slice (some ⟨7, 0, (some 0)⟩) 7 15)], h19x1a, (.tuple #[(.slice (some ⟨176, 0, (some 0)⟩) 3 2), (.int .i64 (.ofNat 0))]), h19x1b⟩
def h19x2a : Heap := heapAdd h19x1b 230 [(229, r19x0)]
def r19x3 : Ent := .cells 3 false [⟨0, 0, 3⟩] 1 (.node (some (.int .i64 (.ofNat 1))) (.node (some (.int .i64 (.ofNat 4))) .nil .nil) (.node (some (.int .i64 (.ofNat 6))) .nil .nil))
def h19x2b : Heap := heapAdd h19x2a 355 [(311, r19x3)]
def e19x2 : Ora := ⟨15, [(.slice (some ⟨229, 0, (some 0)⟩) 7 15)], h19x2a, (.tuple #[(.slice (some ⟨311, 0, (some 0)⟩) 3 2), (.int .i64 (.ofNat 0))]), h19x2b⟩
def r19x4 : Ent := .cells 3 false [⟨0, 0, 6⟩] 1 (.node (some (.int .i64 (.negSucc 0))) (.node (some (.int .i64 (.ofNat 0))) (.node (some (.int .i64 (.ofNat 2))) .nil .nil) (.node (some (.int .i64 (.ofNat 4))) .nil .nil)) (.node (some (.int .i64 (.ofNat 1))) (.node (some (.int .i64 (.ofNat 3))) .nil .nil) .nil))
def h19x3a : Heap := heapAdd h19x2b 356 [(355, r19x4)]
def h19x3b : Heap := ⟨399, h19x3a.t⟩
def e19x3 : Ora := ⟨22, [(.slice (some ⟨355, 0, (some 0)⟩) 6 13)], h19x3a, (.tuple #[(.int .i64 (.ofNat 31)), (.int .i64 (.ofNat 0))]), h19x3b⟩
def h19x4a : Heap := heapAdd h19x3b 400 [(399, r19x0)]
def h19x4b : Heap := ⟨621, h19x4a.t⟩
def e19x4 : Ora := ⟨23, [(.slice (some ⟨399, 0, (some 0)⟩) 7 15)], h19x4a, (.tuple #[(.int .i64 (.ofNat 7)), (.int .i64 (.ofNat 0))]), h19x4b⟩
def h19x5a : Heap := heapAdd h19x4b 622 [(621, r19x4)]
def r19x5 : Ent := .cells 3 false [⟨1, 0, 2⟩, ⟨0, 0, 1⟩] 2 (.node (some (.int .i64 (.ofNat 1))) (.node (some (.int .i64 (.ofNat 4))) .nil .nil) .nil)
def h19x5b : Heap := heapAdd h19x5a 753 [(751, r19x5)]
def e19x5 : Ora := ⟨24, [(.slice (some ⟨621, 0, (some 0)⟩) 6 13)], h19x5a, (.tuple #[(.slice (some ⟨751, 0, (some 1)⟩) 2 2), (.int .i64 (.ofNat 0))]), h19x5b⟩
def h19x6a : Heap := heapAdd h19x5b 754 [(753, r19x0)]
def r19x6 : Ent := .cells 3 false [⟨0, 0, 1⟩] 1 (.node (some (.int .i64 (.ofNat 0))) .nil .nil)
def h19x6b : Heap := heapAdd h19x6a 977 [(976, r19x6)]
def e19x6 : Ora := ⟨25, [(.slice (some ⟨753, 0, (some 0)⟩) 7 15)], h19x6a, (.tuple #[(.slice (some ⟨976, 0, (some 0)⟩) 1 2), (.int .i64 (.ofNat 0))]), h19x6b⟩
def r19x7 : Ent := .cells 3 false [⟨0, 0, 4⟩] 1 (.node (some (.int .i64 (.negSucc 0))) (.node (some (.int .i64 (.ofNat 0))) (.node (some (.int .i64 (.ofNat 0))) .nil .nil) .nil) (.node (some (.int .i64 (.ofNat 0))) .nil .nil))
def r19x8 : Ent := .cells 3 false [⟨0, 0, 4⟩] 1 (.node (some (.int .i64 (.ofNat 9))) (.node (some (.int .i64 (.ofNat 1))) (.node (some (.int .i64 (.ofNat 1))) .nil .nil) .nil) (.node (some (.int .i64 (.ofNat 1))) .nil .nil))
def h19x7a : Heap := heapAdd h19x6b 979 [(977, r19x7), (978, r19x8)]
def r19x9 : Ent := .cells 3 false [⟨0, 0, 3⟩] 1 (.node (some (.int .i64 (.ofNat 1))) (.node (some (.int .i64 (.ofNat 2))) .nil .nil) (.node (some (.int .i64 (.ofNat 3))) .nil .nil))
def h19x7b : Heap := heapAdd h19x7a 1018 [(1014, r19x9)]
def e19x7 : Ora := ⟨26, [(.slice (some ⟨977, 0, (some 0)⟩) 4 9), (.slice (some ⟨978, 0, (some 0)⟩) 4 9)], h19x7a, (.tuple #[(.slice (some ⟨1014, 0, (some 0)⟩) 3 2), (.int .i64 (.ofNat 0))]), h19x7b⟩
def r19x10 : Ent := .cells 3 false [⟨0, 0, 4⟩] 1 (.node (some (.int .i64 (.ofNat 3))) (.node (some (.int .i64 (.ofNat 1))) (.node (some (.int .i64 (.ofNat 1))) .nil .nil) .nil) (.node (some (.int .i64 (.ofNat 1))) .nil .nil))
def h19x8a : Heap := heapAdd h19x7b 1020 [(1018, r19x7), (1019, r19x10)]
def h19x8b : Heap := heapAdd h19x8a 1058 [(1037, r19x6)]
def e19x8 : Ora := ⟨26, [(.slice (some ⟨1018, 0, (some 0)⟩) 4 9), (.slice (some ⟨1019, 0, (some 0)⟩) 4 9)], h19x8a, (.tuple #[(.slice (some ⟨1037, 0, (some 0)⟩) 1 2), (.int .i64 (.ofNat 0))]), h19x8b⟩
def h19x9a : Heap := heapAdd h19x8b 1059 [(1058, r19x0)]
def h19x9b : Heap := ⟨1059, h19x9a.t⟩
def e19x9 : Ora := ⟨20, [(.slice (some ⟨1058, 0, (some 0)⟩) 7 15), (.int .i64 (.ofNat 7))], h19x9a, (.tuple #[(.slice none 0 0), (.int .i64 (.ofNat 2))]), h19x9b⟩
def r19x11 : Ent := .cells 3 false [⟨0, 0, 4⟩] 1 (.node (some (.int .i64 (.ofNat 0))) (.node (some (.int .i64 (.ofNat 1))) (.node (some (.int .i64 (.ofNat 5))) .nil .nil) .nil) (.node (some (.int .i64 (.ofNat 3))) .nil .nil))
def r19x12 : Ent := .cells 3 false [⟨0, 0, 2⟩] 1 (.node (some (.int .i64 (.ofNat 1))) (.node (some (.int .i64 (.ofNat 4))) .nil .nil) .nil)
def h19x10a : Heap := heapAdd h19x9b 1068 [(1059, r19x11), (1060, r19x2), (1061, r19x3), (1062, r19x12), (1063, r19x6), (1064, r19x9), (1065, r19x6), (1066, r19x4), (1067, r19x12)]
def h19x10b : Heap := ⟨1069, h19x10a.t⟩
def e19x10 : Ora := ⟨17, [(.slice (some ⟨1066, 0, (some 0)⟩) 6 13), (.slice (some ⟨1067, 0, (some 0)⟩) 2 5)], h19x10a, (.int .i64 (.ofNat 0)), h19x10b⟩
def r19x13 : Ent := .cells 3 false [⟨0, 0, 2⟩] 1 (.node (some (.int .i64 (.ofNat 0))) (.node (some (.int .i64 (.ofNat 3))) .nil .nil) .nil)
def h19x11a : Heap := heapAdd h19x10b 1071 [(1069, r19x4), (1070, r19x13)]
def h19x11b : Heap := ⟨1072, h19x11a.t⟩
def e19x11 : Ora := ⟨17, [(.slice (some ⟨1069, 0, (some 0)⟩) 6 13), (.slice (some ⟨1070, 0, (some 0)⟩) 2 5)], h19x11a, (.int .i64 (.ofNat 14)), h19x11b⟩
def h19x12a : Heap := heapAdd h19x11b 1074 [(1072, r19x0), (1073, r19x3)]
def h19x12b : Heap := ⟨1075, h19x12a.t⟩
def e19x12 : Ora := ⟨18, [(.slice (some ⟨1072, 0, (some 0)⟩) 7 15), (.slice (some ⟨1073, 0, (some 0)⟩) 3 7)], h19x12a, (.int .i64 (.ofNat 0)), h19x12b⟩
def r19x14 : Ent := .cells 3 false [⟨0, 0, 2⟩] 1 (.node (some (.int .i64 (.ofNat 1))) (.node (some (.int .i64 (.ofNat 3))) .nil .nil) .nil)
def h19x13a : Heap := heapAdd h19x12b 1077 [(1075, r19x0), (1076, r19x14)]
def h19x13b : Heap := ⟨1078, h19x13a.t⟩
def e19x13 : Ora := ⟨18, [(.slice (some ⟨1075, 0, (some 0)⟩) 7 15), (.slice (some ⟨1076, 0, (some 0)⟩) 2 5)], h19x13a, (.int .i64 (.ofNat 14)), h19x13b⟩
def tab19 : List Ora := [e19x13, e19x12, e19x11, e19x10, e19x9, e19x8, e19x7, e19x6, e19x5, e19x4, e19x3, e19x2, e19x1, e19x0]
def e19 : Ora := ⟨19, [], noHeap, .bool true, ⟨1078, .nil⟩⟩
end Go.Proofs.YtcfffhkabhmkmaaDoor.Ev
