/- The program's functions, prepared: written by program, checked below. -/
import Derived.Test.YtcfffhkabhmkmaaSymMono
import Derived.Test.YtcfffhkabhmkmaaJ2
import Derived.Test.YtcfffhkabhmkmaaRows
namespace Go.Proofs.Ytcfffhkabhmkmaa.Ps
open Go Go.Abs
set_option maxRecDepth 100000
set_option maxHeartbeats 4000000
/- bellarmine/bellarminelaw12.PostHands -/
def pf3 : PF := ⟨68, (.seq (.region false [⟨0, (some 6), .move (.const (.bool false)), none, []⟩])
 (.seq (.seq (.region false [⟨0, (some 11), .move (.tmp 0), none, []⟩, ⟨1, (some 12), .len (.tmp 11), none, []⟩, ⟨2, (some 13), .ibin .gtr .i64 (.tmp 12) (.const (.int .i64 40)), none, []⟩, ⟨3, (some 14), .move (.tmp 13), none, []⟩, ⟨4, (some 15), .move (.tmp 2), (some (14, false)), []⟩, ⟨5, (some 16), .len (.tmp 15), (some (14, false)), []⟩, ⟨6, (some 17), .ibin .gtr .i64 (.tmp 16) (.const (.int .i64 40)), (some (14, false)), []⟩, ⟨7, (some 18), .pick (.tmp 14) (.const (.bool true)) (.tmp 17), none, []⟩])
 (.cond (.tmp 18) (.seq (.region false [⟨0, (some 19), .callF 8 [], none, []⟩, ⟨1, (some 6), .move (.tmp 19), none, []⟩])
 .ret) .skip))
 (.seq (.region false [⟨0, (some 21), .move (.tmp 0), none, []⟩, ⟨1, (some 22), .move (.tmp 1), none, []⟩, ⟨2, (some 23), .callF 9 [(.tmp 21), (.tmp 22)], none, []⟩, ⟨3, (some 20), .move (.tmp 23), none, []⟩, ⟨4, (some 24), .ext (.tmp 20) 0, none, []⟩, ⟨5, (some 25), .ext (.tmp 20) 1, none, []⟩, ⟨6, (some 7), .move (.tmp 24), none, []⟩, ⟨7, (some 8), .move (.tmp 25), none, []⟩])
 (.seq (.region false [⟨0, (some 27), .move (.tmp 0), none, []⟩, ⟨1, (some 28), .move (.tmp 1), none, []⟩, ⟨2, (some 29), .callF 10 [(.tmp 27), (.tmp 28)], none, []⟩, ⟨3, (some 26), .move (.tmp 29), none, []⟩, ⟨4, (some 30), .ext (.tmp 26) 0, none, []⟩, ⟨5, (some 31), .ext (.tmp 26) 1, none, []⟩, ⟨6, (some 9), .move (.tmp 30), none, []⟩, ⟨7, (some 10), .move (.tmp 31), none, []⟩])
 (.seq (.region false [⟨0, (some 32), .move (.tmp 7), none, []⟩, ⟨1, (some 33), .move (.tmp 9), none, []⟩, ⟨2, (some 34), .callF 11 [(.tmp 32), (.tmp 33)], none, []⟩, ⟨3, (some 35), .move (.tmp 34), none, []⟩, ⟨4, (some 36), .move (.tmp 8), (some (35, true)), []⟩, ⟨5, (some 37), .move (.tmp 10), (some (35, true)), []⟩, ⟨6, (some 38), .ibin .eql .i64 (.tmp 36) (.tmp 37), (some (35, true)), []⟩, ⟨7, (some 39), .pick (.tmp 35) (.tmp 38) (.const (.bool false)), none, []⟩, ⟨8, (some 40), .move (.tmp 39), none, []⟩, ⟨9, (some 41), .move (.tmp 0), (some (40, true)), []⟩, ⟨10, (some 42), .callF 12 [(.tmp 41)], (some (40, true)), []⟩, ⟨11, (some 43), .move (.tmp 0), (some (40, true)), []⟩, ⟨12, (some 44), .callF 13 [(.tmp 43)], (some (40, true)), []⟩, ⟨13, (some 45), .ibin .eql .i64 (.tmp 42) (.tmp 44), (some (40, true)), []⟩, ⟨14, (some 46), .pick (.tmp 40) (.tmp 45) (.const (.bool false)), none, []⟩, ⟨15, (some 47), .move (.tmp 46), none, []⟩, ⟨16, (some 48), .move (.tmp 0), (some (47, true)), []⟩, ⟨17, (some 49), .move (.tmp 2), (some (47, true)), []⟩, ⟨18, (some 50), .callF 14 [(.tmp 48), (.tmp 49)], (some (47, true)), []⟩, ⟨19, (some 51), .move (.tmp 0), (some (47, true)), []⟩, ⟨20, (some 52), .move (.tmp 2), (some (47, true)), []⟩, ⟨21, (some 53), .callF 15 [(.tmp 51), (.tmp 52)], (some (47, true)), []⟩, ⟨22, (some 54), .ibin .eql .i64 (.tmp 50) (.tmp 53), (some (47, true)), []⟩, ⟨23, (some 55), .pick (.tmp 47) (.tmp 54) (.const (.bool false)), none, []⟩, ⟨24, (some 56), .move (.tmp 55), none, []⟩, ⟨25, (some 57), .move (.tmp 0), (some (56, true)), []⟩, ⟨26, (some 58), .move (.tmp 2), (some (56, true)), []⟩, ⟨27, (some 59), .callF 16 [(.tmp 57), (.tmp 58)], (some (56, true)), []⟩, ⟨28, (some 60), .move (.tmp 0), (some (56, true)), []⟩, ⟨29, (some 61), .move (.tmp 2), (some (56, true)), []⟩, ⟨30, (some 62), .callF 17 [(.tmp 60), (.tmp 61)], (some (56, true)), []⟩, ⟨31, (some 63), .ibin .eql .i64 (.tmp 59) (.tmp 62), (some (56, true)), []⟩, ⟨32, (some 64), .pick (.tmp 56) (.tmp 63) (.const (.bool false)), none, []⟩, ⟨33, (some 65), .move (.tmp 64), none, []⟩, ⟨34, (some 66), .callF 8 [], (some (65, true)), []⟩, ⟨35, (some 67), .pick (.tmp 65) (.tmp 66) (.const (.bool false)), none, []⟩, ⟨36, (some 6), .move (.tmp 67), none, []⟩])
 .ret))))), [.tmp 6]⟩
/- bellarmine/bellarminelaw12.PostFewest -/
def pf4 : PF := ⟨89, (.seq (.region false [⟨0, (some 4), .move (.const (.bool false)), none, []⟩])
 (.seq (.seq (.region false [⟨0, (some 17), .move (.tmp 0), none, []⟩, ⟨1, (some 18), .len (.tmp 17), none, []⟩, ⟨2, (some 19), .ibin .gtr .i64 (.tmp 18) (.const (.int .i64 40)), none, []⟩, ⟨3, (some 20), .move (.tmp 19), none, []⟩, ⟨4, (some 21), .move (.tmp 1), (some (20, false)), []⟩, ⟨5, (some 22), .len (.tmp 21), (some (20, false)), []⟩, ⟨6, (some 23), .ibin .gtr .i64 (.tmp 22) (.const (.int .i64 40)), (some (20, false)), []⟩, ⟨7, (some 24), .pick (.tmp 20) (.const (.bool true)) (.tmp 23), none, []⟩])
 (.cond (.tmp 24) (.seq (.region false [⟨0, (some 25), .callF 8 [], none, []⟩, ⟨1, (some 4), .move (.tmp 25), none, []⟩])
 .ret) .skip))
 (.seq (.region false [⟨0, (some 27), .move (.tmp 0), none, []⟩, ⟨1, (some 28), .callF 18 [(.tmp 27)], none, []⟩, ⟨2, (some 26), .move (.tmp 28), none, []⟩, ⟨3, (some 29), .ext (.tmp 26) 0, none, []⟩, ⟨4, (some 30), .ext (.tmp 26) 1, none, []⟩, ⟨5, (some 5), .move (.tmp 29), none, []⟩, ⟨6, (some 6), .move (.tmp 30), none, []⟩])
 (.seq (.region false [⟨0, (some 32), .move (.tmp 0), none, []⟩, ⟨1, (some 33), .callF 19 [(.tmp 32)], none, []⟩, ⟨2, (some 31), .move (.tmp 33), none, []⟩, ⟨3, (some 34), .ext (.tmp 31) 0, none, []⟩, ⟨4, (some 35), .ext (.tmp 31) 1, none, []⟩, ⟨5, (some 7), .move (.tmp 34), none, []⟩, ⟨6, (some 8), .move (.tmp 35), none, []⟩])
 (.seq (.region false [⟨0, (some 37), .move (.tmp 0), none, []⟩, ⟨1, (some 38), .callF 20 [(.tmp 37)], none, []⟩, ⟨2, (some 36), .move (.tmp 38), none, []⟩, ⟨3, (some 39), .ext (.tmp 36) 0, none, []⟩, ⟨4, (some 40), .ext (.tmp 36) 1, none, []⟩, ⟨5, (some 9), .move (.tmp 39), none, []⟩, ⟨6, (some 10), .move (.tmp 40), none, []⟩])
 (.seq (.region false [⟨0, (some 42), .move (.tmp 0), none, []⟩, ⟨1, (some 43), .callF 21 [(.tmp 42)], none, []⟩, ⟨2, (some 41), .move (.tmp 43), none, []⟩, ⟨3, (some 44), .ext (.tmp 41) 0, none, []⟩, ⟨4, (some 45), .ext (.tmp 41) 1, none, []⟩, ⟨5, (some 11), .move (.tmp 44), none, []⟩, ⟨6, (some 12), .move (.tmp 45), none, []⟩])
 (.seq (.region false [⟨0, (some 47), .move (.tmp 0), none, []⟩, ⟨1, (some 48), .move (.tmp 1), none, []⟩, ⟨2, (some 49), .callF 22 [(.tmp 47), (.tmp 48)], none, []⟩, ⟨3, (some 46), .move (.tmp 49), none, []⟩, ⟨4, (some 50), .ext (.tmp 46) 0, none, []⟩, ⟨5, (some 51), .ext (.tmp 46) 1, none, []⟩, ⟨6, (some 13), .move (.tmp 50), none, []⟩, ⟨7, (some 14), .move (.tmp 51), none, []⟩])
 (.seq (.region false [⟨0, (some 53), .move (.tmp 0), none, []⟩, ⟨1, (some 54), .move (.tmp 1), none, []⟩, ⟨2, (some 55), .callF 23 [(.tmp 53), (.tmp 54)], none, []⟩, ⟨3, (some 52), .move (.tmp 55), none, []⟩, ⟨4, (some 56), .ext (.tmp 52) 0, none, []⟩, ⟨5, (some 57), .ext (.tmp 52) 1, none, []⟩, ⟨6, (some 15), .move (.tmp 56), none, []⟩, ⟨7, (some 16), .move (.tmp 57), none, []⟩])
 (.seq (.region false [⟨0, (some 58), .move (.tmp 5), none, []⟩, ⟨1, (some 59), .move (.tmp 7), none, []⟩, ⟨2, (some 60), .callF 11 [(.tmp 58), (.tmp 59)], none, []⟩, ⟨3, (some 61), .move (.tmp 60), none, []⟩, ⟨4, (some 62), .move (.tmp 6), (some (61, true)), []⟩, ⟨5, (some 63), .move (.tmp 8), (some (61, true)), []⟩, ⟨6, (some 64), .ibin .eql .i64 (.tmp 62) (.tmp 63), (some (61, true)), []⟩, ⟨7, (some 65), .pick (.tmp 61) (.tmp 64) (.const (.bool false)), none, []⟩, ⟨8, (some 66), .move (.tmp 65), none, []⟩, ⟨9, (some 67), .move (.tmp 9), (some (66, true)), []⟩, ⟨10, (some 68), .move (.tmp 11), (some (66, true)), []⟩, ⟨11, (some 69), .callF 11 [(.tmp 67), (.tmp 68)], (some (66, true)), []⟩, ⟨12, (some 70), .pick (.tmp 66) (.tmp 69) (.const (.bool false)), none, []⟩, ⟨13, (some 71), .move (.tmp 70), none, []⟩, ⟨14, (some 72), .move (.tmp 10), (some (71, true)), []⟩, ⟨15, (some 73), .move (.tmp 12), (some (71, true)), []⟩, ⟨16, (some 74), .ibin .eql .i64 (.tmp 72) (.tmp 73), (some (71, true)), []⟩, ⟨17, (some 75), .pick (.tmp 71) (.tmp 74) (.const (.bool false)), none, []⟩, ⟨18, (some 76), .move (.tmp 75), none, []⟩, ⟨19, (some 77), .move (.tmp 13), (some (76, true)), []⟩, ⟨20, (some 78), .move (.tmp 15), (some (76, true)), []⟩, ⟨21, (some 79), .callF 11 [(.tmp 77), (.tmp 78)], (some (76, true)), []⟩, ⟨22, (some 80), .pick (.tmp 76) (.tmp 79) (.const (.bool false)), none, []⟩, ⟨23, (some 81), .move (.tmp 80), none, []⟩, ⟨24, (some 82), .move (.tmp 14), (some (81, true)), []⟩, ⟨25, (some 83), .move (.tmp 16), (some (81, true)), []⟩, ⟨26, (some 84), .ibin .eql .i64 (.tmp 82) (.tmp 83), (some (81, true)), []⟩, ⟨27, (some 85), .pick (.tmp 81) (.tmp 84) (.const (.bool false)), none, []⟩, ⟨28, (some 86), .move (.tmp 85), none, []⟩, ⟨29, (some 87), .callF 8 [], (some (86, true)), []⟩, ⟨30, (some 88), .pick (.tmp 86) (.tmp 87) (.const (.bool false)), none, []⟩, ⟨31, (some 4), .move (.tmp 88), none, []⟩])
 .ret))))))))), [.tmp 4]⟩
/- bellarmine/bellarminelaw12.PostCounts -/
def pf5 : PF := ⟨104, (.seq (.region false [⟨0, (some 2), .move (.const (.bool false)), none, []⟩])
 (.seq (.seq (.region false [⟨0, (some 19), .move (.tmp 0), none, []⟩, ⟨1, (some 20), .len (.tmp 19), none, []⟩, ⟨2, (some 21), .ibin .gtr .i64 (.tmp 20) (.const (.int .i64 40)), none, []⟩])
 (.cond (.tmp 21) (.seq (.region false [⟨0, (some 22), .callF 8 [], none, []⟩, ⟨1, (some 2), .move (.tmp 22), none, []⟩])
 .ret) .skip))
 (.seq (.region false [⟨0, (some 24), .move (.tmp 0), none, []⟩, ⟨1, (some 25), .callF 24 [(.tmp 24)], none, []⟩, ⟨2, (some 23), .move (.tmp 25), none, []⟩, ⟨3, (some 26), .ext (.tmp 23) 0, none, []⟩, ⟨4, (some 27), .ext (.tmp 23) 1, none, []⟩, ⟨5, (some 3), .move (.tmp 26), none, []⟩, ⟨6, (some 4), .move (.tmp 27), none, []⟩])
 (.seq (.region false [⟨0, (some 29), .move (.tmp 0), none, []⟩, ⟨1, (some 30), .callF 25 [(.tmp 29)], none, []⟩, ⟨2, (some 28), .move (.tmp 30), none, []⟩, ⟨3, (some 31), .ext (.tmp 28) 0, none, []⟩, ⟨4, (some 32), .ext (.tmp 28) 1, none, []⟩, ⟨5, (some 5), .move (.tmp 31), none, []⟩, ⟨6, (some 6), .move (.tmp 32), none, []⟩])
 (.seq (.region false [⟨0, (some 34), .move (.tmp 0), none, []⟩, ⟨1, (some 35), .callF 26 [(.tmp 34)], none, []⟩, ⟨2, (some 33), .move (.tmp 35), none, []⟩, ⟨3, (some 36), .ext (.tmp 33) 0, none, []⟩, ⟨4, (some 37), .ext (.tmp 33) 1, none, []⟩, ⟨5, (some 7), .move (.tmp 36), none, []⟩, ⟨6, (some 8), .move (.tmp 37), none, []⟩])
 (.seq (.region false [⟨0, (some 39), .move (.tmp 0), none, []⟩, ⟨1, (some 40), .callF 27 [(.tmp 39)], none, []⟩, ⟨2, (some 38), .move (.tmp 40), none, []⟩, ⟨3, (some 41), .ext (.tmp 38) 0, none, []⟩, ⟨4, (some 42), .ext (.tmp 38) 1, none, []⟩, ⟨5, (some 9), .move (.tmp 41), none, []⟩, ⟨6, (some 10), .move (.tmp 42), none, []⟩])
 (.seq (.region false [⟨0, (some 44), .move (.tmp 0), none, []⟩, ⟨1, (some 45), .callF 28 [(.tmp 44)], none, []⟩, ⟨2, (some 43), .move (.tmp 45), none, []⟩, ⟨3, (some 46), .ext (.tmp 43) 0, none, []⟩, ⟨4, (some 47), .ext (.tmp 43) 1, none, []⟩, ⟨5, (some 11), .move (.tmp 46), none, []⟩, ⟨6, (some 12), .move (.tmp 47), none, []⟩])
 (.seq (.region false [⟨0, (some 49), .move (.tmp 0), none, []⟩, ⟨1, (some 50), .callF 29 [(.tmp 49)], none, []⟩, ⟨2, (some 48), .move (.tmp 50), none, []⟩, ⟨3, (some 51), .ext (.tmp 48) 0, none, []⟩, ⟨4, (some 52), .ext (.tmp 48) 1, none, []⟩, ⟨5, (some 13), .move (.tmp 51), none, []⟩, ⟨6, (some 14), .move (.tmp 52), none, []⟩])
 (.seq (.region false [⟨0, (some 54), .move (.tmp 0), none, []⟩, ⟨1, (some 55), .callF 30 [(.tmp 54)], none, []⟩, ⟨2, (some 53), .move (.tmp 55), none, []⟩, ⟨3, (some 56), .ext (.tmp 53) 0, none, []⟩, ⟨4, (some 57), .ext (.tmp 53) 1, none, []⟩, ⟨5, (some 15), .move (.tmp 56), none, []⟩, ⟨6, (some 16), .move (.tmp 57), none, []⟩])
 (.seq (.region false [⟨0, (some 59), .move (.tmp 0), none, []⟩, ⟨1, (some 60), .callF 31 [(.tmp 59)], none, []⟩, ⟨2, (some 58), .move (.tmp 60), none, []⟩, ⟨3, (some 61), .ext (.tmp 58) 0, none, []⟩, ⟨4, (some 62), .ext (.tmp 58) 1, none, []⟩, ⟨5, (some 17), .move (.tmp 61), none, []⟩, ⟨6, (some 18), .move (.tmp 62), none, []⟩])
 (.seq (.region false [⟨0, (some 63), .move (.tmp 3), none, []⟩, ⟨1, (some 64), .move (.tmp 5), none, []⟩, ⟨2, (some 65), .ibin .eql .i64 (.tmp 63) (.tmp 64), none, []⟩, ⟨3, (some 66), .move (.tmp 65), none, []⟩, ⟨4, (some 67), .move (.tmp 4), (some (66, true)), []⟩, ⟨5, (some 68), .move (.tmp 6), (some (66, true)), []⟩, ⟨6, (some 69), .ibin .eql .i64 (.tmp 67) (.tmp 68), (some (66, true)), []⟩, ⟨7, (some 70), .pick (.tmp 66) (.tmp 69) (.const (.bool false)), none, []⟩, ⟨8, (some 71), .move (.tmp 70), none, []⟩, ⟨9, (some 72), .move (.tmp 7), (some (71, true)), []⟩, ⟨10, (some 73), .move (.tmp 9), (some (71, true)), []⟩, ⟨11, (some 74), .ibin .eql .i64 (.tmp 72) (.tmp 73), (some (71, true)), []⟩, ⟨12, (some 75), .pick (.tmp 71) (.tmp 74) (.const (.bool false)), none, []⟩, ⟨13, (some 76), .move (.tmp 75), none, []⟩, ⟨14, (some 77), .move (.tmp 8), (some (76, true)), []⟩, ⟨15, (some 78), .move (.tmp 10), (some (76, true)), []⟩, ⟨16, (some 79), .ibin .eql .i64 (.tmp 77) (.tmp 78), (some (76, true)), []⟩, ⟨17, (some 80), .pick (.tmp 76) (.tmp 79) (.const (.bool false)), none, []⟩, ⟨18, (some 81), .move (.tmp 80), none, []⟩, ⟨19, (some 82), .move (.tmp 11), (some (81, true)), []⟩, ⟨20, (some 83), .move (.tmp 13), (some (81, true)), []⟩, ⟨21, (some 84), .callF 11 [(.tmp 82), (.tmp 83)], (some (81, true)), []⟩, ⟨22, (some 85), .pick (.tmp 81) (.tmp 84) (.const (.bool false)), none, []⟩, ⟨23, (some 86), .move (.tmp 85), none, []⟩, ⟨24, (some 87), .move (.tmp 12), (some (86, true)), []⟩, ⟨25, (some 88), .move (.tmp 14), (some (86, true)), []⟩, ⟨26, (some 89), .ibin .eql .i64 (.tmp 87) (.tmp 88), (some (86, true)), []⟩, ⟨27, (some 90), .pick (.tmp 86) (.tmp 89) (.const (.bool false)), none, []⟩, ⟨28, (some 91), .move (.tmp 90), none, []⟩, ⟨29, (some 92), .move (.tmp 15), (some (91, true)), []⟩, ⟨30, (some 93), .move (.tmp 17), (some (91, true)), []⟩, ⟨31, (some 94), .callF 11 [(.tmp 92), (.tmp 93)], (some (91, true)), []⟩, ⟨32, (some 95), .pick (.tmp 91) (.tmp 94) (.const (.bool false)), none, []⟩, ⟨33, (some 96), .move (.tmp 95), none, []⟩, ⟨34, (some 97), .move (.tmp 16), (some (96, true)), []⟩, ⟨35, (some 98), .move (.tmp 18), (some (96, true)), []⟩, ⟨36, (some 99), .ibin .eql .i64 (.tmp 97) (.tmp 98), (some (96, true)), []⟩, ⟨37, (some 100), .pick (.tmp 96) (.tmp 99) (.const (.bool false)), none, []⟩, ⟨38, (some 101), .move (.tmp 100), none, []⟩, ⟨39, (some 102), .callF 8 [], (some (101, true)), []⟩, ⟨40, (some 103), .pick (.tmp 101) (.tmp 102) (.const (.bool false)), none, []⟩, ⟨41, (some 2), .move (.tmp 103), none, []⟩])
 .ret))))))))))), [.tmp 2]⟩
/- bellarmine/post.Hand -/
def pf9 : PF := ⟨22, (.seq (.region false [⟨0, (some 4), .move (.const (.slice none 0 0)), none, []⟩, ⟨1, (some 5), .move (.const (.int .i64 0)), none, []⟩])
 (.seq (.seq (.region false [⟨0, (some 7), .move (.tmp 0), none, []⟩, ⟨1, (some 8), .callF 12 [(.tmp 7)], none, []⟩, ⟨2, (some 6), .move (.tmp 8), none, []⟩])
 (.seq (.region false [⟨0, (some 9), .move (.tmp 6), none, []⟩, ⟨1, (some 10), .ibin .neq .i64 (.tmp 9) (.const (.int .i64 0)), none, []⟩])
 (.cond (.tmp 10) (.seq (.region false [⟨0, (some 11), .move (.tmp 6), none, []⟩, ⟨1, (some 4), .move (.const (.slice none 0 0)), none, []⟩, ⟨2, (some 5), .move (.tmp 11), none, []⟩])
 .ret) .skip)))
 (.seq (.seq (.region false [⟨0, (some 12), .move (.tmp 0), none, []⟩, ⟨1, (some 13), .move (.tmp 1), none, []⟩, ⟨2, (some 14), .callF 39 [(.tmp 12), (.tmp 13)], none, []⟩, ⟨3, (some 15), .not (.tmp 14), none, []⟩])
 (.cond (.tmp 15) (.seq (.region false [⟨0, (some 4), .move (.const (.slice none 0 0)), none, []⟩, ⟨1, (some 5), .move (.const (.int .i64 2)), none, []⟩])
 .ret) .skip))
 (.seq (.region false [⟨0, (some 16), .move (.tmp 0), none, []⟩, ⟨1, (some 17), .callF 40 [(.tmp 16)], none, []⟩, ⟨2, (some 18), .move (.tmp 1), none, []⟩, ⟨3, (some 19), .idxS (.tmp 17) (.tmp 18) 1, none, []⟩, ⟨4, (some 20), .load1 (.tmp 19), none, []⟩, ⟨5, (some 21), .callF 41 [(.tmp 20)], none, []⟩, ⟨6, (some 4), .move (.tmp 21), none, []⟩, ⟨7, (some 5), .move (.const (.int .i64 0)), none, []⟩])
 .ret)))), [.tmp 4, .tmp 5]⟩
/- bellarmine/bellarmineref12.Hand -/
def pf10 : PF := ⟨25, (.seq (.region false [⟨0, (some 4), .move (.const (.slice none 0 0)), none, []⟩, ⟨1, (some 5), .move (.const (.int .i64 0)), none, []⟩])
 (.seq (.region false [⟨0, (some 7), .move (.tmp 0), none, []⟩, ⟨1, (some 8), .callF 13 [(.tmp 7)], none, []⟩, ⟨2, (some 6), .move (.tmp 8), none, []⟩])
 (.seq (.seq (.region false [⟨0, (some 9), .move (.tmp 6), none, []⟩, ⟨1, (some 10), .ibin .eql .i64 (.tmp 9) (.const (.int .i64 0)), none, []⟩, ⟨2, (some 11), .move (.tmp 10), none, []⟩, ⟨3, (some 12), .move (.tmp 1), (some (11, true)), []⟩, ⟨4, (some 13), .move (.tmp 0), (some (11, true)), []⟩, ⟨5, (some 14), .len (.tmp 13), (some (11, true)), []⟩, ⟨6, (some 15), .ibin .sub .i64 (.tmp 14) (.const (.int .i64 1)), (some (11, true)), []⟩, ⟨7, (some 16), .callF 42 [(.tmp 12), (.const (.int .i64 0)), (.tmp 15)], (some (11, true)), []⟩, ⟨8, (some 17), .not (.tmp 16), (some (11, true)), []⟩, ⟨9, (some 18), .pick (.tmp 11) (.tmp 17) (.const (.bool false)), none, []⟩])
 (.cond (.tmp 18) (.region false [⟨0, (some 6), .move (.const (.int .i64 2)), none, []⟩]) .skip))
 (.seq (.seq (.region false [⟨0, (some 19), .move (.tmp 6), none, []⟩, ⟨1, (some 20), .ibin .neq .i64 (.tmp 19) (.const (.int .i64 0)), none, []⟩])
 (.cond (.tmp 20) (.seq (.region false [⟨0, (some 21), .move (.tmp 6), none, []⟩, ⟨1, (some 4), .move (.const (.slice none 0 0)), none, []⟩, ⟨2, (some 5), .move (.tmp 21), none, []⟩])
 .ret) .skip))
 (.seq (.region false [⟨0, (some 22), .move (.tmp 0), none, []⟩, ⟨1, (some 23), .move (.tmp 1), none, []⟩, ⟨2, (some 24), .callF 43 [(.tmp 22), (.tmp 23)], none, []⟩, ⟨3, (some 4), .move (.tmp 24), none, []⟩, ⟨4, (some 5), .move (.const (.int .i64 0)), none, []⟩])
 .ret))))), [.tmp 4, .tmp 5]⟩
/- bellarmine/bellarminelaw12.same -/
def pf11 : PF := ⟨26, (.seq (.region false [⟨0, (some 4), .move (.const (.bool false)), none, []⟩])
 (.seq (.seq (.region false [⟨0, (some 6), .move (.tmp 0), none, []⟩, ⟨1, (some 7), .len (.tmp 6), none, []⟩, ⟨2, (some 8), .move (.tmp 1), none, []⟩, ⟨3, (some 9), .len (.tmp 8), none, []⟩, ⟨4, (some 10), .ibin .neq .i64 (.tmp 7) (.tmp 9), none, []⟩])
 (.cond (.tmp 10) (.seq (.region false [⟨0, (some 4), .move (.const (.bool false)), none, []⟩])
 .ret) .skip))
 (.seq (.seq (.region false [⟨0, (some 5), .move (.const (.int .i64 0)), none, []⟩])
 (.block 0 (.loop (.seq (.seq (.region false [⟨0, (some 11), .move (.tmp 5), none, []⟩, ⟨1, (some 12), .move (.tmp 0), none, []⟩, ⟨2, (some 13), .len (.tmp 12), none, []⟩, ⟨3, (some 14), .ibin .lss .i64 (.tmp 11) (.tmp 13), none, []⟩])
 (.cond (.tmp 14) .skip (.exit 0)))
 (.seq (.block 1 (.seq (.region true [⟨0, (some 17), .move (.tmp 0), none, []⟩, ⟨1, (some 18), .move (.tmp 5), none, []⟩, ⟨2, (some 19), .idxS (.tmp 17) (.tmp 18) 1, none, []⟩, ⟨3, (some 20), .load1 (.tmp 19), none, []⟩, ⟨4, (some 21), .move (.tmp 1), none, []⟩, ⟨5, (some 22), .move (.tmp 5), none, []⟩, ⟨6, (some 23), .idxS (.tmp 21) (.tmp 22) 1, none, []⟩, ⟨7, (some 24), .load1 (.tmp 23), none, []⟩, ⟨8, (some 25), .ibin .neq .i64 (.tmp 20) (.tmp 24), none, []⟩])
 (.cond (.tmp 25) (.seq (.region false [⟨0, (some 4), .move (.const (.bool false)), none, []⟩])
 .ret) .skip)))
 (.region false [⟨0, (some 15), .move (.tmp 5), none, []⟩, ⟨1, (some 16), .ibin .add .i64 (.tmp 15) (.const (.int .i64 1)), none, []⟩, ⟨2, (some 5), .move (.tmp 16), none, []⟩]))))))
 (.seq (.region false [⟨0, (some 4), .move (.const (.bool true)), none, []⟩])
 .ret)))), [.tmp 4]⟩
/- bellarmine/post.Check -/
def pf12 : PF := ⟨23, (.seq (.region false [⟨0, (some 2), .move (.const (.int .i64 0)), none, []⟩])
 (.seq (.seq (.region false [⟨0, (some 4), .move (.tmp 0), none, []⟩, ⟨1, (some 5), .len (.tmp 4), none, []⟩, ⟨2, (some 6), .ibin .eql .i64 (.tmp 5) (.const (.int .i64 0)), none, []⟩])
 (.cond (.tmp 6) (.seq (.region false [⟨0, (some 2), .move (.const (.int .i64 4)), none, []⟩])
 .ret) .skip))
 (.seq (.seq (.region false [⟨0, (some 7), .move (.tmp 0), none, []⟩, ⟨1, (some 8), .len (.tmp 7), none, []⟩, ⟨2, (some 9), .ibin .gtr .i64 (.tmp 8) (.const (.int .i64 10)), none, []⟩])
 (.cond (.tmp 9) (.seq (.region false [⟨0, (some 2), .move (.const (.int .i64 3)), none, []⟩])
 .ret) .skip))
 (.seq (.seq (.region false [⟨0, (some 10), .move (.tmp 0), none, []⟩, ⟨1, (some 11), .len (.tmp 10), none, []⟩, ⟨2, (some 12), .move (.const (.int .i64 0)), none, []⟩])
 (.block 0 (.loop (.seq (.region false [⟨0, (some 13), .ibin .lss .i64 (.tmp 12) (.tmp 11), none, []⟩])
 (.seq (.cond (.tmp 13) .skip (.exit 0))
 (.seq (.block 1 (.seq (.region false [⟨0, (some 14), .move (.tmp 12), none, []⟩, ⟨1, (some 3), .move (.tmp 14), none, []⟩])
 (.seq (.region false [⟨0, (some 15), .move (.tmp 0), none, []⟩, ⟨1, (some 16), .move (.tmp 3), none, []⟩, ⟨2, (some 17), .idxS (.tmp 15) (.tmp 16) 1, none, []⟩, ⟨3, (some 18), .load1 (.tmp 17), none, []⟩, ⟨4, (some 19), .move (.tmp 3), none, []⟩, ⟨5, (some 20), .callF 44 [(.tmp 18), (.tmp 19)], none, []⟩, ⟨6, (some 21), .not (.tmp 20), none, []⟩])
 (.cond (.tmp 21) (.seq (.region false [⟨0, (some 2), .move (.const (.int .i64 2)), none, []⟩])
 .ret) .skip))))
 (.region false [⟨0, (some 22), .ibin .add .i64 (.tmp 12) (.const (.int .i64 1)), none, []⟩, ⟨1, (some 12), .move (.tmp 22), none, []⟩])))))))
 (.seq (.region false [⟨0, (some 2), .move (.const (.int .i64 0)), none, []⟩])
 .ret))))), [.tmp 2]⟩
/- bellarmine/bellarmineref12.Check -/
def pf13 : PF := ⟨39, (.seq (.region false [⟨0, (some 2), .move (.const (.int .i64 0)), none, []⟩])
 (.seq (.seq (.region false [⟨0, (some 4), .move (.tmp 0), none, []⟩, ⟨1, (some 5), .len (.tmp 4), none, []⟩, ⟨2, (some 6), .ibin .eql .i64 (.tmp 5) (.const (.int .i64 0)), none, []⟩])
 (.cond (.tmp 6) (.seq (.region false [⟨0, (some 2), .move (.const (.int .i64 4)), none, []⟩])
 .ret) .skip))
 (.seq (.seq (.region false [⟨0, (some 7), .move (.tmp 0), none, []⟩, ⟨1, (some 8), .len (.tmp 7), none, []⟩, ⟨2, (some 9), .ibin .gtr .i64 (.tmp 8) (.const (.int .i64 10)), none, []⟩])
 (.cond (.tmp 9) (.seq (.region false [⟨0, (some 2), .move (.const (.int .i64 3)), none, []⟩])
 .ret) .skip))
 (.seq (.seq (.region false [⟨0, (some 3), .move (.const (.int .i64 0)), none, []⟩])
 (.block 0 (.loop (.seq (.seq (.region false [⟨0, (some 10), .move (.tmp 3), none, []⟩, ⟨1, (some 11), .move (.tmp 0), none, []⟩, ⟨2, (some 12), .len (.tmp 11), none, []⟩, ⟨3, (some 13), .ibin .lss .i64 (.tmp 10) (.tmp 12), none, []⟩])
 (.cond (.tmp 13) .skip (.exit 0)))
 (.seq (.block 1 (.seq (.region false [⟨0, (some 16), .move (.tmp 3), none, []⟩, ⟨1, (some 17), .ibin .eql .i64 (.tmp 16) (.const (.int .i64 0)), none, []⟩, ⟨2, (some 18), .move (.tmp 17), none, []⟩, ⟨3, (some 19), .move (.tmp 0), (some (18, true)), []⟩, ⟨4, (some 20), .move (.tmp 3), (some (18, true)), []⟩, ⟨5, (some 21), .idxS (.tmp 19) (.tmp 20) 1, (some (18, true)), []⟩, ⟨6, (some 22), .load1 (.tmp 21), (some (18, true)), []⟩, ⟨7, (some 23), .ibin .neq .i64 (.tmp 22) (.const (.int .i64 (-1))), (some (18, true)), []⟩, ⟨8, (some 24), .pick (.tmp 18) (.tmp 23) (.const (.bool false)), none, []⟩, ⟨9, (some 25), .move (.tmp 24), none, []⟩, ⟨10, (some 26), .move (.tmp 3), (some (25, false)), []⟩, ⟨11, (some 27), .ibin .gtr .i64 (.tmp 26) (.const (.int .i64 0)), (some (25, false)), []⟩, ⟨12, (some 28), .move (.tmp 27), (some (25, false)), []⟩, ⟨13, (some 29), .move (.tmp 0), (some (28, true)), []⟩, ⟨14, (some 30), .move (.tmp 3), (some (28, true)), []⟩, ⟨15, (some 31), .idxS (.tmp 29) (.tmp 30) 1, (some (28, true)), []⟩, ⟨16, (some 32), .load1 (.tmp 31), (some (28, true)), []⟩, ⟨17, (some 33), .move (.tmp 3), (some (28, true)), []⟩, ⟨18, (some 34), .ibin .sub .i64 (.tmp 33) (.const (.int .i64 1)), (some (28, true)), []⟩, ⟨19, (some 35), .callF 42 [(.tmp 32), (.const (.int .i64 0)), (.tmp 34)], (some (28, true)), []⟩, ⟨20, (some 36), .not (.tmp 35), (some (28, true)), []⟩, ⟨21, (some 37), .pick (.tmp 28) (.tmp 36) (.const (.bool false)), (some (25, false)), []⟩, ⟨22, (some 38), .pick (.tmp 25) (.const (.bool true)) (.tmp 37), none, []⟩])
 (.cond (.tmp 38) (.seq (.region false [⟨0, (some 2), .move (.const (.int .i64 2)), none, []⟩])
 .ret) .skip)))
 (.region false [⟨0, (some 14), .move (.tmp 3), none, []⟩, ⟨1, (some 15), .ibin .add .i64 (.tmp 14) (.const (.int .i64 1)), none, []⟩, ⟨2, (some 3), .move (.tmp 15), none, []⟩]))))))
 (.seq (.region false [⟨0, (some 2), .move (.const (.int .i64 0)), none, []⟩])
 .ret))))), [.tmp 2]⟩
/- bellarmine/post.Guards -/
def pf14 : PF := ⟨17, (.seq (.region false [⟨0, (some 4), .move (.const (.int .i64 0)), none, []⟩])
 (.seq (.seq (.region false [⟨0, (some 6), .move (.tmp 0), none, []⟩, ⟨1, (some 7), .move (.tmp 1), none, []⟩, ⟨2, (some 8), .callF 45 [(.tmp 6), (.tmp 7)], none, []⟩, ⟨3, (some 5), .move (.tmp 8), none, []⟩])
 (.seq (.region false [⟨0, (some 9), .move (.tmp 5), none, []⟩, ⟨1, (some 10), .ibin .neq .i64 (.tmp 9) (.const (.int .i64 0)), none, []⟩])
 (.cond (.tmp 10) (.seq (.region false [⟨0, (some 11), .move (.tmp 5), none, []⟩, ⟨1, (some 4), .move (.tmp 11), none, []⟩])
 .ret) .skip)))
 (.seq (.seq (.region false [⟨0, (some 12), .move (.tmp 0), none, []⟩, ⟨1, (some 13), .callF 40 [(.tmp 12)], none, []⟩, ⟨2, (some 14), .move (.tmp 1), none, []⟩, ⟨3, (some 15), .callF 46 [(.tmp 13), (.tmp 14)], none, []⟩, ⟨4, (some 16), .not (.tmp 15), none, []⟩])
 (.cond (.tmp 16) (.seq (.region false [⟨0, (some 4), .move (.const (.int .i64 14)), none, []⟩])
 .ret) .skip))
 (.seq (.region false [⟨0, (some 4), .move (.const (.int .i64 0)), none, []⟩])
 .ret)))), [.tmp 4]⟩
/- bellarmine/bellarmineref12.Guards -/
def pf15 : PF := ⟨18, (.seq (.region false [⟨0, (some 4), .move (.const (.int .i64 0)), none, []⟩])
 (.seq (.region false [⟨0, (some 6), .move (.tmp 0), none, []⟩, ⟨1, (some 7), .move (.tmp 1), none, []⟩, ⟨2, (some 8), .callF 47 [(.tmp 6), (.tmp 7)], none, []⟩, ⟨3, (some 5), .move (.tmp 8), none, []⟩])
 (.seq (.seq (.region false [⟨0, (some 9), .move (.tmp 5), none, []⟩, ⟨1, (some 10), .ibin .eql .i64 (.tmp 9) (.const (.int .i64 0)), none, []⟩, ⟨2, (some 11), .move (.tmp 10), none, []⟩, ⟨3, (some 12), .move (.tmp 0), (some (11, true)), []⟩, ⟨4, (some 13), .move (.tmp 1), (some (11, true)), []⟩, ⟨5, (some 14), .callF 48 [(.tmp 12), (.tmp 13)], (some (11, true)), []⟩, ⟨6, (some 15), .not (.tmp 14), (some (11, true)), []⟩, ⟨7, (some 16), .pick (.tmp 11) (.tmp 15) (.const (.bool false)), none, []⟩])
 (.cond (.tmp 16) (.region false [⟨0, (some 5), .move (.const (.int .i64 14)), none, []⟩]) .skip))
 (.seq (.region false [⟨0, (some 17), .move (.tmp 5), none, []⟩, ⟨1, (some 4), .move (.tmp 17), none, []⟩])
 .ret)))), [.tmp 4]⟩
/- bellarmine/post.Proves -/
def pf16 : PF := ⟨17, (.seq (.region false [⟨0, (some 4), .move (.const (.int .i64 0)), none, []⟩])
 (.seq (.seq (.region false [⟨0, (some 6), .move (.tmp 0), none, []⟩, ⟨1, (some 7), .move (.tmp 1), none, []⟩, ⟨2, (some 8), .callF 45 [(.tmp 6), (.tmp 7)], none, []⟩, ⟨3, (some 5), .move (.tmp 8), none, []⟩])
 (.seq (.region false [⟨0, (some 9), .move (.tmp 5), none, []⟩, ⟨1, (some 10), .ibin .neq .i64 (.tmp 9) (.const (.int .i64 0)), none, []⟩])
 (.cond (.tmp 10) (.seq (.region false [⟨0, (some 11), .move (.tmp 5), none, []⟩, ⟨1, (some 4), .move (.tmp 11), none, []⟩])
 .ret) .skip)))
 (.seq (.seq (.region false [⟨0, (some 12), .move (.tmp 0), none, []⟩, ⟨1, (some 13), .callF 40 [(.tmp 12)], none, []⟩, ⟨2, (some 14), .move (.tmp 1), none, []⟩, ⟨3, (some 15), .callF 49 [(.tmp 13), (.tmp 14)], none, []⟩, ⟨4, (some 16), .not (.tmp 15), none, []⟩])
 (.cond (.tmp 16) (.seq (.region false [⟨0, (some 4), .move (.const (.int .i64 14)), none, []⟩])
 .ret) .skip))
 (.seq (.region false [⟨0, (some 4), .move (.const (.int .i64 0)), none, []⟩])
 .ret)))), [.tmp 4]⟩
/- bellarmine/bellarmineref12.Proves -/
def pf17 : PF := ⟨18, (.seq (.region false [⟨0, (some 4), .move (.const (.int .i64 0)), none, []⟩])
 (.seq (.region false [⟨0, (some 6), .move (.tmp 0), none, []⟩, ⟨1, (some 7), .move (.tmp 1), none, []⟩, ⟨2, (some 8), .callF 47 [(.tmp 6), (.tmp 7)], none, []⟩, ⟨3, (some 5), .move (.tmp 8), none, []⟩])
 (.seq (.seq (.region false [⟨0, (some 9), .move (.tmp 5), none, []⟩, ⟨1, (some 10), .ibin .eql .i64 (.tmp 9) (.const (.int .i64 0)), none, []⟩, ⟨2, (some 11), .move (.tmp 10), none, []⟩, ⟨3, (some 12), .move (.tmp 0), (some (11, true)), []⟩, ⟨4, (some 13), .move (.tmp 1), (some (11, true)), []⟩, ⟨5, (some 14), .callF 50 [(.tmp 12), (.tmp 13)], (some (11, true)), []⟩, ⟨6, (some 15), .not (.tmp 14), (some (11, true)), []⟩, ⟨7, (some 16), .pick (.tmp 11) (.tmp 15) (.const (.bool false)), none, []⟩])
 (.cond (.tmp 16) (.region false [⟨0, (some 5), .move (.const (.int .i64 14)), none, []⟩]) .skip))
 (.seq (.region false [⟨0, (some 17), .move (.tmp 5), none, []⟩, ⟨1, (some 4), .move (.tmp 17), none, []⟩])
 .ret)))), [.tmp 4]⟩
/- bellarmine/post.Fewest -/
def pf18 : PF := ⟨15, (.seq (.region false [⟨0, (some 2), .move (.const (.slice none 0 0)), none, []⟩, ⟨1, (some 3), .move (.const (.int .i64 0)), none, []⟩])
 (.seq (.seq (.region false [⟨0, (some 5), .move (.tmp 0), none, []⟩, ⟨1, (some 6), .callF 12 [(.tmp 5)], none, []⟩, ⟨2, (some 4), .move (.tmp 6), none, []⟩])
 (.seq (.region false [⟨0, (some 7), .move (.tmp 4), none, []⟩, ⟨1, (some 8), .ibin .neq .i64 (.tmp 7) (.const (.int .i64 0)), none, []⟩])
 (.cond (.tmp 8) (.seq (.region false [⟨0, (some 9), .move (.tmp 4), none, []⟩, ⟨1, (some 2), .move (.const (.slice none 0 0)), none, []⟩, ⟨2, (some 3), .move (.tmp 9), none, []⟩])
 .ret) .skip)))
 (.seq (.region false [⟨0, (some 10), .move (.tmp 0), none, []⟩, ⟨1, (some 11), .callF 51 [(.tmp 10)], none, []⟩, ⟨2, (some 12), .callF 52 [(.tmp 11)], none, []⟩, ⟨3, (some 13), .idxS (.tmp 12) (.const (.int .i64 0)) 1, none, []⟩, ⟨4, (some 14), .load1 (.tmp 13), none, []⟩, ⟨5, (some 2), .move (.tmp 14), none, []⟩, ⟨6, (some 3), .move (.const (.int .i64 0)), none, []⟩])
 .ret))), [.tmp 2, .tmp 3]⟩
/- bellarmine/bellarmineref12.Fewest -/
def pf19 : PF := ⟨15, (.seq (.region false [⟨0, (some 2), .move (.const (.slice none 0 0)), none, []⟩, ⟨1, (some 3), .move (.const (.int .i64 0)), none, []⟩])
 (.seq (.region false [⟨0, (some 5), .move (.tmp 0), none, []⟩, ⟨1, (some 6), .callF 13 [(.tmp 5)], none, []⟩, ⟨2, (some 4), .move (.tmp 6), none, []⟩])
 (.seq (.seq (.region false [⟨0, (some 7), .move (.tmp 4), none, []⟩, ⟨1, (some 8), .ibin .neq .i64 (.tmp 7) (.const (.int .i64 0)), none, []⟩])
 (.cond (.tmp 8) (.seq (.region false [⟨0, (some 9), .move (.tmp 4), none, []⟩, ⟨1, (some 2), .move (.const (.slice none 0 0)), none, []⟩, ⟨2, (some 3), .move (.tmp 9), none, []⟩])
 .ret) .skip))
 (.seq (.region false [⟨0, (some 10), .move (.tmp 0), none, []⟩, ⟨1, (some 11), .callF 54 [(.tmp 10)], none, []⟩, ⟨2, (some 12), .callF 53 [(.tmp 11)], none, []⟩, ⟨3, (some 13), .idxS (.tmp 12) (.const (.int .i64 0)) 1, none, []⟩, ⟨4, (some 14), .load1 (.tmp 13), none, []⟩, ⟨5, (some 2), .move (.tmp 14), none, []⟩, ⟨6, (some 3), .move (.const (.int .i64 0)), none, []⟩])
 .ret)))), [.tmp 2, .tmp 3]⟩
/- bellarmine/post.Apart -/
def pf20 : PF := ⟨15, (.seq (.region false [⟨0, (some 2), .move (.const (.slice none 0 0)), none, []⟩, ⟨1, (some 3), .move (.const (.int .i64 0)), none, []⟩])
 (.seq (.seq (.region false [⟨0, (some 5), .move (.tmp 0), none, []⟩, ⟨1, (some 6), .callF 12 [(.tmp 5)], none, []⟩, ⟨2, (some 4), .move (.tmp 6), none, []⟩])
 (.seq (.region false [⟨0, (some 7), .move (.tmp 4), none, []⟩, ⟨1, (some 8), .ibin .neq .i64 (.tmp 7) (.const (.int .i64 0)), none, []⟩])
 (.cond (.tmp 8) (.seq (.region false [⟨0, (some 9), .move (.tmp 4), none, []⟩, ⟨1, (some 2), .move (.const (.slice none 0 0)), none, []⟩, ⟨2, (some 3), .move (.tmp 9), none, []⟩])
 .ret) .skip)))
 (.seq (.region false [⟨0, (some 10), .move (.tmp 0), none, []⟩, ⟨1, (some 11), .callF 55 [(.tmp 10)], none, []⟩, ⟨2, (some 12), .callF 52 [(.tmp 11)], none, []⟩, ⟨3, (some 13), .idxS (.tmp 12) (.const (.int .i64 0)) 1, none, []⟩, ⟨4, (some 14), .load1 (.tmp 13), none, []⟩, ⟨5, (some 2), .move (.tmp 14), none, []⟩, ⟨6, (some 3), .move (.const (.int .i64 0)), none, []⟩])
 .ret))), [.tmp 2, .tmp 3]⟩
/- bellarmine/bellarmineref12.Apart -/
def pf21 : PF := ⟨43, (.seq (.region false [⟨0, (some 2), .move (.const (.slice none 0 0)), none, []⟩, ⟨1, (some 3), .move (.const (.int .i64 0)), none, []⟩])
 (.seq (.region false [⟨0, (some 8), .move (.tmp 0), none, []⟩, ⟨1, (some 9), .callF 13 [(.tmp 8)], none, []⟩, ⟨2, (some 4), .move (.tmp 9), none, []⟩])
 (.seq (.seq (.region false [⟨0, (some 10), .move (.tmp 4), none, []⟩, ⟨1, (some 11), .ibin .neq .i64 (.tmp 10) (.const (.int .i64 0)), none, []⟩])
 (.cond (.tmp 11) (.seq (.region false [⟨0, (some 12), .move (.tmp 4), none, []⟩, ⟨1, (some 2), .move (.const (.slice none 0 0)), none, []⟩, ⟨2, (some 3), .move (.tmp 12), none, []⟩])
 .ret) .skip))
 (.seq (.region false [⟨0, (some 5), .move (.const (.slice none 0 0)), none, []⟩])
 (.seq (.region false [⟨0, (some 13), .move (.tmp 0), none, []⟩, ⟨1, (some 14), .len (.tmp 13), none, []⟩, ⟨2, (some 15), .callF 56 [(.tmp 14), (.const (.slice none 0 0))], none, []⟩, ⟨3, (some 6), .move (.tmp 15), none, []⟩])
 (.seq (.seq (.region false [⟨0, (some 7), .move (.const (.int .i64 0)), none, []⟩])
 (.block 0 (.loop (.seq (.seq (.region false [⟨0, (some 16), .move (.tmp 7), none, []⟩, ⟨1, (some 17), .move (.tmp 6), none, []⟩, ⟨2, (some 18), .len (.tmp 17), none, []⟩, ⟨3, (some 19), .ibin .lss .i64 (.tmp 16) (.tmp 18), none, []⟩])
 (.cond (.tmp 19) .skip (.exit 0)))
 (.seq (.block 1 (.seq (.region false [⟨0, (some 22), .move (.tmp 6), none, []⟩, ⟨1, (some 23), .move (.tmp 7), none, []⟩, ⟨2, (some 24), .idxS (.tmp 22) (.tmp 23) 1, none, []⟩, ⟨3, (some 25), .load1 (.tmp 24), none, []⟩, ⟨4, (some 26), .len (.tmp 25), none, []⟩, ⟨5, (some 27), .move (.tmp 5), none, []⟩, ⟨6, (some 28), .len (.tmp 27), none, []⟩, ⟨7, (some 29), .ibin .gtr .i64 (.tmp 26) (.tmp 28), none, []⟩, ⟨8, (some 30), .move (.tmp 29), none, []⟩, ⟨9, (some 31), .move (.tmp 0), (some (30, true)), []⟩, ⟨10, (some 32), .move (.tmp 6), (some (30, true)), []⟩, ⟨11, (some 33), .move (.tmp 7), (some (30, true)), []⟩, ⟨12, (some 34), .idxS (.tmp 32) (.tmp 33) 1, (some (30, true)), []⟩, ⟨13, (some 35), .load1 (.tmp 34), (some (30, true)), []⟩, ⟨14, (some 36), .callF 50 [(.tmp 31), (.tmp 35)], (some (30, true)), []⟩, ⟨15, (some 37), .pick (.tmp 30) (.tmp 36) (.const (.bool false)), none, []⟩])
 (.cond (.tmp 37) (.region false [⟨0, (some 38), .move (.tmp 6), none, []⟩, ⟨1, (some 39), .move (.tmp 7), none, []⟩, ⟨2, (some 40), .idxS (.tmp 38) (.tmp 39) 1, none, []⟩, ⟨3, (some 41), .load1 (.tmp 40), none, []⟩, ⟨4, (some 5), .move (.tmp 41), none, []⟩]) .skip)))
 (.region false [⟨0, (some 20), .move (.tmp 7), none, []⟩, ⟨1, (some 21), .ibin .add .i64 (.tmp 20) (.const (.int .i64 1)), none, []⟩, ⟨2, (some 7), .move (.tmp 21), none, []⟩]))))))
 (.seq (.region false [⟨0, (some 42), .move (.tmp 5), none, []⟩, ⟨1, (some 2), .move (.tmp 42), none, []⟩, ⟨2, (some 3), .move (.const (.int .i64 0)), none, []⟩])
 .ret))))))), [.tmp 2, .tmp 3]⟩
/- bellarmine/post.Cheapest -/
def pf22 : PF := ⟨38, (.seq (.region false [⟨0, (some 4), .move (.const (.slice none 0 0)), none, []⟩, ⟨1, (some 5), .move (.const (.int .i64 0)), none, []⟩])
 (.seq (.seq (.region false [⟨0, (some 9), .move (.tmp 0), none, []⟩, ⟨1, (some 10), .callF 12 [(.tmp 9)], none, []⟩, ⟨2, (some 6), .move (.tmp 10), none, []⟩])
 (.seq (.region false [⟨0, (some 11), .move (.tmp 6), none, []⟩, ⟨1, (some 12), .ibin .neq .i64 (.tmp 11) (.const (.int .i64 0)), none, []⟩])
 (.cond (.tmp 12) (.seq (.region false [⟨0, (some 13), .move (.tmp 6), none, []⟩, ⟨1, (some 4), .move (.const (.slice none 0 0)), none, []⟩, ⟨2, (some 5), .move (.tmp 13), none, []⟩])
 .ret) .skip)))
 (.seq (.seq (.region false [⟨0, (some 14), .move (.tmp 1), none, []⟩, ⟨1, (some 15), .len (.tmp 14), none, []⟩, ⟨2, (some 16), .move (.tmp 0), none, []⟩, ⟨3, (some 17), .len (.tmp 16), none, []⟩, ⟨4, (some 18), .ibin .neq .i64 (.tmp 15) (.tmp 17), none, []⟩])
 (.cond (.tmp 18) (.seq (.region false [⟨0, (some 4), .move (.const (.slice none 0 0)), none, []⟩, ⟨1, (some 5), .move (.const (.int .i64 5)), none, []⟩])
 .ret) .skip))
 (.seq (.seq (.region false [⟨0, (some 19), .move (.tmp 1), none, []⟩, ⟨1, (some 20), .len (.tmp 19), none, []⟩, ⟨2, (some 21), .move (.const (.int .i64 0)), none, []⟩])
 (.block 0 (.loop (.seq (.region false [⟨0, (some 22), .ibin .lss .i64 (.tmp 21) (.tmp 20), none, []⟩])
 (.seq (.cond (.tmp 22) .skip (.exit 0))
 (.seq (.block 1 (.seq (.region false [⟨0, (some 23), .idxS (.tmp 19) (.tmp 21) 1, none, []⟩, ⟨1, (some 24), .load1 (.tmp 23), none, []⟩, ⟨2, (some 8), .move (.tmp 24), none, []⟩])
 (.seq (.region false [⟨0, (some 25), .move (.tmp 8), none, []⟩, ⟨1, (some 26), .ibin .lss .i64 (.tmp 25) (.const (.int .i64 1)), none, []⟩, ⟨2, (some 27), .move (.tmp 26), none, []⟩, ⟨3, (some 28), .move (.tmp 8), (some (27, false)), []⟩, ⟨4, (some 29), .ibin .gtr .i64 (.tmp 28) (.const (.int .i64 20)), (some (27, false)), []⟩, ⟨5, (some 30), .pick (.tmp 27) (.const (.bool true)) (.tmp 29), none, []⟩])
 (.cond (.tmp 30) (.seq (.region false [⟨0, (some 4), .move (.const (.slice none 0 0)), none, []⟩, ⟨1, (some 5), .move (.const (.int .i64 1)), none, []⟩])
 .ret) .skip))))
 (.region false [⟨0, (some 31), .ibin .add .i64 (.tmp 21) (.const (.int .i64 1)), none, []⟩, ⟨1, (some 21), .move (.tmp 31), none, []⟩])))))))
 (.seq (.region false [⟨0, (some 32), .move (.tmp 0), none, []⟩, ⟨1, (some 33), .move (.tmp 1), none, []⟩, ⟨2, (some 34), .callF 57 [(.tmp 32), (.tmp 33)], none, []⟩, ⟨3, (some 35), .callF 52 [(.tmp 34)], none, []⟩, ⟨4, (some 36), .idxS (.tmp 35) (.const (.int .i64 0)) 1, none, []⟩, ⟨5, (some 37), .load1 (.tmp 36), none, []⟩, ⟨6, (some 4), .move (.tmp 37), none, []⟩, ⟨7, (some 5), .move (.const (.int .i64 0)), none, []⟩])
 .ret))))), [.tmp 4, .tmp 5]⟩
/- bellarmine/bellarmineref12.Cheapest -/
def pf23 : PF := ⟨67, (.seq (.region false [⟨0, (some 4), .move (.const (.slice none 0 0)), none, []⟩, ⟨1, (some 5), .move (.const (.int .i64 0)), none, []⟩])
 (.seq (.region false [⟨0, (some 11), .move (.tmp 0), none, []⟩, ⟨1, (some 12), .callF 13 [(.tmp 11)], none, []⟩, ⟨2, (some 6), .move (.tmp 12), none, []⟩])
 (.seq (.seq (.region false [⟨0, (some 13), .move (.tmp 6), none, []⟩, ⟨1, (some 14), .ibin .eql .i64 (.tmp 13) (.const (.int .i64 0)), none, []⟩, ⟨2, (some 15), .move (.tmp 14), none, []⟩, ⟨3, (some 16), .move (.tmp 1), (some (15, true)), []⟩, ⟨4, (some 17), .len (.tmp 16), (some (15, true)), []⟩, ⟨5, (some 18), .move (.tmp 0), (some (15, true)), []⟩, ⟨6, (some 19), .len (.tmp 18), (some (15, true)), []⟩, ⟨7, (some 20), .ibin .neq .i64 (.tmp 17) (.tmp 19), (some (15, true)), []⟩, ⟨8, (some 21), .pick (.tmp 15) (.tmp 20) (.const (.bool false)), none, []⟩])
 (.cond (.tmp 21) (.region false [⟨0, (some 6), .move (.const (.int .i64 5)), none, []⟩]) .skip))
 (.seq (.seq (.region false [⟨0, (some 7), .move (.const (.int .i64 0)), none, []⟩])
 (.block 0 (.loop (.seq (.seq (.region false [⟨0, (some 22), .move (.tmp 7), none, []⟩, ⟨1, (some 23), .move (.tmp 1), none, []⟩, ⟨2, (some 24), .len (.tmp 23), none, []⟩, ⟨3, (some 25), .ibin .lss .i64 (.tmp 22) (.tmp 24), none, []⟩, ⟨4, (some 26), .move (.tmp 25), none, []⟩, ⟨5, (some 27), .move (.tmp 6), (some (26, true)), []⟩, ⟨6, (some 28), .ibin .eql .i64 (.tmp 27) (.const (.int .i64 0)), (some (26, true)), []⟩, ⟨7, (some 29), .pick (.tmp 26) (.tmp 28) (.const (.bool false)), none, []⟩])
 (.cond (.tmp 29) .skip (.exit 0)))
 (.seq (.block 1 (.seq (.region false [⟨0, (some 32), .move (.tmp 1), none, []⟩, ⟨1, (some 33), .move (.tmp 7), none, []⟩, ⟨2, (some 34), .idxS (.tmp 32) (.tmp 33) 1, none, []⟩, ⟨3, (some 35), .load1 (.tmp 34), none, []⟩, ⟨4, (some 36), .callF 42 [(.tmp 35), (.const (.int .i64 1)), (.const (.int .i64 20))], none, []⟩, ⟨5, (some 37), .not (.tmp 36), none, []⟩])
 (.cond (.tmp 37) (.region false [⟨0, (some 6), .move (.const (.int .i64 1)), none, []⟩]) .skip)))
 (.region false [⟨0, (some 30), .move (.tmp 7), none, []⟩, ⟨1, (some 31), .ibin .add .i64 (.tmp 30) (.const (.int .i64 1)), none, []⟩, ⟨2, (some 7), .move (.tmp 31), none, []⟩]))))))
 (.seq (.seq (.region false [⟨0, (some 38), .move (.tmp 6), none, []⟩, ⟨1, (some 39), .ibin .neq .i64 (.tmp 38) (.const (.int .i64 0)), none, []⟩])
 (.cond (.tmp 39) (.seq (.region false [⟨0, (some 40), .move (.tmp 6), none, []⟩, ⟨1, (some 4), .move (.const (.slice none 0 0)), none, []⟩, ⟨2, (some 5), .move (.tmp 40), none, []⟩])
 .ret) .skip))
 (.seq (.region false [⟨0, (some 41), .move (.tmp 0), none, []⟩, ⟨1, (some 42), .callF 54 [(.tmp 41)], none, []⟩, ⟨2, (some 8), .move (.tmp 42), none, []⟩])
 (.seq (.region false [⟨0, (some 43), .move (.tmp 8), none, []⟩, ⟨1, (some 44), .idxS (.tmp 43) (.const (.int .i64 0)) 1, none, []⟩, ⟨2, (some 45), .load1 (.tmp 44), none, []⟩, ⟨3, (some 9), .move (.tmp 45), none, []⟩])
 (.seq (.seq (.region false [⟨0, (some 10), .move (.const (.int .i64 1)), none, []⟩])
 (.block 2 (.loop (.seq (.seq (.region false [⟨0, (some 46), .move (.tmp 10), none, []⟩, ⟨1, (some 47), .move (.tmp 8), none, []⟩, ⟨2, (some 48), .len (.tmp 47), none, []⟩, ⟨3, (some 49), .ibin .lss .i64 (.tmp 46) (.tmp 48), none, []⟩])
 (.cond (.tmp 49) .skip (.exit 2)))
 (.seq (.block 3 (.seq (.region false [⟨0, (some 52), .move (.tmp 1), none, []⟩, ⟨1, (some 53), .move (.tmp 8), none, []⟩, ⟨2, (some 54), .move (.tmp 10), none, []⟩, ⟨3, (some 55), .idxS (.tmp 53) (.tmp 54) 1, none, []⟩, ⟨4, (some 56), .load1 (.tmp 55), none, []⟩, ⟨5, (some 57), .callF 58 [(.tmp 52), (.tmp 56)], none, []⟩, ⟨6, (some 58), .move (.tmp 1), none, []⟩, ⟨7, (some 59), .move (.tmp 9), none, []⟩, ⟨8, (some 60), .callF 58 [(.tmp 58), (.tmp 59)], none, []⟩, ⟨9, (some 61), .ibin .lss .i64 (.tmp 57) (.tmp 60), none, []⟩])
 (.cond (.tmp 61) (.region false [⟨0, (some 62), .move (.tmp 8), none, []⟩, ⟨1, (some 63), .move (.tmp 10), none, []⟩, ⟨2, (some 64), .idxS (.tmp 62) (.tmp 63) 1, none, []⟩, ⟨3, (some 65), .load1 (.tmp 64), none, []⟩, ⟨4, (some 9), .move (.tmp 65), none, []⟩]) .skip)))
 (.region false [⟨0, (some 50), .move (.tmp 10), none, []⟩, ⟨1, (some 51), .ibin .add .i64 (.tmp 50) (.const (.int .i64 1)), none, []⟩, ⟨2, (some 10), .move (.tmp 51), none, []⟩]))))))
 (.seq (.region false [⟨0, (some 66), .move (.tmp 9), none, []⟩, ⟨1, (some 4), .move (.tmp 66), none, []⟩, ⟨2, (some 5), .move (.const (.int .i64 0)), none, []⟩])
 .ret))))))))), [.tmp 4, .tmp 5]⟩
/- bellarmine/post.Count -/
def pf24 : PF := ⟨18, (.seq (.region false [⟨0, (some 2), .move (.const (.int .i64 0)), none, []⟩, ⟨1, (some 3), .move (.const (.int .i64 0)), none, []⟩])
 (.seq (.seq (.region false [⟨0, (some 6), .move (.tmp 0), none, []⟩, ⟨1, (some 7), .callF 12 [(.tmp 6)], none, []⟩, ⟨2, (some 4), .move (.tmp 7), none, []⟩])
 (.seq (.region false [⟨0, (some 8), .move (.tmp 4), none, []⟩, ⟨1, (some 9), .ibin .neq .i64 (.tmp 8) (.const (.int .i64 0)), none, []⟩])
 (.cond (.tmp 9) (.seq (.region false [⟨0, (some 10), .move (.tmp 4), none, []⟩, ⟨1, (some 2), .move (.const (.int .i64 0)), none, []⟩, ⟨2, (some 3), .move (.tmp 10), none, []⟩])
 .ret) .skip)))
 (.seq (.region false [⟨0, (some 5), .new 3 [(.int .i64 0)], none, []⟩, ⟨1, none, .store (.tmp 5) (.const (.int .i64 0)) 1, none, []⟩])
 (.seq (.seq (.region false [⟨0, (some 11), .move (.tmp 0), none, []⟩, ⟨1, (some 12), .callF 51 [(.tmp 11)], none, []⟩, ⟨2, (some 13), .callF 59 [(.tmp 12)], none, []⟩])
 (.block 0 (.rangeFunc (.tmp 13) [14] .skip (.block 1 (.region false [⟨0, (some 15), .load1 (.tmp 5), none, []⟩, ⟨1, (some 16), .ibin .add .i64 (.tmp 15) (.const (.int .i64 1)), none, []⟩, ⟨2, none, .store (.tmp 5) (.tmp 16) 1, none, []⟩])))))
 (.seq (.region false [⟨0, (some 17), .load1 (.tmp 5), none, []⟩, ⟨1, (some 2), .move (.tmp 17), none, []⟩, ⟨2, (some 3), .move (.const (.int .i64 0)), none, []⟩])
 .ret))))), [.tmp 2, .tmp 3]⟩
/- bellarmine/bellarmineref12.Count -/
def pf25 : PF := ⟨13, (.seq (.region false [⟨0, (some 2), .move (.const (.int .i64 0)), none, []⟩, ⟨1, (some 3), .move (.const (.int .i64 0)), none, []⟩])
 (.seq (.region false [⟨0, (some 5), .move (.tmp 0), none, []⟩, ⟨1, (some 6), .callF 13 [(.tmp 5)], none, []⟩, ⟨2, (some 4), .move (.tmp 6), none, []⟩])
 (.seq (.seq (.region false [⟨0, (some 7), .move (.tmp 4), none, []⟩, ⟨1, (some 8), .ibin .neq .i64 (.tmp 7) (.const (.int .i64 0)), none, []⟩])
 (.cond (.tmp 8) (.seq (.region false [⟨0, (some 9), .move (.tmp 4), none, []⟩, ⟨1, (some 2), .move (.const (.int .i64 0)), none, []⟩, ⟨2, (some 3), .move (.tmp 9), none, []⟩])
 .ret) .skip))
 (.seq (.region false [⟨0, (some 10), .move (.tmp 0), none, []⟩, ⟨1, (some 11), .callF 54 [(.tmp 10)], none, []⟩, ⟨2, (some 12), .len (.tmp 11), none, []⟩, ⟨3, (some 2), .move (.tmp 12), none, []⟩, ⟨4, (some 3), .move (.const (.int .i64 0)), none, []⟩])
 .ret)))), [.tmp 2, .tmp 3]⟩
/- bellarmine/post.Ways -/
def pf26 : PF := ⟨14, (.seq (.region false [⟨0, (some 2), .move (.const (.int .i64 0)), none, []⟩, ⟨1, (some 3), .move (.const (.int .i64 0)), none, []⟩])
 (.seq (.seq (.region false [⟨0, (some 5), .move (.tmp 0), none, []⟩, ⟨1, (some 6), .callF 12 [(.tmp 5)], none, []⟩, ⟨2, (some 4), .move (.tmp 6), none, []⟩])
 (.seq (.region false [⟨0, (some 7), .move (.tmp 4), none, []⟩, ⟨1, (some 8), .ibin .neq .i64 (.tmp 7) (.const (.int .i64 0)), none, []⟩])
 (.cond (.tmp 8) (.seq (.region false [⟨0, (some 9), .move (.tmp 4), none, []⟩, ⟨1, (some 2), .move (.const (.int .i64 0)), none, []⟩, ⟨2, (some 3), .move (.tmp 9), none, []⟩])
 .ret) .skip)))
 (.seq (.region false [⟨0, (some 10), .move (.tmp 0), none, []⟩, ⟨1, (some 11), .callF 51 [(.tmp 10)], none, []⟩, ⟨2, (some 12), .callF 52 [(.tmp 11)], none, []⟩, ⟨3, (some 13), .len (.tmp 12), none, []⟩, ⟨4, (some 2), .move (.tmp 13), none, []⟩, ⟨5, (some 3), .move (.const (.int .i64 0)), none, []⟩])
 .ret))), [.tmp 2, .tmp 3]⟩
/- bellarmine/bellarmineref12.Ways -/
def pf27 : PF := ⟨14, (.seq (.region false [⟨0, (some 2), .move (.const (.int .i64 0)), none, []⟩, ⟨1, (some 3), .move (.const (.int .i64 0)), none, []⟩])
 (.seq (.region false [⟨0, (some 5), .move (.tmp 0), none, []⟩, ⟨1, (some 6), .callF 13 [(.tmp 5)], none, []⟩, ⟨2, (some 4), .move (.tmp 6), none, []⟩])
 (.seq (.seq (.region false [⟨0, (some 7), .move (.tmp 4), none, []⟩, ⟨1, (some 8), .ibin .neq .i64 (.tmp 7) (.const (.int .i64 0)), none, []⟩])
 (.cond (.tmp 8) (.seq (.region false [⟨0, (some 9), .move (.tmp 4), none, []⟩, ⟨1, (some 2), .move (.const (.int .i64 0)), none, []⟩, ⟨2, (some 3), .move (.tmp 9), none, []⟩])
 .ret) .skip))
 (.seq (.region false [⟨0, (some 10), .move (.tmp 0), none, []⟩, ⟨1, (some 11), .callF 54 [(.tmp 10)], none, []⟩, ⟨2, (some 12), .callF 53 [(.tmp 11)], none, []⟩, ⟨3, (some 13), .len (.tmp 12), none, []⟩, ⟨4, (some 2), .move (.tmp 13), none, []⟩, ⟨5, (some 3), .move (.const (.int .i64 0)), none, []⟩])
 .ret)))), [.tmp 2, .tmp 3]⟩
/- bellarmine/post.Always -/
def pf28 : PF := ⟨20, (.seq (.region false [⟨0, (some 2), .move (.const (.slice none 0 0)), none, []⟩, ⟨1, (some 3), .move (.const (.int .i64 0)), none, []⟩])
 (.seq (.seq (.region false [⟨0, (some 6), .move (.tmp 0), none, []⟩, ⟨1, (some 7), .callF 12 [(.tmp 6)], none, []⟩, ⟨2, (some 4), .move (.tmp 7), none, []⟩])
 (.seq (.region false [⟨0, (some 8), .move (.tmp 4), none, []⟩, ⟨1, (some 9), .ibin .neq .i64 (.tmp 8) (.const (.int .i64 0)), none, []⟩])
 (.cond (.tmp 9) (.seq (.region false [⟨0, (some 10), .move (.tmp 4), none, []⟩, ⟨1, (some 2), .move (.const (.slice none 0 0)), none, []⟩, ⟨2, (some 3), .move (.tmp 10), none, []⟩])
 .ret) .skip)))
 (.seq (.region false [⟨0, (some 11), .move (.tmp 0), none, []⟩, ⟨1, (some 12), .callF 51 [(.tmp 11)], none, []⟩, ⟨2, (some 13), .callF 52 [(.tmp 12)], none, []⟩, ⟨3, (some 5), .move (.tmp 13), none, []⟩])
 (.seq (.region false [⟨0, (some 14), .move (.tmp 5), none, []⟩, ⟨1, (some 15), .move (.tmp 5), none, []⟩, ⟨2, (some 16), .len (.tmp 15), none, []⟩, ⟨3, (some 17), .move (.tmp 0), none, []⟩, ⟨4, (some 18), .len (.tmp 17), none, []⟩, ⟨5, (some 19), .callF 60 [(.tmp 14), (.tmp 16), (.tmp 18)], none, []⟩, ⟨6, (some 2), .move (.tmp 19), none, []⟩, ⟨7, (some 3), .move (.const (.int .i64 0)), none, []⟩])
 .ret)))), [.tmp 2, .tmp 3]⟩
/- bellarmine/bellarmineref12.Always -/
def pf29 : PF := ⟨12, (.seq (.region false [⟨0, (some 2), .move (.const (.slice none 0 0)), none, []⟩, ⟨1, (some 3), .move (.const (.int .i64 0)), none, []⟩])
 (.seq (.region false [⟨0, (some 5), .move (.tmp 0), none, []⟩, ⟨1, (some 6), .callF 13 [(.tmp 5)], none, []⟩, ⟨2, (some 4), .move (.tmp 6), none, []⟩])
 (.seq (.seq (.region false [⟨0, (some 7), .move (.tmp 4), none, []⟩, ⟨1, (some 8), .ibin .neq .i64 (.tmp 7) (.const (.int .i64 0)), none, []⟩])
 (.cond (.tmp 8) (.seq (.region false [⟨0, (some 9), .move (.tmp 4), none, []⟩, ⟨1, (some 2), .move (.const (.slice none 0 0)), none, []⟩, ⟨2, (some 3), .move (.tmp 9), none, []⟩])
 .ret) .skip))
 (.seq (.region false [⟨0, (some 10), .move (.tmp 0), none, []⟩, ⟨1, (some 11), .callF 61 [(.tmp 10), (.const (.int .i64 (-1)))], none, []⟩, ⟨2, (some 2), .move (.tmp 11), none, []⟩, ⟨3, (some 3), .move (.const (.int .i64 0)), none, []⟩])
 .ret)))), [.tmp 2, .tmp 3]⟩
/- bellarmine/post.Never -/
def pf30 : PF := ⟨16, (.seq (.region false [⟨0, (some 2), .move (.const (.slice none 0 0)), none, []⟩, ⟨1, (some 3), .move (.const (.int .i64 0)), none, []⟩])
 (.seq (.seq (.region false [⟨0, (some 5), .move (.tmp 0), none, []⟩, ⟨1, (some 6), .callF 12 [(.tmp 5)], none, []⟩, ⟨2, (some 4), .move (.tmp 6), none, []⟩])
 (.seq (.region false [⟨0, (some 7), .move (.tmp 4), none, []⟩, ⟨1, (some 8), .ibin .neq .i64 (.tmp 7) (.const (.int .i64 0)), none, []⟩])
 (.cond (.tmp 8) (.seq (.region false [⟨0, (some 9), .move (.tmp 4), none, []⟩, ⟨1, (some 2), .move (.const (.slice none 0 0)), none, []⟩, ⟨2, (some 3), .move (.tmp 9), none, []⟩])
 .ret) .skip)))
 (.seq (.region false [⟨0, (some 10), .move (.tmp 0), none, []⟩, ⟨1, (some 11), .callF 51 [(.tmp 10)], none, []⟩, ⟨2, (some 12), .callF 52 [(.tmp 11)], none, []⟩, ⟨3, (some 13), .move (.tmp 0), none, []⟩, ⟨4, (some 14), .len (.tmp 13), none, []⟩, ⟨5, (some 15), .callF 60 [(.tmp 12), (.const (.int .i64 0)), (.tmp 14)], none, []⟩, ⟨6, (some 2), .move (.tmp 15), none, []⟩, ⟨7, (some 3), .move (.const (.int .i64 0)), none, []⟩])
 .ret))), [.tmp 2, .tmp 3]⟩
/- bellarmine/bellarmineref12.Never -/
def pf31 : PF := ⟨12, (.seq (.region false [⟨0, (some 2), .move (.const (.slice none 0 0)), none, []⟩, ⟨1, (some 3), .move (.const (.int .i64 0)), none, []⟩])
 (.seq (.region false [⟨0, (some 5), .move (.tmp 0), none, []⟩, ⟨1, (some 6), .callF 13 [(.tmp 5)], none, []⟩, ⟨2, (some 4), .move (.tmp 6), none, []⟩])
 (.seq (.seq (.region false [⟨0, (some 7), .move (.tmp 4), none, []⟩, ⟨1, (some 8), .ibin .neq .i64 (.tmp 7) (.const (.int .i64 0)), none, []⟩])
 (.cond (.tmp 8) (.seq (.region false [⟨0, (some 9), .move (.tmp 4), none, []⟩, ⟨1, (some 2), .move (.const (.slice none 0 0)), none, []⟩, ⟨2, (some 3), .move (.tmp 9), none, []⟩])
 .ret) .skip))
 (.seq (.region false [⟨0, (some 10), .move (.tmp 0), none, []⟩, ⟨1, (some 11), .callF 61 [(.tmp 10), (.const (.int .i64 0))], none, []⟩, ⟨2, (some 2), .move (.tmp 11), none, []⟩, ⟨3, (some 3), .move (.const (.int .i64 0)), none, []⟩])
 .ret)))), [.tmp 2, .tmp 3]⟩
/- slices.Clone[[]int,int] -/
def pf33 : PF := ⟨8, (.seq (.region false [⟨0, (some 2), .move (.const (.slice none 0 0)), none, []⟩])
 (.seq (.seq (.region false [⟨0, (some 3), .move (.tmp 0), none, []⟩, ⟨1, (some 4), .nilEq false .sl (.tmp 3), none, []⟩])
 (.cond (.tmp 4) (.seq (.region false [⟨0, (some 2), .move (.const (.slice none 0 0)), none, []⟩])
 .ret) .skip))
 (.seq (.region false [⟨0, (some 5), .bldS 3 1 [] 0 [], none, []⟩, ⟨1, (some 6), .move (.tmp 0), none, []⟩, ⟨2, (some 7), .append 3 1 (.tmp 5) (.tmp 6), none, []⟩, ⟨3, (some 2), .move (.tmp 7), none, []⟩])
 .ret))), [.tmp 2]⟩
/- bellarmine/post.isPlace -/
def pf39 : PF := ⟨13, (.seq (.region false [⟨0, (some 4), .move (.const (.bool false)), none, []⟩])
 (.seq (.region false [⟨0, (some 5), .move (.tmp 1), none, []⟩, ⟨1, (some 6), .ibin .geq .i64 (.tmp 5) (.const (.int .i64 0)), none, []⟩, ⟨2, (some 7), .move (.tmp 6), none, []⟩, ⟨3, (some 8), .move (.tmp 1), (some (7, true)), []⟩, ⟨4, (some 9), .move (.tmp 0), (some (7, true)), []⟩, ⟨5, (some 10), .len (.tmp 9), (some (7, true)), []⟩, ⟨6, (some 11), .ibin .lss .i64 (.tmp 8) (.tmp 10), (some (7, true)), []⟩, ⟨7, (some 12), .pick (.tmp 7) (.tmp 11) (.const (.bool false)), none, []⟩, ⟨8, (some 4), .move (.tmp 12), none, []⟩])
 .ret)), [.tmp 4]⟩
/- bellarmine/post.handsOf -/
def pf40 : PF := ⟨46, (.seq (.region false [⟨0, (some 2), .move (.const (.slice none 0 0)), none, []⟩])
 (.seq (.region false [⟨0, (some 6), .move (.tmp 0), none, []⟩, ⟨1, (some 7), .len (.tmp 6), none, []⟩, ⟨2, (some 8), .mkS 49 [(.int .u16 0)] (.tmp 7) (.tmp 7), none, []⟩, ⟨3, (some 3), .move (.tmp 8), none, []⟩])
 (.seq (.seq (.region false [⟨0, (some 9), .move (.tmp 0), none, []⟩, ⟨1, (some 10), .len (.tmp 9), none, []⟩, ⟨2, (some 11), .move (.const (.int .i64 0)), none, []⟩])
 (.block 0 (.loop (.seq (.region false [⟨0, (some 12), .ibin .lss .i64 (.tmp 11) (.tmp 10), none, []⟩])
 (.seq (.cond (.tmp 12) .skip (.exit 0))
 (.seq (.block 1 (.seq (.region false [⟨0, (some 13), .move (.tmp 11), none, []⟩, ⟨1, (some 4), .move (.tmp 13), none, []⟩])
 (.seq (.region true [⟨0, (some 14), .move (.tmp 3), none, []⟩, ⟨1, (some 15), .move (.tmp 4), none, []⟩, ⟨2, (some 16), .idxS (.tmp 14) (.tmp 15) 1, none, []⟩, ⟨3, (some 17), .load1 (.tmp 16), none, []⟩, ⟨4, (some 18), .move (.tmp 4), none, []⟩, ⟨5, (some 19), .callF 62 [(.tmp 18)], none, [3]⟩, ⟨6, (some 20), .ibin .or .u16 (.tmp 17) (.tmp 19), none, []⟩, ⟨7, (some 21), .idxS (.tmp 14) (.tmp 15) 1, none, []⟩, ⟨8, none, .store (.tmp 21) (.tmp 20) 1, none, []⟩])
 (.seq (.region false [⟨0, (some 22), .move (.tmp 4), none, []⟩, ⟨1, (some 23), .ibin .gtr .i64 (.tmp 22) (.const (.int .i64 0)), none, []⟩])
 (.cond (.tmp 23) (.seq (.region false [⟨0, (some 24), .move (.tmp 0), none, []⟩, ⟨1, (some 25), .move (.tmp 4), none, []⟩, ⟨2, (some 26), .idxS (.tmp 24) (.tmp 25) 1, none, []⟩, ⟨3, (some 27), .load1 (.tmp 26), none, []⟩, ⟨4, (some 5), .move (.tmp 27), none, []⟩])
 (.seq (.region true [⟨0, (some 28), .move (.tmp 3), none, []⟩, ⟨1, (some 29), .move (.tmp 4), none, []⟩, ⟨2, (some 30), .idxS (.tmp 28) (.tmp 29) 1, none, []⟩, ⟨3, (some 31), .load1 (.tmp 30), none, []⟩, ⟨4, (some 32), .move (.tmp 5), none, []⟩, ⟨5, (some 33), .callF 62 [(.tmp 32)], none, [3]⟩, ⟨6, (some 34), .ibin .or .u16 (.tmp 31) (.tmp 33), none, []⟩, ⟨7, (some 35), .idxS (.tmp 28) (.tmp 29) 1, none, []⟩, ⟨8, none, .store (.tmp 35) (.tmp 34) 1, none, []⟩])
 (.region true [⟨0, (some 36), .move (.tmp 3), none, []⟩, ⟨1, (some 37), .move (.tmp 5), none, []⟩, ⟨2, (some 38), .idxS (.tmp 36) (.tmp 37) 1, none, []⟩, ⟨3, (some 39), .load1 (.tmp 38), none, []⟩, ⟨4, (some 40), .move (.tmp 4), none, []⟩, ⟨5, (some 41), .callF 62 [(.tmp 40)], none, [3]⟩, ⟨6, (some 42), .ibin .or .u16 (.tmp 39) (.tmp 41), none, []⟩, ⟨7, (some 43), .idxS (.tmp 36) (.tmp 37) 1, none, []⟩, ⟨8, none, .store (.tmp 43) (.tmp 42) 1, none, []⟩]))) .skip)))))
 (.region false [⟨0, (some 44), .ibin .add .i64 (.tmp 11) (.const (.int .i64 1)), none, []⟩, ⟨1, (some 11), .move (.tmp 44), none, []⟩])))))))
 (.seq (.region false [⟨0, (some 45), .move (.tmp 3), none, []⟩, ⟨1, (some 2), .move (.tmp 45), none, []⟩])
 .ret)))), [.tmp 2]⟩
/- (bellarmine/post.set).places -/
def pf41 : PF := ⟨19, (.seq (.region false [⟨0, (some 2), .move (.const (.slice none 0 0)), none, []⟩])
 (.seq (.region false [⟨0, (some 3), .move (.const (.slice none 0 0)), none, []⟩])
 (.seq (.seq (.region false [⟨0, (some 5), .move (.const (.int .i64 0)), none, []⟩])
 (.block 0 (.loop (.seq (.region false [⟨0, (some 6), .ibin .lss .i64 (.tmp 5) (.const (.int .i64 10)), none, []⟩])
 (.seq (.cond (.tmp 6) .skip (.exit 0))
 (.seq (.block 1 (.seq (.region false [⟨0, (some 7), .move (.tmp 5), none, []⟩, ⟨1, (some 4), .move (.tmp 7), none, []⟩])
 (.seq (.region false [⟨0, (some 8), .move (.tmp 0), none, []⟩, ⟨1, (some 9), .move (.tmp 4), none, []⟩, ⟨2, (some 10), .callF 62 [(.tmp 9)], none, []⟩, ⟨3, (some 11), .ibin .and .u16 (.tmp 8) (.tmp 10), none, []⟩, ⟨4, (some 12), .ibin .neq .u16 (.tmp 11) (.const (.int .u16 0)), none, []⟩])
 (.cond (.tmp 12) (.region false [⟨0, (some 13), .move (.tmp 3), none, []⟩, ⟨1, (some 14), .move (.tmp 4), none, []⟩, ⟨2, (some 15), .bldS 3 1 [(.int .i64 0)] 1 [(0, (.tmp 14))], none, []⟩, ⟨3, (some 16), .append 3 1 (.tmp 13) (.tmp 15), none, []⟩, ⟨4, (some 3), .move (.tmp 16), none, []⟩]) .skip))))
 (.region false [⟨0, (some 17), .ibin .add .i64 (.tmp 5) (.const (.int .i64 1)), none, []⟩, ⟨1, (some 5), .move (.tmp 17), none, []⟩])))))))
 (.seq (.region false [⟨0, (some 18), .move (.tmp 3), none, []⟩, ⟨1, (some 2), .move (.tmp 18), none, []⟩])
 .ret)))), [.tmp 2]⟩
/- bellarmine/bellarmineref12.in -/
def pf42 : PF := ⟨15, (.seq (.region false [⟨0, (some 6), .move (.const (.bool false)), none, []⟩])
 (.seq (.region false [⟨0, (some 7), .move (.tmp 0), none, []⟩, ⟨1, (some 8), .move (.tmp 1), none, []⟩, ⟨2, (some 9), .ibin .geq .i64 (.tmp 7) (.tmp 8), none, []⟩, ⟨3, (some 10), .move (.tmp 9), none, []⟩, ⟨4, (some 11), .move (.tmp 0), (some (10, true)), []⟩, ⟨5, (some 12), .move (.tmp 2), (some (10, true)), []⟩, ⟨6, (some 13), .ibin .leq .i64 (.tmp 11) (.tmp 12), (some (10, true)), []⟩, ⟨7, (some 14), .pick (.tmp 10) (.tmp 13) (.const (.bool false)), none, []⟩, ⟨8, (some 6), .move (.tmp 14), none, []⟩])
 .ret)), [.tmp 6]⟩
/- bellarmine/bellarmineref12.hand -/
def pf43 : PF := ⟨37, (.seq (.region false [⟨0, (some 4), .move (.const (.slice none 0 0)), none, []⟩])
 (.seq (.region false [⟨0, (some 5), .move (.const (.slice none 0 0)), none, []⟩])
 (.seq (.seq (.region false [⟨0, (some 6), .move (.const (.int .i64 0)), none, []⟩])
 (.block 0 (.loop (.seq (.seq (.region false [⟨0, (some 7), .move (.tmp 6), none, []⟩, ⟨1, (some 8), .move (.tmp 0), none, []⟩, ⟨2, (some 9), .len (.tmp 8), none, []⟩, ⟨3, (some 10), .ibin .lss .i64 (.tmp 7) (.tmp 9), none, []⟩])
 (.cond (.tmp 10) .skip (.exit 0)))
 (.seq (.block 1 (.seq (.region false [⟨0, (some 13), .move (.tmp 6), none, []⟩, ⟨1, (some 14), .move (.tmp 1), none, []⟩, ⟨2, (some 15), .ibin .eql .i64 (.tmp 13) (.tmp 14), none, []⟩, ⟨3, (some 16), .move (.tmp 15), none, []⟩, ⟨4, (some 17), .move (.tmp 0), (some (16, false)), []⟩, ⟨5, (some 18), .move (.tmp 6), (some (16, false)), []⟩, ⟨6, (some 19), .idxS (.tmp 17) (.tmp 18) 1, (some (16, false)), []⟩, ⟨7, (some 20), .load1 (.tmp 19), (some (16, false)), []⟩, ⟨8, (some 21), .move (.tmp 1), (some (16, false)), []⟩, ⟨9, (some 22), .ibin .eql .i64 (.tmp 20) (.tmp 21), (some (16, false)), []⟩, ⟨10, (some 23), .pick (.tmp 16) (.const (.bool true)) (.tmp 22), none, []⟩, ⟨11, (some 24), .move (.tmp 23), none, []⟩, ⟨12, (some 25), .move (.tmp 0), (some (24, false)), []⟩, ⟨13, (some 26), .move (.tmp 1), (some (24, false)), []⟩, ⟨14, (some 27), .idxS (.tmp 25) (.tmp 26) 1, (some (24, false)), []⟩, ⟨15, (some 28), .load1 (.tmp 27), (some (24, false)), []⟩, ⟨16, (some 29), .move (.tmp 6), (some (24, false)), []⟩, ⟨17, (some 30), .ibin .eql .i64 (.tmp 28) (.tmp 29), (some (24, false)), []⟩, ⟨18, (some 31), .pick (.tmp 24) (.const (.bool true)) (.tmp 30), none, []⟩])
 (.cond (.tmp 31) (.region false [⟨0, (some 32), .move (.tmp 5), none, []⟩, ⟨1, (some 33), .move (.tmp 6), none, []⟩, ⟨2, (some 34), .bldS 3 1 [(.int .i64 0)] 1 [(0, (.tmp 33))], none, []⟩, ⟨3, (some 35), .append 3 1 (.tmp 32) (.tmp 34), none, []⟩, ⟨4, (some 5), .move (.tmp 35), none, []⟩]) .skip)))
 (.region false [⟨0, (some 11), .move (.tmp 6), none, []⟩, ⟨1, (some 12), .ibin .add .i64 (.tmp 11) (.const (.int .i64 1)), none, []⟩, ⟨2, (some 6), .move (.tmp 12), none, []⟩]))))))
 (.seq (.region false [⟨0, (some 36), .move (.tmp 5), none, []⟩, ⟨1, (some 4), .move (.tmp 36), none, []⟩])
 .ret)))), [.tmp 4]⟩
/- bellarmine/post.isBehind -/
def pf44 : PF := ⟨16, (.seq (.region false [⟨0, (some 4), .move (.const (.bool false)), none, []⟩])
 (.seq (.seq (.region false [⟨0, (some 5), .move (.tmp 1), none, []⟩, ⟨1, (some 6), .ibin .eql .i64 (.tmp 5) (.const (.int .i64 0)), none, []⟩])
 (.cond (.tmp 6) (.seq (.region false [⟨0, (some 7), .move (.tmp 0), none, []⟩, ⟨1, (some 8), .ibin .eql .i64 (.tmp 7) (.const (.int .i64 (-1))), none, []⟩, ⟨2, (some 4), .move (.tmp 8), none, []⟩])
 .ret) .skip))
 (.seq (.region false [⟨0, (some 9), .move (.tmp 0), none, []⟩, ⟨1, (some 10), .ibin .geq .i64 (.tmp 9) (.const (.int .i64 0)), none, []⟩, ⟨2, (some 11), .move (.tmp 10), none, []⟩, ⟨3, (some 12), .move (.tmp 0), (some (11, true)), []⟩, ⟨4, (some 13), .move (.tmp 1), (some (11, true)), []⟩, ⟨5, (some 14), .ibin .lss .i64 (.tmp 12) (.tmp 13), (some (11, true)), []⟩, ⟨6, (some 15), .pick (.tmp 11) (.tmp 14) (.const (.bool false)), none, []⟩, ⟨7, (some 4), .move (.tmp 15), none, []⟩])
 .ret))), [.tmp 4]⟩
/- bellarmine/post.checkPlaces -/
def pf45 : PF := ⟨36, (.seq (.region false [⟨0, (some 4), .move (.const (.int .i64 0)), none, []⟩])
 (.seq (.seq (.region false [⟨0, (some 8), .move (.tmp 0), none, []⟩, ⟨1, (some 9), .callF 12 [(.tmp 8)], none, []⟩, ⟨2, (some 5), .move (.tmp 9), none, []⟩])
 (.seq (.region false [⟨0, (some 10), .move (.tmp 5), none, []⟩, ⟨1, (some 11), .ibin .neq .i64 (.tmp 10) (.const (.int .i64 0)), none, []⟩])
 (.cond (.tmp 11) (.seq (.region false [⟨0, (some 12), .move (.tmp 5), none, []⟩, ⟨1, (some 4), .move (.tmp 12), none, []⟩])
 .ret) .skip)))
 (.seq (.seq (.region false [⟨0, (some 13), .move (.tmp 1), none, []⟩, ⟨1, (some 14), .len (.tmp 13), none, []⟩, ⟨2, (some 15), .move (.const (.int .i64 0)), none, []⟩])
 (.block 0 (.loop (.seq (.region false [⟨0, (some 16), .ibin .lss .i64 (.tmp 15) (.tmp 14), none, []⟩])
 (.seq (.cond (.tmp 16) .skip (.exit 0))
 (.seq (.block 1 (.seq (.region false [⟨0, (some 17), .move (.tmp 15), none, []⟩, ⟨1, (some 18), .idxS (.tmp 13) (.tmp 15) 1, none, []⟩, ⟨2, (some 19), .load1 (.tmp 18), none, []⟩, ⟨3, (some 6), .move (.tmp 17), none, []⟩, ⟨4, (some 7), .move (.tmp 19), none, []⟩])
 (.seq (.seq (.region false [⟨0, (some 20), .move (.tmp 0), none, []⟩, ⟨1, (some 21), .move (.tmp 7), none, []⟩, ⟨2, (some 22), .callF 39 [(.tmp 20), (.tmp 21)], none, []⟩, ⟨3, (some 23), .not (.tmp 22), none, []⟩])
 (.cond (.tmp 23) (.seq (.region false [⟨0, (some 4), .move (.const (.int .i64 2)), none, []⟩])
 .ret) .skip))
 (.seq (.region false [⟨0, (some 24), .move (.tmp 6), none, []⟩, ⟨1, (some 25), .ibin .gtr .i64 (.tmp 24) (.const (.int .i64 0)), none, []⟩, ⟨2, (some 26), .move (.tmp 25), none, []⟩, ⟨3, (some 27), .move (.tmp 7), (some (26, true)), []⟩, ⟨4, (some 28), .move (.tmp 1), (some (26, true)), []⟩, ⟨5, (some 29), .move (.tmp 6), (some (26, true)), []⟩, ⟨6, (some 30), .ibin .sub .i64 (.tmp 29) (.const (.int .i64 1)), (some (26, true)), []⟩, ⟨7, (some 31), .idxS (.tmp 28) (.tmp 30) 1, (some (26, true)), []⟩, ⟨8, (some 32), .load1 (.tmp 31), (some (26, true)), []⟩, ⟨9, (some 33), .ibin .leq .i64 (.tmp 27) (.tmp 32), (some (26, true)), []⟩, ⟨10, (some 34), .pick (.tmp 26) (.tmp 33) (.const (.bool false)), none, []⟩])
 (.cond (.tmp 34) (.seq (.region false [⟨0, (some 4), .move (.const (.int .i64 7)), none, []⟩])
 .ret) .skip)))))
 (.region false [⟨0, (some 35), .ibin .add .i64 (.tmp 15) (.const (.int .i64 1)), none, []⟩, ⟨1, (some 15), .move (.tmp 35), none, []⟩])))))))
 (.seq (.region false [⟨0, (some 4), .move (.const (.int .i64 0)), none, []⟩])
 .ret)))), [.tmp 4]⟩
/- (bellarmine/post.hands).guarded -/
def pf46 : PF := ⟨26, (.seq (.region false [⟨0, (some 4), .move (.const (.bool false)), none, []⟩])
 (.seq (.region false [⟨0, (some 5), .move (.const (.int .u16 0)), none, []⟩])
 (.seq (.seq (.region false [⟨0, (some 8), .move (.tmp 1), none, []⟩, ⟨1, (some 9), .len (.tmp 8), none, []⟩, ⟨2, (some 10), .move (.const (.int .i64 0)), none, []⟩])
 (.block 0 (.loop (.seq (.region false [⟨0, (some 11), .ibin .lss .i64 (.tmp 10) (.tmp 9), none, []⟩])
 (.seq (.cond (.tmp 11) .skip (.exit 0))
 (.seq (.block 1 (.seq (.region false [⟨0, (some 12), .idxS (.tmp 8) (.tmp 10) 1, none, []⟩, ⟨1, (some 13), .load1 (.tmp 12), none, []⟩, ⟨2, (some 7), .move (.tmp 13), none, []⟩])
 (.region false [⟨0, (some 14), .move (.tmp 5), none, []⟩, ⟨1, (some 15), .move (.tmp 0), none, []⟩, ⟨2, (some 16), .move (.tmp 7), none, []⟩, ⟨3, (some 17), .idxS (.tmp 15) (.tmp 16) 1, none, []⟩, ⟨4, (some 18), .load1 (.tmp 17), none, []⟩, ⟨5, (some 19), .ibin .or .u16 (.tmp 14) (.tmp 18), none, []⟩, ⟨6, (some 5), .move (.tmp 19), none, []⟩])))
 (.region false [⟨0, (some 20), .ibin .add .i64 (.tmp 10) (.const (.int .i64 1)), none, []⟩, ⟨1, (some 10), .move (.tmp 20), none, []⟩])))))))
 (.seq (.region false [⟨0, (some 21), .move (.tmp 5), none, []⟩, ⟨1, (some 22), .move (.tmp 0), none, []⟩, ⟨2, (some 23), .len (.tmp 22), none, []⟩, ⟨3, (some 24), .callF 63 [(.tmp 23)], none, []⟩, ⟨4, (some 25), .ibin .eql .u16 (.tmp 21) (.tmp 24), none, []⟩, ⟨5, (some 4), .move (.tmp 25), none, []⟩])
 .ret)))), [.tmp 4]⟩
/- bellarmine/bellarmineref12.listed -/
def pf47 : PF := ⟨43, (.seq (.region false [⟨0, (some 4), .move (.const (.int .i64 0)), none, []⟩])
 (.seq (.region false [⟨0, (some 7), .move (.tmp 0), none, []⟩, ⟨1, (some 8), .callF 13 [(.tmp 7)], none, []⟩, ⟨2, (some 5), .move (.tmp 8), none, []⟩])
 (.seq (.seq (.region false [⟨0, (some 6), .move (.const (.int .i64 0)), none, []⟩])
 (.block 0 (.loop (.seq (.seq (.region false [⟨0, (some 9), .move (.tmp 6), none, []⟩, ⟨1, (some 10), .move (.tmp 1), none, []⟩, ⟨2, (some 11), .len (.tmp 10), none, []⟩, ⟨3, (some 12), .ibin .lss .i64 (.tmp 9) (.tmp 11), none, []⟩, ⟨4, (some 13), .move (.tmp 12), none, []⟩, ⟨5, (some 14), .move (.tmp 5), (some (13, true)), []⟩, ⟨6, (some 15), .ibin .eql .i64 (.tmp 14) (.const (.int .i64 0)), (some (13, true)), []⟩, ⟨7, (some 16), .pick (.tmp 13) (.tmp 15) (.const (.bool false)), none, []⟩])
 (.cond (.tmp 16) .skip (.exit 0)))
 (.seq (.block 1 (.seq (.region false [⟨0, (some 19), .move (.tmp 1), none, []⟩, ⟨1, (some 20), .move (.tmp 6), none, []⟩, ⟨2, (some 21), .idxS (.tmp 19) (.tmp 20) 1, none, []⟩, ⟨3, (some 22), .load1 (.tmp 21), none, []⟩, ⟨4, (some 23), .move (.tmp 0), none, []⟩, ⟨5, (some 24), .len (.tmp 23), none, []⟩, ⟨6, (some 25), .ibin .sub .i64 (.tmp 24) (.const (.int .i64 1)), none, []⟩, ⟨7, (some 26), .callF 42 [(.tmp 22), (.const (.int .i64 0)), (.tmp 25)], none, []⟩, ⟨8, (some 27), .not (.tmp 26), none, []⟩])
 (.cond (.tmp 27) (.region false [⟨0, (some 5), .move (.const (.int .i64 2)), none, []⟩]) (.seq (.region true [⟨0, (some 28), .move (.tmp 6), none, []⟩, ⟨1, (some 29), .ibin .gtr .i64 (.tmp 28) (.const (.int .i64 0)), none, []⟩, ⟨2, (some 30), .move (.tmp 29), none, []⟩, ⟨3, (some 31), .move (.tmp 1), (some (30, true)), []⟩, ⟨4, (some 32), .move (.tmp 6), (some (30, true)), []⟩, ⟨5, (some 33), .idxS (.tmp 31) (.tmp 32) 1, (some (30, true)), []⟩, ⟨6, (some 34), .load1 (.tmp 33), (some (30, true)), []⟩, ⟨7, (some 35), .move (.tmp 1), (some (30, true)), []⟩, ⟨8, (some 36), .move (.tmp 6), (some (30, true)), []⟩, ⟨9, (some 37), .ibin .sub .i64 (.tmp 36) (.const (.int .i64 1)), (some (30, true)), []⟩, ⟨10, (some 38), .idxS (.tmp 35) (.tmp 37) 1, (some (30, true)), []⟩, ⟨11, (some 39), .load1 (.tmp 38), (some (30, true)), []⟩, ⟨12, (some 40), .ibin .leq .i64 (.tmp 34) (.tmp 39), (some (30, true)), []⟩, ⟨13, (some 41), .pick (.tmp 30) (.tmp 40) (.const (.bool false)), none, []⟩])
 (.cond (.tmp 41) (.region false [⟨0, (some 5), .move (.const (.int .i64 7)), none, []⟩]) .skip)))))
 (.region false [⟨0, (some 17), .move (.tmp 6), none, []⟩, ⟨1, (some 18), .ibin .add .i64 (.tmp 17) (.const (.int .i64 1)), none, []⟩, ⟨2, (some 6), .move (.tmp 18), none, []⟩]))))))
 (.seq (.region false [⟨0, (some 42), .move (.tmp 5), none, []⟩, ⟨1, (some 4), .move (.tmp 42), none, []⟩])
 .ret)))), [.tmp 4]⟩
/- bellarmine/bellarmineref12.guards -/
def pf48 : PF := ⟨18, (.seq (.region false [⟨0, (some 4), .move (.const (.bool false)), none, []⟩])
 (.seq (.seq (.region false [⟨0, (some 5), .move (.const (.int .i64 0)), none, []⟩])
 (.block 0 (.loop (.seq (.seq (.region false [⟨0, (some 6), .move (.tmp 5), none, []⟩, ⟨1, (some 7), .move (.tmp 0), none, []⟩, ⟨2, (some 8), .len (.tmp 7), none, []⟩, ⟨3, (some 9), .ibin .lss .i64 (.tmp 6) (.tmp 8), none, []⟩])
 (.cond (.tmp 9) .skip (.exit 0)))
 (.seq (.block 1 (.seq (.region false [⟨0, (some 12), .move (.tmp 0), none, []⟩, ⟨1, (some 13), .move (.tmp 5), none, []⟩, ⟨2, (some 14), .callF 43 [(.tmp 12), (.tmp 13)], none, []⟩, ⟨3, (some 15), .move (.tmp 1), none, []⟩, ⟨4, (some 16), .callF 64 [(.tmp 14), (.tmp 15)], none, []⟩, ⟨5, (some 17), .not (.tmp 16), none, []⟩])
 (.cond (.tmp 17) (.seq (.region false [⟨0, (some 4), .move (.const (.bool false)), none, []⟩])
 .ret) .skip)))
 (.region false [⟨0, (some 10), .move (.tmp 5), none, []⟩, ⟨1, (some 11), .ibin .add .i64 (.tmp 10) (.const (.int .i64 1)), none, []⟩, ⟨2, (some 5), .move (.tmp 11), none, []⟩]))))))
 (.seq (.region false [⟨0, (some 4), .move (.const (.bool true)), none, []⟩])
 .ret))), [.tmp 4]⟩
/- (bellarmine/post.hands).apart -/
def pf49 : PF := ⟨28, (.seq (.region false [⟨0, (some 4), .move (.const (.bool false)), none, []⟩])
 (.seq (.region false [⟨0, (some 5), .move (.const (.int .u16 0)), none, []⟩])
 (.seq (.seq (.region false [⟨0, (some 8), .move (.tmp 1), none, []⟩, ⟨1, (some 9), .len (.tmp 8), none, []⟩, ⟨2, (some 10), .move (.const (.int .i64 0)), none, []⟩])
 (.block 0 (.loop (.seq (.region false [⟨0, (some 11), .ibin .lss .i64 (.tmp 10) (.tmp 9), none, []⟩])
 (.seq (.cond (.tmp 11) .skip (.exit 0))
 (.seq (.block 1 (.seq (.region false [⟨0, (some 12), .idxS (.tmp 8) (.tmp 10) 1, none, []⟩, ⟨1, (some 13), .load1 (.tmp 12), none, []⟩, ⟨2, (some 7), .move (.tmp 13), none, []⟩])
 (.seq (.seq (.region false [⟨0, (some 14), .move (.tmp 5), none, []⟩, ⟨1, (some 15), .move (.tmp 0), none, []⟩, ⟨2, (some 16), .move (.tmp 7), none, []⟩, ⟨3, (some 17), .idxS (.tmp 15) (.tmp 16) 1, none, []⟩, ⟨4, (some 18), .load1 (.tmp 17), none, []⟩, ⟨5, (some 19), .ibin .and .u16 (.tmp 14) (.tmp 18), none, []⟩, ⟨6, (some 20), .ibin .neq .u16 (.tmp 19) (.const (.int .u16 0)), none, []⟩])
 (.cond (.tmp 20) (.seq (.region false [⟨0, (some 4), .move (.const (.bool false)), none, []⟩])
 .ret) .skip))
 (.region false [⟨0, (some 21), .move (.tmp 5), none, []⟩, ⟨1, (some 22), .move (.tmp 0), none, []⟩, ⟨2, (some 23), .move (.tmp 7), none, []⟩, ⟨3, (some 24), .idxS (.tmp 22) (.tmp 23) 1, none, []⟩, ⟨4, (some 25), .load1 (.tmp 24), none, []⟩, ⟨5, (some 26), .ibin .or .u16 (.tmp 21) (.tmp 25), none, []⟩, ⟨6, (some 5), .move (.tmp 26), none, []⟩]))))
 (.region false [⟨0, (some 27), .ibin .add .i64 (.tmp 10) (.const (.int .i64 1)), none, []⟩, ⟨1, (some 10), .move (.tmp 27), none, []⟩])))))))
 (.seq (.region false [⟨0, (some 4), .move (.const (.bool true)), none, []⟩])
 .ret)))), [.tmp 4]⟩
/- bellarmine/bellarmineref12.apart -/
def pf50 : PF := ⟨31, (.seq (.region false [⟨0, (some 4), .move (.const (.bool false)), none, []⟩])
 (.seq (.seq (.region false [⟨0, (some 5), .move (.const (.int .i64 0)), none, []⟩])
 (.block 0 (.loop (.seq (.seq (.region false [⟨0, (some 7), .move (.tmp 5), none, []⟩, ⟨1, (some 8), .move (.tmp 1), none, []⟩, ⟨2, (some 9), .len (.tmp 8), none, []⟩, ⟨3, (some 10), .ibin .lss .i64 (.tmp 7) (.tmp 9), none, []⟩])
 (.cond (.tmp 10) .skip (.exit 0)))
 (.seq (.block 1 (.seq (.region false [⟨0, (some 6), .move (.const (.int .i64 0)), none, []⟩])
 (.block 2 (.loop (.seq (.seq (.region false [⟨0, (some 13), .move (.tmp 6), none, []⟩, ⟨1, (some 14), .move (.tmp 5), none, []⟩, ⟨2, (some 15), .ibin .lss .i64 (.tmp 13) (.tmp 14), none, []⟩])
 (.cond (.tmp 15) .skip (.exit 2)))
 (.seq (.block 3 (.seq (.region true [⟨0, (some 18), .move (.tmp 0), none, []⟩, ⟨1, (some 19), .move (.tmp 1), none, []⟩, ⟨2, (some 20), .move (.tmp 5), none, []⟩, ⟨3, (some 21), .idxS (.tmp 19) (.tmp 20) 1, none, []⟩, ⟨4, (some 22), .load1 (.tmp 21), none, []⟩, ⟨6, (some 24), .move (.tmp 0), none, []⟩, ⟨7, (some 25), .move (.tmp 1), none, []⟩, ⟨8, (some 26), .move (.tmp 6), none, []⟩, ⟨9, (some 27), .idxS (.tmp 25) (.tmp 26) 1, none, []⟩, ⟨10, (some 28), .load1 (.tmp 27), none, []⟩, ⟨5, (some 23), .callF 43 [(.tmp 18), (.tmp 22)], none, [10]⟩, ⟨11, (some 29), .callF 43 [(.tmp 24), (.tmp 28)], none, []⟩, ⟨12, (some 30), .callF 64 [(.tmp 23), (.tmp 29)], none, []⟩])
 (.cond (.tmp 30) (.seq (.region false [⟨0, (some 4), .move (.const (.bool false)), none, []⟩])
 .ret) .skip)))
 (.region false [⟨0, (some 16), .move (.tmp 6), none, []⟩, ⟨1, (some 17), .ibin .add .i64 (.tmp 16) (.const (.int .i64 1)), none, []⟩, ⟨2, (some 6), .move (.tmp 17), none, []⟩])))))))
 (.region false [⟨0, (some 11), .move (.tmp 5), none, []⟩, ⟨1, (some 12), .ibin .add .i64 (.tmp 11) (.const (.int .i64 1)), none, []⟩, ⟨2, (some 5), .move (.tmp 12), none, []⟩]))))))
 (.seq (.region false [⟨0, (some 4), .move (.const (.bool true)), none, []⟩])
 .ret))), [.tmp 4]⟩
/- bellarmine/post.byNumber -/
def pf51 : PF := ⟨9, (.seq (.region false [⟨0, (some 2), .new 59 [(.int .i64 0), .nilFunc, .nilFunc], none, []⟩])
 (.seq (.region false [⟨0, (some 3), .move (.tmp 0), none, []⟩, ⟨1, (some 4), .len (.tmp 3), none, []⟩, ⟨2, (some 5), .move (.tmp 0), none, []⟩, ⟨3, (some 6), .callF 40 [(.tmp 5)], none, []⟩, ⟨4, (some 7), .mkF (.func 46) #[(.tmp 6)] #[], none, []⟩, ⟨5, (some 8), .bldT [(.int .i64 0), .nilFunc, .nilFunc] [(0, 1), (1, 1), (2, 1)] [(0, (.tmp 4)), (1, (.tmp 7)), (2, (.func 65))], none, []⟩, ⟨6, none, .store (.tmp 2) (.tmp 8) 3, none, []⟩])
 .ret)), [.cell 2 (some 3)]⟩
/- (bellarmine/post.rating).best -/
def pf52 : PF := ⟨31, (.seq (.region false [⟨0, (some 1), .box 59 (.tmp 0), none, []⟩, ⟨1, (some 2), .move (.const (.slice none 0 0)), none, []⟩])
 (.seq (.region false [⟨0, (some 3), .new 56 [(.slice none 0 0)], none, []⟩])
 (.seq (.region false [⟨0, (some 4), .new 3 [(.int .i64 0)], none, []⟩, ⟨1, none, .store (.tmp 4) (.const (.int .i64 0)) 1, none, []⟩])
 (.seq (.seq (.region false [⟨0, (some 7), .loadN (.tmp 1) 3, none, []⟩, ⟨1, (some 8), .callF 59 [(.tmp 7)], none, []⟩])
 (.block 0 (.rangeFunc (.tmp 8) [9] (.region false [⟨0, (some 5), .move (.tmp 9), none, []⟩]) (.block 1 (.seq (.region false [⟨0, (some 10), .loadN (.tmp 1) 3, none, []⟩, ⟨1, (some 11), .move (.tmp 5), none, []⟩, ⟨2, (some 12), .callF 66 [(.tmp 10), (.tmp 11)], none, []⟩, ⟨3, (some 6), .move (.tmp 12), none, []⟩])
 (.seq (.seq (.region false [⟨0, (some 13), .load1 (.tmp 3), none, []⟩, ⟨1, (some 14), .len (.tmp 13), none, []⟩, ⟨2, (some 15), .ibin .eql .i64 (.tmp 14) (.const (.int .i64 0)), none, []⟩, ⟨3, (some 16), .move (.tmp 15), none, []⟩, ⟨4, (some 17), .move (.tmp 6), (some (16, false)), []⟩, ⟨5, (some 18), .load1 (.tmp 4), (some (16, false)), []⟩, ⟨6, (some 19), .ibin .lss .i64 (.tmp 17) (.tmp 18), (some (16, false)), []⟩, ⟨7, (some 20), .pick (.tmp 16) (.const (.bool true)) (.tmp 19), none, []⟩])
 (.cond (.tmp 20) (.region false [⟨0, (some 21), .move (.tmp 6), none, []⟩, ⟨1, none, .store (.tmp 3) (.const (.slice none 0 0)) 1, none, []⟩, ⟨2, none, .store (.tmp 4) (.tmp 21) 1, none, []⟩]) .skip))
 (.seq (.region false [⟨0, (some 22), .move (.tmp 6), none, []⟩, ⟨1, (some 23), .load1 (.tmp 4), none, []⟩, ⟨2, (some 24), .ibin .eql .i64 (.tmp 22) (.tmp 23), none, []⟩])
 (.cond (.tmp 24) (.region true [⟨0, (some 25), .load1 (.tmp 3), none, []⟩, ⟨1, (some 26), .move (.tmp 5), none, []⟩, ⟨2, (some 27), .callF 33 [(.tmp 26)], none, [0]⟩, ⟨3, (some 28), .bldS 22 1 [(.slice none 0 0)] 1 [(0, (.tmp 27))], none, [0]⟩, ⟨4, (some 29), .append 22 1 (.tmp 25) (.tmp 28), none, []⟩, ⟨5, none, .store (.tmp 3) (.tmp 29) 1, none, []⟩]) .skip))))))))
 (.seq (.region false [⟨0, (some 30), .load1 (.tmp 3), none, []⟩, ⟨1, (some 2), .move (.tmp 30), none, []⟩])
 .ret))))), [.tmp 2]⟩
/- bellarmine/bellarmineref12.smallest -/
def pf53 : PF := ⟨49, (.seq (.region false [⟨0, (some 2), .move (.const (.slice none 0 0)), none, []⟩])
 (.seq (.region false [⟨0, (some 3), .move (.const (.slice none 0 0)), none, []⟩])
 (.seq (.seq (.region false [⟨0, (some 4), .move (.const (.int .i64 0)), none, []⟩])
 (.block 0 (.loop (.seq (.seq (.region false [⟨0, (some 5), .move (.tmp 4), none, []⟩, ⟨1, (some 6), .move (.tmp 0), none, []⟩, ⟨2, (some 7), .len (.tmp 6), none, []⟩, ⟨3, (some 8), .ibin .lss .i64 (.tmp 5) (.tmp 7), none, []⟩])
 (.cond (.tmp 8) .skip (.exit 0)))
 (.seq (.block 1 (.seq (.seq (.region true [⟨0, (some 11), .move (.tmp 3), none, []⟩, ⟨1, (some 12), .len (.tmp 11), none, []⟩, ⟨2, (some 13), .ibin .gtr .i64 (.tmp 12) (.const (.int .i64 0)), none, []⟩, ⟨3, (some 14), .move (.tmp 13), none, []⟩, ⟨4, (some 15), .move (.tmp 0), (some (14, true)), []⟩, ⟨5, (some 16), .move (.tmp 4), (some (14, true)), []⟩, ⟨6, (some 17), .idxS (.tmp 15) (.tmp 16) 1, (some (14, true)), []⟩, ⟨7, (some 18), .load1 (.tmp 17), (some (14, true)), []⟩, ⟨8, (some 19), .len (.tmp 18), (some (14, true)), []⟩, ⟨9, (some 20), .move (.tmp 3), (some (14, true)), []⟩, ⟨10, (some 21), .idxS (.tmp 20) (.const (.int .i64 0)) 1, (some (14, true)), []⟩, ⟨11, (some 22), .load1 (.tmp 21), (some (14, true)), []⟩, ⟨12, (some 23), .len (.tmp 22), (some (14, true)), []⟩, ⟨13, (some 24), .ibin .lss .i64 (.tmp 19) (.tmp 23), (some (14, true)), []⟩, ⟨14, (some 25), .pick (.tmp 14) (.tmp 24) (.const (.bool false)), none, []⟩])
 (.cond (.tmp 25) (.region false [⟨0, (some 3), .move (.const (.slice none 0 0)), none, []⟩]) .skip))
 (.seq (.region true [⟨0, (some 26), .move (.tmp 3), none, []⟩, ⟨1, (some 27), .len (.tmp 26), none, []⟩, ⟨2, (some 28), .ibin .eql .i64 (.tmp 27) (.const (.int .i64 0)), none, []⟩, ⟨3, (some 29), .move (.tmp 28), none, []⟩, ⟨4, (some 30), .move (.tmp 0), (some (29, false)), []⟩, ⟨5, (some 31), .move (.tmp 4), (some (29, false)), []⟩, ⟨6, (some 32), .idxS (.tmp 30) (.tmp 31) 1, (some (29, false)), []⟩, ⟨7, (some 33), .load1 (.tmp 32), (some (29, false)), []⟩, ⟨8, (some 34), .len (.tmp 33), (some (29, false)), []⟩, ⟨9, (some 35), .move (.tmp 3), (some (29, false)), []⟩, ⟨10, (some 36), .idxS (.tmp 35) (.const (.int .i64 0)) 1, (some (29, false)), []⟩, ⟨11, (some 37), .load1 (.tmp 36), (some (29, false)), []⟩, ⟨12, (some 38), .len (.tmp 37), (some (29, false)), []⟩, ⟨13, (some 39), .ibin .eql .i64 (.tmp 34) (.tmp 38), (some (29, false)), []⟩, ⟨14, (some 40), .pick (.tmp 29) (.const (.bool true)) (.tmp 39), none, []⟩])
 (.cond (.tmp 40) (.region false [⟨0, (some 41), .move (.tmp 3), none, []⟩, ⟨1, (some 42), .move (.tmp 0), none, []⟩, ⟨2, (some 43), .move (.tmp 4), none, []⟩, ⟨3, (some 44), .idxS (.tmp 42) (.tmp 43) 1, none, []⟩, ⟨4, (some 45), .load1 (.tmp 44), none, []⟩, ⟨5, (some 46), .bldS 22 1 [(.slice none 0 0)] 1 [(0, (.tmp 45))], none, []⟩, ⟨6, (some 47), .append 22 1 (.tmp 41) (.tmp 46), none, []⟩, ⟨7, (some 3), .move (.tmp 47), none, []⟩]) .skip))))
 (.region false [⟨0, (some 9), .move (.tmp 4), none, []⟩, ⟨1, (some 10), .ibin .add .i64 (.tmp 9) (.const (.int .i64 1)), none, []⟩, ⟨2, (some 4), .move (.tmp 10), none, []⟩]))))))
 (.seq (.region false [⟨0, (some 48), .move (.tmp 3), none, []⟩, ⟨1, (some 2), .move (.tmp 48), none, []⟩])
 .ret)))), [.tmp 2]⟩
/- bellarmine/bellarmineref12.guarding -/
def pf54 : PF := ⟨29, (.seq (.region false [⟨0, (some 2), .move (.const (.slice none 0 0)), none, []⟩])
 (.seq (.region false [⟨0, (some 3), .move (.const (.slice none 0 0)), none, []⟩])
 (.seq (.region false [⟨0, (some 6), .move (.tmp 0), none, []⟩, ⟨1, (some 7), .len (.tmp 6), none, []⟩, ⟨2, (some 8), .callF 56 [(.tmp 7), (.const (.slice none 0 0))], none, []⟩, ⟨3, (some 4), .move (.tmp 8), none, []⟩])
 (.seq (.seq (.region false [⟨0, (some 5), .move (.const (.int .i64 0)), none, []⟩])
 (.block 0 (.loop (.seq (.seq (.region false [⟨0, (some 9), .move (.tmp 5), none, []⟩, ⟨1, (some 10), .move (.tmp 4), none, []⟩, ⟨2, (some 11), .len (.tmp 10), none, []⟩, ⟨3, (some 12), .ibin .lss .i64 (.tmp 9) (.tmp 11), none, []⟩])
 (.cond (.tmp 12) .skip (.exit 0)))
 (.seq (.block 1 (.seq (.region false [⟨0, (some 15), .move (.tmp 0), none, []⟩, ⟨1, (some 16), .move (.tmp 4), none, []⟩, ⟨2, (some 17), .move (.tmp 5), none, []⟩, ⟨3, (some 18), .idxS (.tmp 16) (.tmp 17) 1, none, []⟩, ⟨4, (some 19), .load1 (.tmp 18), none, []⟩, ⟨5, (some 20), .callF 48 [(.tmp 15), (.tmp 19)], none, []⟩])
 (.cond (.tmp 20) (.region false [⟨0, (some 21), .move (.tmp 3), none, []⟩, ⟨1, (some 22), .move (.tmp 4), none, []⟩, ⟨2, (some 23), .move (.tmp 5), none, []⟩, ⟨3, (some 24), .idxS (.tmp 22) (.tmp 23) 1, none, []⟩, ⟨4, (some 25), .load1 (.tmp 24), none, []⟩, ⟨5, (some 26), .bldS 22 1 [(.slice none 0 0)] 1 [(0, (.tmp 25))], none, []⟩, ⟨6, (some 27), .append 22 1 (.tmp 21) (.tmp 26), none, []⟩, ⟨7, (some 3), .move (.tmp 27), none, []⟩]) .skip)))
 (.region false [⟨0, (some 13), .move (.tmp 5), none, []⟩, ⟨1, (some 14), .ibin .add .i64 (.tmp 13) (.const (.int .i64 1)), none, []⟩, ⟨2, (some 5), .move (.tmp 14), none, []⟩]))))))
 (.seq (.region false [⟨0, (some 28), .move (.tmp 3), none, []⟩, ⟨1, (some 2), .move (.tmp 28), none, []⟩])
 .ret))))), [.tmp 2]⟩
/- bellarmine/post.byDistance -/
def pf55 : PF := ⟨9, (.seq (.region false [⟨0, (some 2), .new 59 [(.int .i64 0), .nilFunc, .nilFunc], none, []⟩])
 (.seq (.region false [⟨0, (some 3), .move (.tmp 0), none, []⟩, ⟨1, (some 4), .len (.tmp 3), none, []⟩, ⟨2, (some 5), .move (.tmp 0), none, []⟩, ⟨3, (some 6), .callF 40 [(.tmp 5)], none, []⟩, ⟨4, (some 7), .mkF (.func 49) #[(.tmp 6)] #[], none, []⟩, ⟨5, (some 8), .bldT [(.int .i64 0), .nilFunc, .nilFunc] [(0, 1), (1, 1), (2, 1)] [(0, (.tmp 4)), (1, (.tmp 7)), (2, (.func 67))], none, []⟩, ⟨6, none, .store (.tmp 2) (.tmp 8) 3, none, []⟩])
 .ret)), [.cell 2 (some 3)]⟩
/- bellarmine/bellarmineref12.lists -/
def pf56 : PF := ⟨37, (.seq (.region false [⟨0, (some 4), .move (.const (.slice none 0 0)), none, []⟩])
 (.seq (.region false [⟨0, (some 8), .move (.tmp 1), none, []⟩, ⟨1, (some 9), .bldS 22 1 [(.slice none 0 0)] 1 [(0, (.tmp 8))], none, []⟩, ⟨2, (some 5), .move (.tmp 9), none, []⟩])
 (.seq (.region false [⟨0, (some 6), .move (.const (.int .i64 0)), none, []⟩])
 (.seq (.seq (.region false [⟨0, (some 10), .move (.tmp 1), none, []⟩, ⟨1, (some 11), .len (.tmp 10), none, []⟩, ⟨2, (some 12), .ibin .gtr .i64 (.tmp 11) (.const (.int .i64 0)), none, []⟩])
 (.cond (.tmp 12) (.region false [⟨0, (some 13), .move (.tmp 1), none, []⟩, ⟨1, (some 14), .move (.tmp 1), none, []⟩, ⟨2, (some 15), .len (.tmp 14), none, []⟩, ⟨3, (some 16), .ibin .sub .i64 (.tmp 15) (.const (.int .i64 1)), none, []⟩, ⟨4, (some 17), .idxS (.tmp 13) (.tmp 16) 1, none, []⟩, ⟨5, (some 18), .load1 (.tmp 17), none, []⟩, ⟨6, (some 19), .ibin .add .i64 (.tmp 18) (.const (.int .i64 1)), none, []⟩, ⟨7, (some 6), .move (.tmp 19), none, []⟩]) .skip))
 (.seq (.seq (.region false [⟨0, (some 20), .move (.tmp 6), none, []⟩, ⟨1, (some 7), .move (.tmp 20), none, []⟩])
 (.block 0 (.loop (.seq (.seq (.region false [⟨0, (some 21), .move (.tmp 7), none, []⟩, ⟨1, (some 22), .move (.tmp 0), none, []⟩, ⟨2, (some 23), .ibin .lss .i64 (.tmp 21) (.tmp 22), none, []⟩])
 (.cond (.tmp 23) .skip (.exit 0)))
 (.seq (.block 1 (.region false [⟨0, (some 26), .move (.tmp 5), none, []⟩, ⟨1, (some 27), .move (.tmp 0), none, []⟩, ⟨2, (some 28), .bldS 3 1 [] 0 [], none, []⟩, ⟨3, (some 29), .move (.tmp 1), none, []⟩, ⟨4, (some 30), .append 3 1 (.tmp 28) (.tmp 29), none, []⟩, ⟨5, (some 31), .move (.tmp 7), none, []⟩, ⟨6, (some 32), .bldS 3 1 [(.int .i64 0)] 1 [(0, (.tmp 31))], none, []⟩, ⟨7, (some 33), .append 3 1 (.tmp 30) (.tmp 32), none, []⟩, ⟨8, (some 34), .callF 56 [(.tmp 27), (.tmp 33)], none, []⟩, ⟨9, (some 35), .append 22 1 (.tmp 26) (.tmp 34), none, []⟩, ⟨10, (some 5), .move (.tmp 35), none, []⟩]))
 (.region false [⟨0, (some 24), .move (.tmp 7), none, []⟩, ⟨1, (some 25), .ibin .add .i64 (.tmp 24) (.const (.int .i64 1)), none, []⟩, ⟨2, (some 7), .move (.tmp 25), none, []⟩]))))))
 (.seq (.region false [⟨0, (some 36), .move (.tmp 5), none, []⟩, ⟨1, (some 4), .move (.tmp 36), none, []⟩])
 .ret)))))), [.tmp 4]⟩
/- bellarmine/post.byPrice -/
def pf57 : PF := ⟨12, (.seq (.region false [⟨0, (some 3), .box 22 (.tmp 1), none, []⟩, ⟨1, (some 4), .new 59 [(.int .i64 0), .nilFunc, .nilFunc], none, []⟩])
 (.seq (.region false [⟨0, (some 5), .move (.tmp 0), none, []⟩, ⟨1, (some 6), .len (.tmp 5), none, []⟩, ⟨2, (some 7), .move (.tmp 0), none, []⟩, ⟨3, (some 8), .callF 40 [(.tmp 7)], none, []⟩, ⟨4, (some 9), .mkF (.func 46) #[(.tmp 8)] #[], none, []⟩, ⟨5, (some 10), .mkF (.func 68) #[] #[(.tmp 3)], none, []⟩, ⟨6, (some 11), .bldT [(.int .i64 0), .nilFunc, .nilFunc] [(0, 1), (1, 1), (2, 1)] [(0, (.tmp 6)), (1, (.tmp 9)), (2, (.tmp 10))], none, []⟩, ⟨7, none, .store (.tmp 4) (.tmp 11) 3, none, []⟩])
 .ret)), [.cell 4 (some 3)]⟩
/- bellarmine/bellarmineref12.cost -/
def pf58 : PF := ⟨23, (.seq (.region false [⟨0, (some 4), .move (.const (.int .i64 0)), none, []⟩])
 (.seq (.region false [⟨0, (some 5), .move (.const (.int .i64 0)), none, []⟩])
 (.seq (.seq (.region false [⟨0, (some 6), .move (.const (.int .i64 0)), none, []⟩])
 (.block 0 (.loop (.seq (.seq (.region false [⟨0, (some 7), .move (.tmp 6), none, []⟩, ⟨1, (some 8), .move (.tmp 1), none, []⟩, ⟨2, (some 9), .len (.tmp 8), none, []⟩, ⟨3, (some 10), .ibin .lss .i64 (.tmp 7) (.tmp 9), none, []⟩])
 (.cond (.tmp 10) .skip (.exit 0)))
 (.seq (.block 1 (.region false [⟨0, (some 13), .move (.tmp 5), none, []⟩, ⟨1, (some 14), .move (.tmp 0), none, []⟩, ⟨2, (some 15), .move (.tmp 1), none, []⟩, ⟨3, (some 16), .move (.tmp 6), none, []⟩, ⟨4, (some 17), .idxS (.tmp 15) (.tmp 16) 1, none, []⟩, ⟨5, (some 18), .load1 (.tmp 17), none, []⟩, ⟨6, (some 19), .idxS (.tmp 14) (.tmp 18) 1, none, []⟩, ⟨7, (some 20), .load1 (.tmp 19), none, []⟩, ⟨8, (some 21), .ibin .add .i64 (.tmp 13) (.tmp 20), none, []⟩, ⟨9, (some 5), .move (.tmp 21), none, []⟩]))
 (.region false [⟨0, (some 11), .move (.tmp 6), none, []⟩, ⟨1, (some 12), .ibin .add .i64 (.tmp 11) (.const (.int .i64 1)), none, []⟩, ⟨2, (some 6), .move (.tmp 12), none, []⟩]))))))
 (.seq (.region false [⟨0, (some 22), .move (.tmp 5), none, []⟩, ⟨1, (some 4), .move (.tmp 22), none, []⟩])
 .ret)))), [.tmp 4]⟩
/- (bellarmine/post.rating).rated -/
def pf59 : PF := ⟨4, (.seq (.region false [⟨0, (some 1), .box 59 (.tmp 0), none, []⟩, ⟨1, (some 2), .move (.const .nilFunc), none, []⟩])
 (.seq (.region false [⟨0, (some 3), .mkF (.func 69) #[] #[(.tmp 1)], none, []⟩, ⟨1, (some 2), .move (.tmp 3), none, []⟩])
 .ret)), [.tmp 2]⟩
/- bellarmine/post.placesIn -/
def pf60 : PF := ⟨24, (.seq (.region false [⟨0, (some 6), .move (.const (.slice none 0 0)), none, []⟩])
 (.seq (.region false [⟨0, (some 7), .move (.const (.slice none 0 0)), none, []⟩])
 (.seq (.seq (.region false [⟨0, (some 9), .move (.tmp 2), none, []⟩, ⟨1, (some 10), .move (.const (.int .i64 0)), none, []⟩])
 (.block 0 (.loop (.seq (.region false [⟨0, (some 11), .ibin .lss .i64 (.tmp 10) (.tmp 9), none, []⟩])
 (.seq (.cond (.tmp 11) .skip (.exit 0))
 (.seq (.block 1 (.seq (.region false [⟨0, (some 12), .move (.tmp 10), none, []⟩, ⟨1, (some 8), .move (.tmp 12), none, []⟩])
 (.seq (.region false [⟨0, (some 13), .move (.tmp 0), none, []⟩, ⟨1, (some 14), .move (.tmp 8), none, []⟩, ⟨2, (some 15), .callF 71 [(.tmp 13), (.tmp 14)], none, []⟩, ⟨3, (some 16), .move (.tmp 1), none, []⟩, ⟨4, (some 17), .ibin .eql .i64 (.tmp 15) (.tmp 16), none, []⟩])
 (.cond (.tmp 17) (.region false [⟨0, (some 18), .move (.tmp 7), none, []⟩, ⟨1, (some 19), .move (.tmp 8), none, []⟩, ⟨2, (some 20), .bldS 3 1 [(.int .i64 0)] 1 [(0, (.tmp 19))], none, []⟩, ⟨3, (some 21), .append 3 1 (.tmp 18) (.tmp 20), none, []⟩, ⟨4, (some 7), .move (.tmp 21), none, []⟩]) .skip))))
 (.region false [⟨0, (some 22), .ibin .add .i64 (.tmp 10) (.const (.int .i64 1)), none, []⟩, ⟨1, (some 10), .move (.tmp 22), none, []⟩])))))))
 (.seq (.region false [⟨0, (some 23), .move (.tmp 7), none, []⟩, ⟨1, (some 6), .move (.tmp 23), none, []⟩])
 .ret)))), [.tmp 6]⟩
/- bellarmine/bellarmineref12.often -/
def pf61 : PF := ⟨45, (.seq (.region false [⟨0, (some 4), .move (.const (.slice none 0 0)), none, []⟩])
 (.seq (.region false [⟨0, (some 10), .move (.tmp 0), none, []⟩, ⟨1, (some 11), .callF 54 [(.tmp 10)], none, []⟩, ⟨2, (some 12), .callF 53 [(.tmp 11)], none, []⟩, ⟨3, (some 5), .move (.tmp 12), none, []⟩])
 (.seq (.seq (.region false [⟨0, (some 13), .move (.tmp 1), none, []⟩, ⟨1, (some 14), .ibin .lss .i64 (.tmp 13) (.const (.int .i64 0)), none, []⟩])
 (.cond (.tmp 14) (.region false [⟨0, (some 15), .move (.tmp 5), none, []⟩, ⟨1, (some 16), .len (.tmp 15), none, []⟩, ⟨2, (some 1), .move (.tmp 16), none, []⟩]) .skip))
 (.seq (.region false [⟨0, (some 6), .move (.const (.slice none 0 0)), none, []⟩])
 (.seq (.seq (.region false [⟨0, (some 7), .move (.const (.int .i64 0)), none, []⟩])
 (.block 0 (.loop (.seq (.seq (.region false [⟨0, (some 17), .move (.tmp 7), none, []⟩, ⟨1, (some 18), .move (.tmp 0), none, []⟩, ⟨2, (some 19), .len (.tmp 18), none, []⟩, ⟨3, (some 20), .ibin .lss .i64 (.tmp 17) (.tmp 19), none, []⟩])
 (.cond (.tmp 20) .skip (.exit 0)))
 (.seq (.block 1 (.seq (.region false [⟨0, (some 8), .move (.const (.int .i64 0)), none, []⟩])
 (.seq (.seq (.region false [⟨0, (some 9), .move (.const (.int .i64 0)), none, []⟩])
 (.block 2 (.loop (.seq (.seq (.region false [⟨0, (some 23), .move (.tmp 9), none, []⟩, ⟨1, (some 24), .move (.tmp 5), none, []⟩, ⟨2, (some 25), .len (.tmp 24), none, []⟩, ⟨3, (some 26), .ibin .lss .i64 (.tmp 23) (.tmp 25), none, []⟩])
 (.cond (.tmp 26) .skip (.exit 2)))
 (.seq (.block 3 (.seq (.region false [⟨0, (some 29), .move (.tmp 5), none, []⟩, ⟨1, (some 30), .move (.tmp 9), none, []⟩, ⟨2, (some 31), .idxS (.tmp 29) (.tmp 30) 1, none, []⟩, ⟨3, (some 32), .load1 (.tmp 31), none, []⟩, ⟨4, (some 33), .move (.tmp 7), none, []⟩, ⟨5, (some 34), .callF 72 [(.tmp 32), (.tmp 33)], none, []⟩])
 (.cond (.tmp 34) (.region false [⟨0, (some 35), .move (.tmp 8), none, []⟩, ⟨1, (some 36), .ibin .add .i64 (.tmp 35) (.const (.int .i64 1)), none, []⟩, ⟨2, (some 8), .move (.tmp 36), none, []⟩]) .skip)))
 (.region false [⟨0, (some 27), .move (.tmp 9), none, []⟩, ⟨1, (some 28), .ibin .add .i64 (.tmp 27) (.const (.int .i64 1)), none, []⟩, ⟨2, (some 9), .move (.tmp 28), none, []⟩]))))))
 (.seq (.region false [⟨0, (some 37), .move (.tmp 8), none, []⟩, ⟨1, (some 38), .move (.tmp 1), none, []⟩, ⟨2, (some 39), .ibin .eql .i64 (.tmp 37) (.tmp 38), none, []⟩])
 (.cond (.tmp 39) (.region false [⟨0, (some 40), .move (.tmp 6), none, []⟩, ⟨1, (some 41), .move (.tmp 7), none, []⟩, ⟨2, (some 42), .bldS 3 1 [(.int .i64 0)] 1 [(0, (.tmp 41))], none, []⟩, ⟨3, (some 43), .append 3 1 (.tmp 40) (.tmp 42), none, []⟩, ⟨4, (some 6), .move (.tmp 43), none, []⟩]) .skip)))))
 (.region false [⟨0, (some 21), .move (.tmp 7), none, []⟩, ⟨1, (some 22), .ibin .add .i64 (.tmp 21) (.const (.int .i64 1)), none, []⟩, ⟨2, (some 7), .move (.tmp 22), none, []⟩]))))))
 (.seq (.region false [⟨0, (some 44), .move (.tmp 6), none, []⟩, ⟨1, (some 4), .move (.tmp 44), none, []⟩])
 .ret)))))), [.tmp 4]⟩
/- bellarmine/post.only -/
def pf62 : PF := ⟨5, (.seq (.region false [⟨0, (some 2), .move (.const (.int .u16 0)), none, []⟩])
 (.seq (.region false [⟨0, (some 3), .move (.tmp 0), none, []⟩, ⟨1, (some 4), .plain ⟨(some 4), .binOp .shl 49 (.const (.int .u16 1)) (.tmp 3) 3, 49, (String.ofList [Char.ofNat 104, Char.ofNat 97, Char.ofNat 110, Char.ofNat 100, Char.ofNat 115, Char.ofNat 46, Char.ofNat 103, Char.ofNat 111, Char.ofNat 58, Char.ofNat 55]), #[⟨0, .data⟩], none⟩, none, []⟩, ⟨2, (some 2), .move (.tmp 4), none, []⟩])
 .ret)), [.tmp 2]⟩
/- bellarmine/post.firsts -/
def pf63 : PF := ⟨6, (.seq (.region false [⟨0, (some 2), .move (.const (.int .u16 0)), none, []⟩])
 (.seq (.region false [⟨0, (some 3), .move (.tmp 0), none, []⟩, ⟨1, (some 4), .callF 62 [(.tmp 3)], none, []⟩, ⟨2, (some 5), .ibin .sub .u16 (.tmp 4) (.const (.int .u16 1)), none, []⟩, ⟨3, (some 2), .move (.tmp 5), none, []⟩])
 .ret)), [.tmp 2]⟩
/- bellarmine/bellarmineref12.common -/
def pf64 : PF := ⟨18, (.seq (.region false [⟨0, (some 4), .move (.const (.bool false)), none, []⟩])
 (.seq (.seq (.region false [⟨0, (some 5), .move (.const (.int .i64 0)), none, []⟩])
 (.block 0 (.loop (.seq (.seq (.region false [⟨0, (some 6), .move (.tmp 5), none, []⟩, ⟨1, (some 7), .move (.tmp 0), none, []⟩, ⟨2, (some 8), .len (.tmp 7), none, []⟩, ⟨3, (some 9), .ibin .lss .i64 (.tmp 6) (.tmp 8), none, []⟩])
 (.cond (.tmp 9) .skip (.exit 0)))
 (.seq (.block 1 (.seq (.region false [⟨0, (some 12), .move (.tmp 1), none, []⟩, ⟨1, (some 13), .move (.tmp 0), none, []⟩, ⟨2, (some 14), .move (.tmp 5), none, []⟩, ⟨3, (some 15), .idxS (.tmp 13) (.tmp 14) 1, none, []⟩, ⟨4, (some 16), .load1 (.tmp 15), none, []⟩, ⟨5, (some 17), .callF 72 [(.tmp 12), (.tmp 16)], none, []⟩])
 (.cond (.tmp 17) (.seq (.region false [⟨0, (some 4), .move (.const (.bool true)), none, []⟩])
 .ret) .skip)))
 (.region false [⟨0, (some 10), .move (.tmp 5), none, []⟩, ⟨1, (some 11), .ibin .add .i64 (.tmp 10) (.const (.int .i64 1)), none, []⟩, ⟨2, (some 5), .move (.tmp 11), none, []⟩]))))))
 (.seq (.region false [⟨0, (some 4), .move (.const (.bool false)), none, []⟩])
 .ret))), [.tmp 4]⟩
/- bellarmine/post.byNumber$1 -/
def pf65 : PF := ⟨3, (.seq (.region false [⟨0, (some 2), .move (.const (.int .i64 0)), none, []⟩])
 (.seq (.region false [⟨0, (some 2), .move (.const (.int .i64 1)), none, []⟩])
 .ret)), [.tmp 2]⟩
/- (bellarmine/post.rating).sum -/
def pf66 : PF := ⟨22, (.seq (.region false [⟨0, (some 2), .box 59 (.tmp 0), none, []⟩, ⟨1, (some 4), .move (.const (.int .i64 0)), none, []⟩])
 (.seq (.region false [⟨0, (some 5), .move (.const (.int .i64 0)), none, []⟩])
 (.seq (.seq (.region false [⟨0, (some 8), .move (.tmp 1), none, []⟩, ⟨1, (some 9), .len (.tmp 8), none, []⟩, ⟨2, (some 10), .move (.const (.int .i64 0)), none, []⟩])
 (.block 0 (.loop (.seq (.region false [⟨0, (some 11), .ibin .lss .i64 (.tmp 10) (.tmp 9), none, []⟩])
 (.seq (.cond (.tmp 11) .skip (.exit 0))
 (.seq (.block 1 (.seq (.region false [⟨0, (some 12), .idxS (.tmp 8) (.tmp 10) 1, none, []⟩, ⟨1, (some 13), .load1 (.tmp 12), none, []⟩, ⟨2, (some 7), .move (.tmp 13), none, []⟩])
 (.region false [⟨0, (some 14), .move (.tmp 5), none, []⟩, ⟨1, (some 15), .fieldAddr (.tmp 2) 2, none, []⟩, ⟨2, (some 16), .load1 (.tmp 15), none, []⟩, ⟨3, (some 17), .move (.tmp 7), none, []⟩, ⟨4, (some 18), .callV (.tmp 16) [(.tmp 17)], none, []⟩, ⟨5, (some 19), .ibin .add .i64 (.tmp 14) (.tmp 18), none, []⟩, ⟨6, (some 5), .move (.tmp 19), none, []⟩])))
 (.region false [⟨0, (some 20), .ibin .add .i64 (.tmp 10) (.const (.int .i64 1)), none, []⟩, ⟨1, (some 10), .move (.tmp 20), none, []⟩])))))))
 (.seq (.region false [⟨0, (some 21), .move (.tmp 5), none, []⟩, ⟨1, (some 4), .move (.tmp 21), none, []⟩])
 .ret)))), [.tmp 4]⟩
/- bellarmine/post.byDistance$1 -/
def pf67 : PF := ⟨3, (.seq (.region false [⟨0, (some 2), .move (.const (.int .i64 0)), none, []⟩])
 (.seq (.region false [⟨0, (some 2), .move (.const (.int .i64 (-1))), none, []⟩])
 .ret)), [.tmp 2]⟩
/- bellarmine/post.byPrice$1 -/
def pf68 : PF := ⟨8, (.seq (.region false [⟨0, (some 3), .move (.const (.int .i64 0)), none, []⟩])
 (.seq (.region false [⟨0, (some 4), .load1 (.tmp 1), none, []⟩, ⟨1, (some 5), .move (.tmp 0), none, []⟩, ⟨2, (some 6), .idxS (.tmp 4) (.tmp 5) 1, none, []⟩, ⟨3, (some 7), .load1 (.tmp 6), none, []⟩, ⟨4, (some 3), .move (.tmp 7), none, []⟩])
 .ret)), [.tmp 3]⟩
/- (bellarmine/post.rating).rated$1 -/
def pf69 : PF := ⟨18, (.seq (.region false [⟨0, (some 2), .box 35 (.tmp 0), none, []⟩])
 (.seq (.region false [⟨0, (some 4), .fieldAddr (.tmp 1) 0, none, []⟩, ⟨1, (some 5), .load1 (.tmp 4), none, []⟩, ⟨2, (some 6), .callF 70 [(.tmp 5)], none, []⟩])
 (.block 0 (.rangeFunc (.tmp 6) [7] (.region false [⟨0, (some 3), .move (.tmp 7), none, []⟩]) (.block 1 (.seq (.region false [⟨0, (some 8), .fieldAddr (.tmp 1) 1, none, []⟩, ⟨1, (some 9), .load1 (.tmp 8), none, []⟩, ⟨2, (some 10), .move (.tmp 3), none, []⟩, ⟨3, (some 11), .callV (.tmp 9) [(.tmp 10)], none, []⟩, ⟨4, (some 12), .move (.tmp 11), none, []⟩, ⟨5, (some 13), .load1 (.tmp 2), (some (12, true)), []⟩, ⟨6, (some 14), .move (.tmp 3), (some (12, true)), []⟩, ⟨7, (some 15), .callV (.tmp 13) [(.tmp 14)], (some (12, true)), []⟩, ⟨8, (some 16), .not (.tmp 15), (some (12, true)), []⟩, ⟨9, (some 17), .pick (.tmp 12) (.tmp 16) (.const (.bool false)), none, []⟩])
 (.cond (.tmp 17) .ret .skip))))))), []⟩
/- bellarmine/post.allLists -/
def pf70 : PF := ⟨4, (.seq (.region false [⟨0, (some 1), .box 3 (.tmp 0), none, []⟩, ⟨1, (some 2), .move (.const .nilFunc), none, []⟩])
 (.seq (.region false [⟨0, (some 3), .mkF (.func 73) #[] #[(.tmp 1)], none, []⟩, ⟨1, (some 2), .move (.tmp 3), none, []⟩])
 .ret)), [.tmp 2]⟩
/- bellarmine/post.timesIn -/
def pf71 : PF := ⟨21, (.seq (.region false [⟨0, (some 4), .move (.const (.int .i64 0)), none, []⟩])
 (.seq (.region false [⟨0, (some 5), .move (.const (.int .i64 0)), none, []⟩])
 (.seq (.seq (.region false [⟨0, (some 8), .move (.tmp 0), none, []⟩, ⟨1, (some 9), .len (.tmp 8), none, []⟩, ⟨2, (some 10), .move (.const (.int .i64 0)), none, []⟩])
 (.block 0 (.loop (.seq (.region false [⟨0, (some 11), .ibin .lss .i64 (.tmp 10) (.tmp 9), none, []⟩])
 (.seq (.cond (.tmp 11) .skip (.exit 0))
 (.seq (.block 1 (.seq (.region false [⟨0, (some 12), .idxS (.tmp 8) (.tmp 10) 1, none, []⟩, ⟨1, (some 13), .load1 (.tmp 12), none, []⟩, ⟨2, (some 7), .move (.tmp 13), none, []⟩])
 (.seq (.region false [⟨0, (some 14), .move (.tmp 7), none, []⟩, ⟨1, (some 15), .move (.tmp 1), none, []⟩, ⟨2, (some 16), .callF 75 [(.tmp 14), (.tmp 15)], none, []⟩])
 (.cond (.tmp 16) (.region false [⟨0, (some 17), .move (.tmp 5), none, []⟩, ⟨1, (some 18), .ibin .add .i64 (.tmp 17) (.const (.int .i64 1)), none, []⟩, ⟨2, (some 5), .move (.tmp 18), none, []⟩]) .skip))))
 (.region false [⟨0, (some 19), .ibin .add .i64 (.tmp 10) (.const (.int .i64 1)), none, []⟩, ⟨1, (some 10), .move (.tmp 19), none, []⟩])))))))
 (.seq (.region false [⟨0, (some 20), .move (.tmp 5), none, []⟩, ⟨1, (some 4), .move (.tmp 20), none, []⟩])
 .ret)))), [.tmp 4]⟩
/- bellarmine/bellarmineref12.has -/
def pf72 : PF := ⟨18, (.seq (.region false [⟨0, (some 4), .move (.const (.bool false)), none, []⟩])
 (.seq (.seq (.region false [⟨0, (some 5), .move (.const (.int .i64 0)), none, []⟩])
 (.block 0 (.loop (.seq (.seq (.region false [⟨0, (some 6), .move (.tmp 5), none, []⟩, ⟨1, (some 7), .move (.tmp 0), none, []⟩, ⟨2, (some 8), .len (.tmp 7), none, []⟩, ⟨3, (some 9), .ibin .lss .i64 (.tmp 6) (.tmp 8), none, []⟩])
 (.cond (.tmp 9) .skip (.exit 0)))
 (.seq (.block 1 (.seq (.region false [⟨0, (some 12), .move (.tmp 0), none, []⟩, ⟨1, (some 13), .move (.tmp 5), none, []⟩, ⟨2, (some 14), .idxS (.tmp 12) (.tmp 13) 1, none, []⟩, ⟨3, (some 15), .load1 (.tmp 14), none, []⟩, ⟨4, (some 16), .move (.tmp 1), none, []⟩, ⟨5, (some 17), .ibin .eql .i64 (.tmp 15) (.tmp 16), none, []⟩])
 (.cond (.tmp 17) (.seq (.region false [⟨0, (some 4), .move (.const (.bool true)), none, []⟩])
 .ret) .skip)))
 (.region false [⟨0, (some 10), .move (.tmp 5), none, []⟩, ⟨1, (some 11), .ibin .add .i64 (.tmp 10) (.const (.int .i64 1)), none, []⟩, ⟨2, (some 5), .move (.tmp 11), none, []⟩]))))))
 (.seq (.region false [⟨0, (some 4), .move (.const (.bool false)), none, []⟩])
 .ret))), [.tmp 4]⟩
/- bellarmine/post.allLists$1 -/
def pf73 : PF := ⟨15, (.seq (.region false [⟨0, (some 4), .load1 (.tmp 1), none, []⟩, ⟨1, (some 5), .mkS 3 [(.int .i64 0)] (.const (.int .i64 0)) (.tmp 4), none, []⟩, ⟨2, (some 3), .move (.tmp 5), none, []⟩])
 (.block 0 (.loop (.seq (.seq (.region false [⟨0, (some 6), .move (.tmp 0), none, []⟩, ⟨1, (some 7), .move (.tmp 3), none, []⟩, ⟨2, (some 8), .callV (.tmp 6) [(.tmp 7)], none, []⟩])
 (.cond (.tmp 8) .skip (.exit 0)))
 (.block 1 (.seq (.region false [⟨0, (some 9), .move (.tmp 3), none, []⟩, ⟨1, (some 10), .load1 (.tmp 1), none, []⟩, ⟨2, (some 11), .callF 74 [(.tmp 9), (.tmp 10)], none, []⟩, ⟨3, (some 3), .move (.tmp 11), none, []⟩])
 (.seq (.region false [⟨0, (some 12), .move (.tmp 3), none, []⟩, ⟨1, (some 13), .len (.tmp 12), none, []⟩, ⟨2, (some 14), .ibin .eql .i64 (.tmp 13) (.const (.int .i64 0)), none, []⟩])
 (.cond (.tmp 14) .ret .skip)))))))), []⟩
/- bellarmine/post.next -/
def pf74 : PF := ⟨44, (.seq (.region false [⟨0, (some 4), .move (.const (.slice none 0 0)), none, []⟩])
 (.seq (.seq (.region false [⟨0, (some 6), .move (.tmp 0), none, []⟩, ⟨1, (some 7), .len (.tmp 6), none, []⟩, ⟨2, (some 8), .ibin .eql .i64 (.tmp 7) (.const (.int .i64 0)), none, []⟩])
 (.cond (.tmp 8) (.seq (.region false [⟨0, (some 9), .move (.tmp 0), none, []⟩, ⟨1, (some 10), .bldS 3 1 [(.int .i64 0)] 1 [(0, (.const (.int .i64 0)))], none, []⟩, ⟨2, (some 11), .append 3 1 (.tmp 9) (.tmp 10), none, []⟩, ⟨3, (some 4), .move (.tmp 11), none, []⟩])
 .ret) .skip))
 (.seq (.region false [⟨0, (some 12), .move (.tmp 0), none, []⟩, ⟨1, (some 13), .move (.tmp 0), none, []⟩, ⟨2, (some 14), .len (.tmp 13), none, []⟩, ⟨3, (some 15), .ibin .sub .i64 (.tmp 14) (.const (.int .i64 1)), none, []⟩, ⟨4, (some 16), .idxS (.tmp 12) (.tmp 15) 1, none, []⟩, ⟨5, (some 17), .load1 (.tmp 16), none, []⟩, ⟨6, (some 5), .move (.tmp 17), none, []⟩])
 (.seq (.seq (.region false [⟨0, (some 18), .move (.tmp 5), none, []⟩, ⟨1, (some 19), .ibin .add .i64 (.tmp 18) (.const (.int .i64 1)), none, []⟩, ⟨2, (some 20), .move (.tmp 1), none, []⟩, ⟨3, (some 21), .ibin .lss .i64 (.tmp 19) (.tmp 20), none, []⟩])
 (.cond (.tmp 21) (.seq (.region false [⟨0, (some 22), .move (.tmp 0), none, []⟩, ⟨1, (some 23), .move (.tmp 5), none, []⟩, ⟨2, (some 24), .ibin .add .i64 (.tmp 23) (.const (.int .i64 1)), none, []⟩, ⟨3, (some 25), .bldS 3 1 [(.int .i64 0)] 1 [(0, (.tmp 24))], none, []⟩, ⟨4, (some 26), .append 3 1 (.tmp 22) (.tmp 25), none, []⟩, ⟨5, (some 4), .move (.tmp 26), none, []⟩])
 .ret) .skip))
 (.seq (.region false [⟨0, (some 27), .move (.tmp 0), none, []⟩, ⟨1, (some 28), .move (.tmp 0), none, []⟩, ⟨2, (some 29), .len (.tmp 28), none, []⟩, ⟨3, (some 30), .ibin .sub .i64 (.tmp 29) (.const (.int .i64 1)), none, []⟩, ⟨4, (some 31), .slS (.tmp 27) 1 none (some (.tmp 30)) none, none, []⟩, ⟨5, (some 0), .move (.tmp 31), none, []⟩])
 (.seq (.seq (.region false [⟨0, (some 32), .move (.tmp 0), none, []⟩, ⟨1, (some 33), .len (.tmp 32), none, []⟩, ⟨2, (some 34), .ibin .gtr .i64 (.tmp 33) (.const (.int .i64 0)), none, []⟩])
 (.cond (.tmp 34) (.region false [⟨0, (some 35), .move (.tmp 0), none, []⟩, ⟨1, (some 36), .move (.tmp 0), none, []⟩, ⟨2, (some 37), .len (.tmp 36), none, []⟩, ⟨3, (some 38), .ibin .sub .i64 (.tmp 37) (.const (.int .i64 1)), none, []⟩, ⟨4, (some 39), .idxS (.tmp 35) (.tmp 38) 1, none, []⟩, ⟨5, (some 40), .load1 (.tmp 39), none, []⟩, ⟨6, (some 41), .ibin .add .i64 (.tmp 40) (.const (.int .i64 1)), none, []⟩, ⟨7, (some 42), .idxS (.tmp 35) (.tmp 38) 1, none, []⟩, ⟨8, none, .store (.tmp 42) (.tmp 41) 1, none, []⟩]) .skip))
 (.seq (.region false [⟨0, (some 43), .move (.tmp 0), none, []⟩, ⟨1, (some 4), .move (.tmp 43), none, []⟩])
 .ret))))))), [.tmp 4]⟩
/- slices.Contains[[]int,int] -/
def pf75 : PF := ⟨9, (.seq (.region false [⟨0, (some 4), .move (.const (.bool false)), none, []⟩])
 (.seq (.region false [⟨0, (some 5), .move (.tmp 0), none, []⟩, ⟨1, (some 6), .move (.tmp 1), none, []⟩, ⟨2, (some 7), .callF 76 [(.tmp 5), (.tmp 6)], none, []⟩, ⟨3, (some 8), .ibin .geq .i64 (.tmp 7) (.const (.int .i64 0)), none, []⟩, ⟨4, (some 4), .move (.tmp 8), none, []⟩])
 .ret)), [.tmp 4]⟩
/- slices.Index[[]int,int] -/
def pf76 : PF := ⟨19, (.seq (.region false [⟨0, (some 4), .move (.const (.int .i64 0)), none, []⟩])
 (.seq (.seq (.region false [⟨0, (some 6), .move (.tmp 0), none, []⟩, ⟨1, (some 7), .len (.tmp 6), none, []⟩, ⟨2, (some 8), .move (.const (.int .i64 0)), none, []⟩])
 (.block 0 (.loop (.seq (.region false [⟨0, (some 9), .ibin .lss .i64 (.tmp 8) (.tmp 7), none, []⟩])
 (.seq (.cond (.tmp 9) .skip (.exit 0))
 (.seq (.block 1 (.seq (.region false [⟨0, (some 10), .move (.tmp 8), none, []⟩, ⟨1, (some 5), .move (.tmp 10), none, []⟩])
 (.seq (.region false [⟨0, (some 11), .move (.tmp 1), none, []⟩, ⟨1, (some 12), .move (.tmp 0), none, []⟩, ⟨2, (some 13), .move (.tmp 5), none, []⟩, ⟨3, (some 14), .idxS (.tmp 12) (.tmp 13) 1, none, []⟩, ⟨4, (some 15), .load1 (.tmp 14), none, []⟩, ⟨5, (some 16), .ibin .eql .i64 (.tmp 11) (.tmp 15), none, []⟩])
 (.cond (.tmp 16) (.seq (.region false [⟨0, (some 17), .move (.tmp 5), none, []⟩, ⟨1, (some 4), .move (.tmp 17), none, []⟩])
 .ret) .skip))))
 (.region false [⟨0, (some 18), .ibin .add .i64 (.tmp 8) (.const (.int .i64 1)), none, []⟩, ⟨1, (some 8), .move (.tmp 18), none, []⟩])))))))
 (.seq (.region false [⟨0, (some 4), .move (.const (.int .i64 (-1))), none, []⟩])
 .ret))), [.tmp 4]⟩
def funcs : Tr PF := (.node none (.node none (.node (some pf3) (.node none (.node (some pf15) (.node (some pf31) (.node (some pf63) .nil .nil) .nil) (.node (some pf47) .nil .nil)) (.node (some pf23) (.node (some pf39) (.node (some pf71) .nil .nil) .nil) (.node (some pf55) .nil .nil))) (.node (some pf11) (.node (some pf19) (.node none (.node (some pf67) .nil .nil) .nil) (.node (some pf51) .nil .nil)) (.node (some pf27) (.node (some pf43) (.node (some pf75) .nil .nil) .nil) (.node (some pf59) .nil .nil)))) (.node (some pf5) (.node (some pf9) (.node (some pf17) (.node (some pf33) (.node (some pf65) .nil .nil) .nil) (.node (some pf49) .nil .nil)) (.node (some pf25) (.node (some pf41) (.node (some pf73) .nil .nil) .nil) (.node (some pf57) .nil .nil))) (.node (some pf13) (.node (some pf21) (.node none (.node (some pf69) .nil .nil) .nil) (.node (some pf53) .nil .nil)) (.node (some pf29) (.node (some pf45) .nil .nil) (.node (some pf61) .nil .nil))))) (.node none (.node (some pf4) (.node none (.node (some pf16) (.node none (.node (some pf64) .nil .nil) .nil) (.node (some pf48) .nil .nil)) (.node (some pf24) (.node (some pf40) (.node (some pf72) .nil .nil) .nil) (.node (some pf56) .nil .nil))) (.node (some pf12) (.node (some pf20) (.node none (.node (some pf68) .nil .nil) .nil) (.node (some pf52) .nil .nil)) (.node (some pf28) (.node (some pf44) (.node (some pf76) .nil .nil) .nil) (.node (some pf60) .nil .nil)))) (.node none (.node (some pf10) (.node (some pf18) (.node none (.node (some pf66) .nil .nil) .nil) (.node (some pf50) .nil .nil)) (.node (some pf26) (.node (some pf42) (.node (some pf74) .nil .nil) .nil) (.node (some pf58) .nil .nil))) (.node (some pf14) (.node (some pf22) (.node none (.node (some pf70) .nil .nil) .nil) (.node (some pf54) .nil .nil)) (.node (some pf30) (.node (some pf46) .nil .nil) (.node (some pf62) .nil .nil))))))
noncomputable def C : CW := ⟨{ P := Try.prog, funcs := funcs }, 8⟩
end Go.Proofs.Ytcfffhkabhmkmaa.Ps
