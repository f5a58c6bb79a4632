/- The program's functions, prepared: written by program, checked below. -/
import Derived.Test.YtfnflkcjhefddaaSymMono
import Derived.Test.YtfnflkcjhefddaaGl0
import Derived.Test.YtfnflkcjhefddaaRows
namespace Go.Proofs.Ytfnflkcjhefddaa.Lk
open Go Go.Abs
set_option maxRecDepth 100000
set_option maxHeartbeats 4000000
/- bellarmine/bellarminelaw11.LockFewer -/
def pf13 : PF := ⟨112, (.seq (.region false [⟨0, (some 2), .box 50 (.tmp 0), none, []⟩, ⟨1, (some 4), .move (.const (.bool false)), none, []⟩])
 (.seq (.region false [⟨0, (some 19), .loadN (.tmp 2) 8, none, []⟩, ⟨1, (some 20), .callF 42 [(.tmp 19), (.const (.int .i64 7))], none, []⟩, ⟨2, (some 5), .move (.tmp 20), none, []⟩])
 (.seq (.region false [⟨0, (some 21), .move (.tmp 5), none, []⟩, ⟨1, (some 22), .len (.tmp 21), none, []⟩, ⟨2, (some 6), .move (.tmp 22), none, []⟩])
 (.seq (.seq (.region false [⟨0, (some 23), .move (.tmp 6), none, []⟩, ⟨1, (some 24), .ibin .eql .i64 (.tmp 23) (.const (.int .i64 1)), none, []⟩])
 (.cond (.tmp 24) (.seq (.region false [⟨0, (some 25), .callF 15 [], none, []⟩, ⟨1, (some 4), .move (.tmp 25), none, []⟩])
 .ret) .skip))
 (.seq (.region false [⟨0, (some 26), .move (.tmp 1), none, []⟩, ⟨1, (some 27), .plain ⟨(some 27), .convert 5 3 (.tmp 26), 3, (String.ofList [Char.ofNat 111, Char.ofNat 117, Char.ofNat 116, Char.ofNat 114, Char.ofNat 105, Char.ofNat 103, Char.ofNat 104, Char.ofNat 116, Char.ofNat 46, Char.ofNat 103, Char.ofNat 111, Char.ofNat 58, Char.ofNat 51, Char.ofNat 54, Char.ofNat 53]), #[⟨0, .data⟩], none⟩, none, []⟩, ⟨2, (some 28), .move (.tmp 6), none, []⟩, ⟨3, (some 29), .ibin .rem .i64 (.tmp 27) (.tmp 28), none, []⟩, ⟨4, (some 7), .move (.tmp 29), none, []⟩])
 (.seq (.region false [⟨0, (some 8), .move (.const (.slice none 0 0)), none, []⟩])
 (.seq (.seq (.region false [⟨0, (some 30), .move (.tmp 5), none, []⟩, ⟨1, (some 31), .len (.tmp 30), none, []⟩, ⟨2, (some 32), .move (.const (.int .i64 0)), none, []⟩])
 (.block 0 (.loop (.seq (.region false [⟨0, (some 33), .ibin .lss .i64 (.tmp 32) (.tmp 31), none, []⟩])
 (.seq (.cond (.tmp 33) .skip (.exit 0))
 (.seq (.block 1 (.seq (.region false [⟨0, (some 34), .idxS (.tmp 30) (.tmp 32) 1, none, []⟩, ⟨1, (some 35), .load1 (.tmp 34), none, []⟩, ⟨2, (some 10), .move (.tmp 35), none, []⟩])
 (.seq (.region false [⟨0, (some 36), .move (.tmp 10), none, []⟩, ⟨1, (some 37), .move (.tmp 7), none, []⟩, ⟨2, (some 38), .ibin .lss .i64 (.tmp 36) (.tmp 37), none, []⟩])
 (.cond (.tmp 38) (.region false [⟨0, (some 39), .move (.tmp 8), none, []⟩, ⟨1, (some 40), .move (.tmp 10), none, []⟩, ⟨2, (some 41), .bldS 3 1 [(.int .i64 0)] 1 [(0, (.tmp 40))], none, []⟩, ⟨3, (some 42), .append 3 1 (.tmp 39) (.tmp 41), none, []⟩, ⟨4, (some 8), .move (.tmp 42), none, []⟩]) (.seq (.region false [⟨0, (some 43), .move (.tmp 10), none, []⟩, ⟨1, (some 44), .move (.tmp 7), none, []⟩, ⟨2, (some 45), .ibin .gtr .i64 (.tmp 43) (.tmp 44), none, []⟩])
 (.cond (.tmp 45) (.region false [⟨0, (some 46), .move (.tmp 8), none, []⟩, ⟨1, (some 47), .move (.tmp 10), none, []⟩, ⟨2, (some 48), .ibin .sub .i64 (.tmp 47) (.const (.int .i64 1)), none, []⟩, ⟨3, (some 49), .bldS 3 1 [(.int .i64 0)] 1 [(0, (.tmp 48))], none, []⟩, ⟨4, (some 50), .append 3 1 (.tmp 46) (.tmp 49), none, []⟩, ⟨5, (some 8), .move (.tmp 50), none, []⟩]) .skip))))))
 (.region false [⟨0, (some 51), .ibin .add .i64 (.tmp 32) (.const (.int .i64 1)), none, []⟩, ⟨1, (some 32), .move (.tmp 51), none, []⟩])))))))
 (.seq (.region false [⟨0, (some 53), .move (.tmp 5), none, []⟩, ⟨1, (some 54), .callF 25 [(.tmp 53)], none, []⟩, ⟨2, (some 52), .move (.tmp 54), none, []⟩, ⟨3, (some 55), .ext (.tmp 52) 0, none, []⟩, ⟨4, (some 56), .ext (.tmp 52) 1, none, []⟩, ⟨5, (some 11), .move (.tmp 55), none, []⟩, ⟨6, (some 12), .move (.tmp 56), none, []⟩])
 (.seq (.region false [⟨0, (some 58), .move (.tmp 8), none, []⟩, ⟨1, (some 59), .callF 25 [(.tmp 58)], none, []⟩, ⟨2, (some 57), .move (.tmp 59), none, []⟩, ⟨3, (some 60), .ext (.tmp 57) 0, none, []⟩, ⟨4, (some 61), .ext (.tmp 57) 1, none, []⟩, ⟨5, (some 13), .move (.tmp 60), none, []⟩, ⟨6, (some 14), .move (.tmp 61), none, []⟩])
 (.seq (.region false [⟨0, (some 63), .move (.tmp 5), none, []⟩, ⟨1, (some 64), .callF 39 [(.tmp 63)], none, []⟩, ⟨2, (some 62), .move (.tmp 64), none, []⟩, ⟨3, (some 65), .ext (.tmp 62) 0, none, []⟩, ⟨4, (some 66), .ext (.tmp 62) 1, none, []⟩, ⟨5, (some 15), .move (.tmp 65), none, []⟩, ⟨6, (some 16), .move (.tmp 66), none, []⟩])
 (.seq (.region false [⟨0, (some 68), .move (.tmp 8), none, []⟩, ⟨1, (some 69), .callF 39 [(.tmp 68)], none, []⟩, ⟨2, (some 67), .move (.tmp 69), none, []⟩, ⟨3, (some 70), .ext (.tmp 67) 0, none, []⟩, ⟨4, (some 71), .ext (.tmp 67) 1, none, []⟩, ⟨5, (some 17), .move (.tmp 70), none, []⟩, ⟨6, (some 18), .move (.tmp 71), none, []⟩])
 (.seq (.region false [⟨0, (some 72), .move (.tmp 12), none, []⟩, ⟨1, (some 73), .ibin .eql .i64 (.tmp 72) (.const (.int .i64 0)), none, []⟩, ⟨2, (some 74), .move (.tmp 73), none, []⟩, ⟨3, (some 75), .move (.tmp 14), (some (74, true)), []⟩, ⟨4, (some 76), .ibin .eql .i64 (.tmp 75) (.const (.int .i64 0)), (some (74, true)), []⟩, ⟨5, (some 77), .pick (.tmp 74) (.tmp 76) (.const (.bool false)), none, []⟩, ⟨6, (some 78), .move (.tmp 77), none, []⟩, ⟨7, (some 79), .move (.tmp 11), (some (78, true)), []⟩, ⟨8, (some 80), .not (.tmp 79), (some (78, true)), []⟩, ⟨9, (some 81), .move (.tmp 80), (some (78, true)), []⟩, ⟨10, (some 82), .move (.tmp 13), (some (81, false)), []⟩, ⟨11, (some 83), .pick (.tmp 81) (.const (.bool true)) (.tmp 82), (some (78, true)), []⟩, ⟨12, (some 84), .pick (.tmp 78) (.tmp 83) (.const (.bool false)), none, []⟩, ⟨13, (some 85), .move (.tmp 84), none, []⟩, ⟨14, (some 86), .move (.tmp 16), (some (85, true)), []⟩, ⟨15, (some 87), .ibin .eql .i64 (.tmp 86) (.const (.int .i64 0)), (some (85, true)), []⟩, ⟨16, (some 88), .move (.tmp 87), (some (85, true)), []⟩, ⟨17, (some 89), .move (.tmp 16), (some (88, false)), []⟩, ⟨18, (some 90), .ibin .eql .i64 (.tmp 89) (.const (.int .i64 12)), (some (88, false)), []⟩, ⟨19, (some 91), .pick (.tmp 88) (.const (.bool true)) (.tmp 90), (some (85, true)), []⟩, ⟨20, (some 92), .pick (.tmp 85) (.tmp 91) (.const (.bool false)), none, []⟩, ⟨21, (some 93), .move (.tmp 92), none, []⟩, ⟨22, (some 94), .move (.tmp 18), (some (93, true)), []⟩, ⟨23, (some 95), .ibin .eql .i64 (.tmp 94) (.const (.int .i64 0)), (some (93, true)), []⟩, ⟨24, (some 96), .move (.tmp 95), (some (93, true)), []⟩, ⟨25, (some 97), .move (.tmp 18), (some (96, false)), []⟩, ⟨26, (some 98), .ibin .eql .i64 (.tmp 97) (.const (.int .i64 12)), (some (96, false)), []⟩, ⟨27, (some 99), .pick (.tmp 96) (.const (.bool true)) (.tmp 98), (some (93, true)), []⟩, ⟨28, (some 100), .pick (.tmp 93) (.tmp 99) (.const (.bool false)), none, []⟩, ⟨29, (some 101), .move (.tmp 100), none, []⟩, ⟨30, (some 102), .move (.tmp 16), (some (101, true)), []⟩, ⟨31, (some 103), .ibin .neq .i64 (.tmp 102) (.const (.int .i64 0)), (some (101, true)), []⟩, ⟨32, (some 104), .move (.tmp 103), (some (101, true)), []⟩, ⟨33, (some 105), .move (.tmp 18), (some (104, false)), []⟩, ⟨34, (some 106), .ibin .eql .i64 (.tmp 105) (.const (.int .i64 0)), (some (104, false)), []⟩, ⟨35, (some 107), .pick (.tmp 104) (.const (.bool true)) (.tmp 106), (some (101, true)), []⟩, ⟨36, (some 108), .pick (.tmp 101) (.tmp 107) (.const (.bool false)), none, []⟩, ⟨37, (some 109), .move (.tmp 108), none, []⟩, ⟨38, (some 110), .callF 15 [], (some (109, true)), []⟩, ⟨39, (some 111), .pick (.tmp 109) (.tmp 110) (.const (.bool false)), none, []⟩, ⟨40, (some 4), .move (.tmp 111), none, []⟩])
 .ret)))))))))))), [.tmp 4]⟩
/- bellarmine/lock.Check -/
def pf23 : PF := ⟨30, (.seq (.region false [⟨0, (some 2), .move (.const (.int .i64 0)), none, []⟩])
 (.seq (.seq (.region false [⟨0, (some 5), .move (.tmp 0), none, []⟩, ⟨1, (some 6), .len (.tmp 5), none, []⟩, ⟨2, (some 7), .ibin .lss .i64 (.tmp 6) (.const (.int .i64 1)), none, []⟩, ⟨3, (some 8), .move (.tmp 7), none, []⟩, ⟨4, (some 9), .move (.tmp 0), (some (8, false)), []⟩, ⟨5, (some 10), .len (.tmp 9), (some (8, false)), []⟩, ⟨6, (some 11), .ibin .gtr .i64 (.tmp 10) (.const (.int .i64 7)), (some (8, false)), []⟩, ⟨7, (some 12), .pick (.tmp 8) (.const (.bool true)) (.tmp 11), none, []⟩])
 (.cond (.tmp 12) (.seq (.region false [⟨0, (some 2), .move (.const (.int .i64 1)), none, []⟩])
 .ret) .skip))
 (.seq (.seq (.region false [⟨0, (some 13), .move (.tmp 0), none, []⟩, ⟨1, (some 14), .len (.tmp 13), none, []⟩, ⟨2, (some 15), .move (.const (.int .i64 0)), none, []⟩])
 (.block 0 (.loop (.seq (.region false [⟨0, (some 16), .ibin .lss .i64 (.tmp 15) (.tmp 14), none, []⟩])
 (.seq (.cond (.tmp 16) .skip (.exit 0))
 (.seq (.block 1 (.seq (.region false [⟨0, (some 17), .move (.tmp 15), none, []⟩, ⟨1, (some 18), .idxS (.tmp 13) (.tmp 15) 1, none, []⟩, ⟨2, (some 19), .load1 (.tmp 18), none, []⟩, ⟨3, (some 3), .move (.tmp 17), none, []⟩, ⟨4, (some 4), .move (.tmp 19), none, []⟩])
 (.seq (.seq (.region false [⟨0, (some 20), .move (.tmp 0), none, []⟩, ⟨1, (some 21), .move (.tmp 4), none, []⟩, ⟨2, (some 22), .callF 67 [(.tmp 20), (.tmp 21)], none, []⟩, ⟨3, (some 23), .not (.tmp 22), none, []⟩])
 (.cond (.tmp 23) (.seq (.region false [⟨0, (some 2), .move (.const (.int .i64 2)), none, []⟩])
 .ret) .skip))
 (.seq (.region false [⟨0, (some 24), .move (.tmp 0), none, []⟩, ⟨1, (some 25), .move (.tmp 3), none, []⟩, ⟨2, (some 26), .slS (.tmp 24) 1 none (some (.tmp 25)) none, none, []⟩, ⟨3, (some 27), .move (.tmp 4), none, []⟩, ⟨4, (some 28), .callF 68 [(.tmp 26), (.tmp 27)], none, []⟩])
 (.cond (.tmp 28) (.seq (.region false [⟨0, (some 2), .move (.const (.int .i64 6)), none, []⟩])
 .ret) .skip)))))
 (.region false [⟨0, (some 29), .ibin .add .i64 (.tmp 15) (.const (.int .i64 1)), none, []⟩, ⟨1, (some 15), .move (.tmp 29), none, []⟩])))))))
 (.seq (.region false [⟨0, (some 2), .move (.const (.int .i64 0)), none, []⟩])
 .ret)))), [.tmp 2]⟩
/- bellarmine/lock.Sorted -/
def pf25 : PF := ⟨17, (.seq (.region false [⟨0, (some 2), .move (.const (.bool false)), none, []⟩, ⟨1, (some 3), .move (.const (.int .i64 0)), none, []⟩])
 (.seq (.seq (.region false [⟨0, (some 6), .move (.tmp 0), none, []⟩, ⟨1, (some 7), .callF 23 [(.tmp 6)], none, []⟩, ⟨2, (some 4), .move (.tmp 7), none, []⟩])
 (.seq (.region false [⟨0, (some 8), .move (.tmp 4), none, []⟩, ⟨1, (some 9), .ibin .neq .i64 (.tmp 8) (.const (.int .i64 0)), none, []⟩])
 (.cond (.tmp 9) (.seq (.region false [⟨0, (some 10), .move (.tmp 4), none, []⟩, ⟨1, (some 2), .move (.const (.bool false)), none, []⟩, ⟨2, (some 3), .move (.tmp 10), none, []⟩])
 .ret) .skip)))
 (.seq (.region false [⟨0, (some 11), .move (.tmp 0), none, []⟩, ⟨1, (some 12), .len (.tmp 11), none, []⟩, ⟨2, (some 13), .mkS 3 [(.int .i64 0)] (.tmp 12) (.tmp 12), none, []⟩, ⟨3, (some 5), .move (.tmp 13), none, []⟩])
 (.seq (.region false [⟨0, (some 14), .move (.tmp 0), none, []⟩, ⟨1, (some 15), .move (.tmp 5), none, []⟩, ⟨2, (some 16), .callF 71 [(.tmp 14), (.tmp 15)], none, []⟩, ⟨3, (some 2), .move (.tmp 16), none, []⟩, ⟨4, (some 3), .move (.const (.int .i64 0)), none, []⟩])
 .ret)))), [.tmp 2, .tmp 3]⟩
/- bellarmine/lock.Two -/
def pf39 : PF := ⟨19, (.seq (.region false [⟨0, (some 1), .box 22 (.tmp 0), none, []⟩, ⟨1, (some 2), .new 22 [(.slice none 0 0)], none, []⟩, ⟨2, (some 3), .new 24 [(.int .i64 0)], none, []⟩])
 (.seq (.seq (.region false [⟨0, (some 6), .load1 (.tmp 1), none, []⟩, ⟨1, (some 7), .callF 23 [(.tmp 6)], none, []⟩, ⟨2, (some 4), .move (.tmp 7), none, []⟩])
 (.seq (.region false [⟨0, (some 8), .move (.tmp 4), none, []⟩, ⟨1, (some 9), .ibin .neq .i64 (.tmp 8) (.const (.int .i64 0)), none, []⟩])
 (.cond (.tmp 9) (.seq (.region false [⟨0, (some 10), .move (.tmp 4), none, []⟩, ⟨1, none, .store (.tmp 2) (.const (.slice none 0 0)) 1, none, []⟩, ⟨2, none, .store (.tmp 3) (.tmp 10) 1, none, []⟩])
 .ret) .skip)))
 (.seq (.seq (.region false [⟨0, (some 11), .load1 (.tmp 1), none, []⟩, ⟨1, (some 12), .len (.tmp 11), none, []⟩, ⟨2, (some 13), .callF 77 [(.tmp 12), (.const (.int .i64 2)), (.func 85)], none, []⟩])
 (.block 0 (.rangeFunc (.tmp 13) [14] (.region false [⟨0, (some 5), .move (.tmp 14), none, []⟩]) (.block 1 (.seq (.region false [⟨0, (some 15), .load1 (.tmp 1), none, []⟩, ⟨1, (some 16), .move (.tmp 5), none, []⟩, ⟨2, (some 17), .callF 71 [(.tmp 15), (.tmp 16)], none, []⟩])
 (.cond (.tmp 17) (.seq (.region false [⟨0, (some 18), .move (.tmp 5), none, []⟩, ⟨1, none, .store (.tmp 2) (.tmp 18) 1, none, []⟩, ⟨2, none, .store (.tmp 3) (.const (.int .i64 0)) 1, none, []⟩])
 .ret) .skip))))))
 (.seq (.region false [⟨0, none, .store (.tmp 2) (.const (.slice none 0 0)) 1, none, []⟩, ⟨1, none, .store (.tmp 3) (.const (.int .i64 12)) 1, none, []⟩])
 .ret)))), [.cell 2 none, .cell 3 none]⟩
/- (bellarmine/bellarminelaw11.Train).made -/
def pf42 : PF := ⟨52, (.seq (.region false [⟨0, (some 2), .box 50 (.tmp 0), none, []⟩, ⟨1, (some 4), .move (.const (.slice none 0 0)), none, []⟩])
 (.seq (.region false [⟨0, (some 11), .fieldAddr (.tmp 2) 0, none, []⟩, ⟨1, (some 12), .load1 (.tmp 11), none, []⟩, ⟨2, (some 13), .plain ⟨(some 13), .convert 5 3 (.tmp 12), 3, (String.ofList [Char.ofNat 111, Char.ofNat 117, Char.ofNat 116, Char.ofNat 114, Char.ofNat 105, Char.ofNat 103, Char.ofNat 104, Char.ofNat 116, Char.ofNat 46, Char.ofNat 103, Char.ofNat 111, Char.ofNat 58, Char.ofNat 50, Char.ofNat 48]), #[⟨1, .data⟩], none⟩, none, []⟩, ⟨3, (some 14), .move (.tmp 1), none, []⟩, ⟨4, (some 15), .ibin .rem .i64 (.tmp 13) (.tmp 14), none, []⟩, ⟨5, (some 16), .ibin .add .i64 (.const (.int .i64 1)) (.tmp 15), none, []⟩, ⟨6, (some 5), .move (.tmp 16), none, []⟩])
 (.seq (.region false [⟨0, (some 6), .move (.const (.slice none 0 0)), none, []⟩, ⟨1, (some 7), .move (.const (.slice none 0 0)), none, []⟩])
 (.seq (.seq (.region false [⟨0, (some 17), .move (.tmp 5), none, []⟩, ⟨1, (some 18), .move (.const (.int .i64 0)), none, []⟩])
 (.block 0 (.loop (.seq (.region false [⟨0, (some 19), .ibin .lss .i64 (.tmp 18) (.tmp 17), none, []⟩])
 (.seq (.cond (.tmp 19) .skip (.exit 0))
 (.seq (.block 1 (.seq (.region false [⟨0, (some 20), .move (.tmp 18), none, []⟩, ⟨1, (some 8), .move (.tmp 20), none, []⟩])
 (.region false [⟨0, (some 21), .move (.tmp 6), none, []⟩, ⟨1, (some 22), .move (.tmp 8), none, []⟩, ⟨2, (some 23), .bldS 3 1 [(.int .i64 0)] 1 [(0, (.tmp 22))], none, []⟩, ⟨3, (some 24), .append 3 1 (.tmp 21) (.tmp 23), none, []⟩, ⟨4, (some 6), .move (.tmp 24), none, []⟩])))
 (.region false [⟨0, (some 25), .ibin .add .i64 (.tmp 18) (.const (.int .i64 1)), none, []⟩, ⟨1, (some 18), .move (.tmp 25), none, []⟩])))))))
 (.seq (.seq (.region false [⟨0, (some 26), .move (.tmp 5), none, []⟩, ⟨1, (some 27), .move (.const (.int .i64 0)), none, []⟩])
 (.block 2 (.loop (.seq (.region false [⟨0, (some 28), .ibin .lss .i64 (.tmp 27) (.tmp 26), none, []⟩])
 (.seq (.cond (.tmp 28) .skip (.exit 2))
 (.seq (.block 3 (.seq (.region false [⟨0, (some 29), .move (.tmp 27), none, []⟩, ⟨1, (some 9), .move (.tmp 29), none, []⟩])
 (.seq (.region false [⟨0, (some 30), .move (.tmp 9), none, []⟩, ⟨1, (some 31), .fieldAddr (.tmp 2) 1, none, []⟩, ⟨2, (some 32), .idxA (.tmp 31) (.tmp 30) 7 1, none, []⟩, ⟨3, (some 33), .load1 (.tmp 32), none, []⟩, ⟨4, (some 34), .plain ⟨(some 34), .convert 5 3 (.tmp 33), 3, (String.ofList [Char.ofNat 111, Char.ofNat 117, Char.ofNat 116, Char.ofNat 114, Char.ofNat 105, Char.ofNat 103, Char.ofNat 104, Char.ofNat 116, Char.ofNat 46, Char.ofNat 103, Char.ofNat 111, Char.ofNat 58, Char.ofNat 50, Char.ofNat 54]), #[⟨3, .data⟩], none⟩, none, []⟩, ⟨5, (some 35), .move (.tmp 6), none, []⟩, ⟨6, (some 36), .len (.tmp 35), none, []⟩, ⟨7, (some 37), .ibin .rem .i64 (.tmp 34) (.tmp 36), none, []⟩, ⟨8, (some 10), .move (.tmp 37), none, []⟩])
 (.seq (.region false [⟨0, (some 38), .move (.tmp 7), none, []⟩, ⟨1, (some 39), .move (.tmp 6), none, []⟩, ⟨2, (some 40), .move (.tmp 10), none, []⟩, ⟨3, (some 41), .idxS (.tmp 39) (.tmp 40) 1, none, []⟩, ⟨4, (some 42), .load1 (.tmp 41), none, []⟩, ⟨5, (some 43), .bldS 3 1 [(.int .i64 0)] 1 [(0, (.tmp 42))], none, []⟩, ⟨6, (some 44), .append 3 1 (.tmp 38) (.tmp 43), none, []⟩, ⟨7, (some 7), .move (.tmp 44), none, []⟩])
 (.region false [⟨0, (some 45), .move (.tmp 6), none, []⟩, ⟨1, (some 46), .move (.tmp 10), none, []⟩, ⟨2, (some 47), .move (.tmp 10), none, []⟩, ⟨3, (some 48), .ibin .add .i64 (.tmp 47) (.const (.int .i64 1)), none, []⟩, ⟨4, (some 49), .callF 87 [(.tmp 45), (.tmp 46), (.tmp 48)], none, []⟩, ⟨5, (some 6), .move (.tmp 49), none, []⟩])))))
 (.region false [⟨0, (some 50), .ibin .add .i64 (.tmp 27) (.const (.int .i64 1)), none, []⟩, ⟨1, (some 27), .move (.tmp 50), none, []⟩])))))))
 (.seq (.region false [⟨0, (some 51), .move (.tmp 7), none, []⟩, ⟨1, (some 4), .move (.tmp 51), none, []⟩])
 .ret)))))), [.tmp 4]⟩
/- slices.IsSorted[[]int,int] -/
def pf45 : PF := ⟨21, (.seq (.region false [⟨0, (some 2), .move (.const (.bool false)), none, []⟩])
 (.seq (.seq (.region false [⟨0, (some 4), .move (.tmp 0), none, []⟩, ⟨1, (some 5), .len (.tmp 4), none, []⟩, ⟨2, (some 6), .ibin .sub .i64 (.tmp 5) (.const (.int .i64 1)), none, []⟩, ⟨3, (some 3), .move (.tmp 6), none, []⟩])
 (.block 0 (.loop (.seq (.seq (.region false [⟨0, (some 7), .move (.tmp 3), none, []⟩, ⟨1, (some 8), .ibin .gtr .i64 (.tmp 7) (.const (.int .i64 0)), none, []⟩])
 (.cond (.tmp 8) .skip (.exit 0)))
 (.seq (.block 1 (.seq (.region true [⟨0, (some 11), .move (.tmp 0), none, []⟩, ⟨1, (some 12), .move (.tmp 3), none, []⟩, ⟨2, (some 13), .idxS (.tmp 11) (.tmp 12) 1, none, []⟩, ⟨3, (some 14), .load1 (.tmp 13), none, []⟩, ⟨4, (some 15), .move (.tmp 0), none, []⟩, ⟨5, (some 16), .move (.tmp 3), none, []⟩, ⟨6, (some 17), .ibin .sub .i64 (.tmp 16) (.const (.int .i64 1)), none, []⟩, ⟨7, (some 18), .idxS (.tmp 15) (.tmp 17) 1, none, []⟩, ⟨8, (some 19), .load1 (.tmp 18), none, []⟩, ⟨9, (some 20), .callF 89 [(.tmp 14), (.tmp 19)], none, []⟩])
 (.cond (.tmp 20) (.seq (.region false [⟨0, (some 2), .move (.const (.bool false)), none, []⟩])
 .ret) .skip)))
 (.region false [⟨0, (some 9), .move (.tmp 3), none, []⟩, ⟨1, (some 10), .ibin .sub .i64 (.tmp 9) (.const (.int .i64 1)), none, []⟩, ⟨2, (some 3), .move (.tmp 10), none, []⟩]))))))
 (.seq (.region false [⟨0, (some 2), .move (.const (.bool true)), none, []⟩])
 .ret))), [.tmp 2]⟩
/- slices.Index[[]int,int] -/
def pf52 : PF := ⟨19, (.seq (.region false [⟨0, (some 4), .move (.const (.int .i64 0)), none, []⟩])
 (.seq (.seq (.region false [⟨0, (some 6), .move (.tmp 0), none, []⟩, ⟨1, (some 7), .len (.tmp 6), none, []⟩, ⟨2, (some 8), .move (.const (.int .i64 0)), none, []⟩])
 (.block 0 (.loop (.seq (.region false [⟨0, (some 9), .ibin .lss .i64 (.tmp 8) (.tmp 7), none, []⟩])
 (.seq (.cond (.tmp 9) .skip (.exit 0))
 (.seq (.block 1 (.seq (.region false [⟨0, (some 10), .move (.tmp 8), none, []⟩, ⟨1, (some 5), .move (.tmp 10), none, []⟩])
 (.seq (.region false [⟨0, (some 11), .move (.tmp 1), none, []⟩, ⟨1, (some 12), .move (.tmp 0), none, []⟩, ⟨2, (some 13), .move (.tmp 5), none, []⟩, ⟨3, (some 14), .idxS (.tmp 12) (.tmp 13) 1, none, []⟩, ⟨4, (some 15), .load1 (.tmp 14), none, []⟩, ⟨5, (some 16), .ibin .eql .i64 (.tmp 11) (.tmp 15), none, []⟩])
 (.cond (.tmp 16) (.seq (.region false [⟨0, (some 17), .move (.tmp 5), none, []⟩, ⟨1, (some 4), .move (.tmp 17), none, []⟩])
 .ret) .skip))))
 (.region false [⟨0, (some 18), .ibin .add .i64 (.tmp 8) (.const (.int .i64 1)), none, []⟩, ⟨1, (some 8), .move (.tmp 18), none, []⟩])))))))
 (.seq (.region false [⟨0, (some 4), .move (.const (.int .i64 (-1))), none, []⟩])
 .ret))), [.tmp 4]⟩
/- bellarmine/lock.isPlace -/
def pf67 : PF := ⟨13, (.seq (.region false [⟨0, (some 4), .move (.const (.bool false)), none, []⟩])
 (.seq (.region false [⟨0, (some 5), .move (.tmp 1), none, []⟩, ⟨1, (some 6), .ibin .geq .i64 (.tmp 5) (.const (.int .i64 0)), none, []⟩, ⟨2, (some 7), .move (.tmp 6), none, []⟩, ⟨3, (some 8), .move (.tmp 1), (some (7, true)), []⟩, ⟨4, (some 9), .move (.tmp 0), (some (7, true)), []⟩, ⟨5, (some 10), .len (.tmp 9), (some (7, true)), []⟩, ⟨6, (some 11), .ibin .lss .i64 (.tmp 8) (.tmp 10), (some (7, true)), []⟩, ⟨7, (some 12), .pick (.tmp 7) (.tmp 11) (.const (.bool false)), none, []⟩, ⟨8, (some 4), .move (.tmp 12), none, []⟩])
 .ret)), [.tmp 4]⟩
/- slices.Contains[[]int,int] -/
def pf68 : PF := ⟨9, (.seq (.region false [⟨0, (some 4), .move (.const (.bool false)), none, []⟩])
 (.seq (.region false [⟨0, (some 5), .move (.tmp 0), none, []⟩, ⟨1, (some 6), .move (.tmp 1), none, []⟩, ⟨2, (some 7), .callF 52 [(.tmp 5), (.tmp 6)], none, []⟩, ⟨3, (some 8), .ibin .geq .i64 (.tmp 7) (.const (.int .i64 0)), none, []⟩, ⟨4, (some 4), .move (.tmp 8), none, []⟩])
 .ret)), [.tmp 4]⟩
/- bellarmine/lock.canAscend -/
def pf71 : PF := ⟨11, (.seq (.region false [⟨0, (some 4), .move (.const (.bool false)), none, []⟩])
 (.seq (.region false [⟨0, (some 5), .move (.tmp 0), none, []⟩, ⟨1, (some 6), .move (.tmp 0), none, []⟩, ⟨2, (some 7), .len (.tmp 6), none, []⟩, ⟨3, (some 8), .callF 81 [(.tmp 7)], none, []⟩, ⟨4, (some 9), .move (.tmp 1), none, []⟩, ⟨5, (some 10), .callF 80 [(.tmp 5), (.tmp 8), (.tmp 9), (.func 101)], none, []⟩, ⟨6, (some 4), .move (.tmp 10), none, []⟩])
 .ret)), [.tmp 4]⟩
/- bellarmine/lock.lists -/
def pf77 : PF := ⟨8, (.seq (.region false [⟨0, (some 3), .box 3 (.tmp 0), none, []⟩, ⟨1, (some 4), .box 3 (.tmp 1), none, []⟩, ⟨2, (some 5), .box 83 (.tmp 2), none, []⟩, ⟨3, (some 6), .move (.const .nilFunc), none, []⟩])
 (.seq (.region false [⟨0, (some 7), .mkF (.func 103) #[] #[(.tmp 3), (.tmp 4), (.tmp 5)], none, []⟩, ⟨1, (some 6), .move (.tmp 7), none, []⟩])
 .ret)), [.tmp 6]⟩
/- bellarmine/lock.fetch -/
def pf80 : PF := ⟨50, (.seq (.region false [⟨0, (some 8), .move (.const (.bool false)), none, []⟩])
 (.seq (.region false [⟨0, (some 9), .new 109 [(.slice none 0 0), (.slice none 0 0)], none, []⟩])
 (.seq (.seq (.region false [⟨0, (some 12), .move (.tmp 0), none, []⟩, ⟨1, (some 13), .len (.tmp 12), none, []⟩, ⟨2, (some 14), .move (.const (.int .i64 0)), none, []⟩])
 (.block 0 (.loop (.seq (.region false [⟨0, (some 15), .ibin .lss .i64 (.tmp 14) (.tmp 13), none, []⟩])
 (.seq (.cond (.tmp 15) .skip (.exit 0))
 (.seq (.block 1 (.seq (.region false [⟨0, (some 16), .move (.tmp 14), none, []⟩, ⟨1, (some 17), .idxS (.tmp 12) (.tmp 14) 1, none, []⟩, ⟨2, (some 18), .load1 (.tmp 17), none, []⟩, ⟨3, (some 10), .move (.tmp 16), none, []⟩, ⟨4, (some 11), .move (.tmp 18), none, []⟩])
 (.seq (.region false [⟨0, (some 19), .move (.tmp 2), none, []⟩, ⟨1, (some 20), .move (.tmp 10), none, []⟩, ⟨2, (some 21), .idxS (.tmp 19) (.tmp 20) 1, none, []⟩, ⟨3, (some 22), .load1 (.tmp 21), none, []⟩, ⟨4, (some 23), .idxA (.tmp 9) (.tmp 22) 2 1, none, []⟩, ⟨5, (some 24), .move (.tmp 11), none, []⟩, ⟨6, (some 25), .callF 98 [(.tmp 23), (.tmp 24)], none, []⟩])
 (.seq (.region false [⟨0, (some 26), .move (.tmp 3), none, []⟩, ⟨1, (some 27), .move (.tmp 11), none, []⟩, ⟨2, (some 28), .callV (.tmp 26) [(.const (.int .u8 105)), (.tmp 27)], none, []⟩])
 (.block 2 (.loop (.seq (.seq (.region true [⟨0, (some 29), .move (.tmp 1), none, []⟩, ⟨1, (some 30), .len (.tmp 29), none, []⟩, ⟨2, (some 31), .ibin .gtr .i64 (.tmp 30) (.const (.int .i64 0)), none, []⟩, ⟨3, (some 32), .move (.tmp 31), none, []⟩, ⟨4, (some 33), .slA (.tmp 9) 2 1 none none none, (some (32, true)), []⟩, ⟨5, (some 34), .move (.tmp 1), (some (32, true)), []⟩, ⟨6, (some 35), .idxS (.tmp 34) (.const (.int .i64 0)) 1, (some (32, true)), []⟩, ⟨7, (some 36), .load1 (.tmp 35), (some (32, true)), []⟩, ⟨8, (some 37), .callF 108 [(.tmp 33), (.tmp 36)], (some (32, true)), []⟩, ⟨9, (some 38), .pick (.tmp 32) (.tmp 37) (.const (.bool false)), none, []⟩])
 (.cond (.tmp 38) .skip (.exit 2)))
 (.block 3 (.seq (.region false [⟨0, (some 39), .move (.tmp 3), none, []⟩, ⟨1, (some 40), .move (.tmp 1), none, []⟩, ⟨2, (some 41), .idxS (.tmp 40) (.const (.int .i64 0)) 1, none, []⟩, ⟨3, (some 42), .load1 (.tmp 41), none, []⟩, ⟨4, (some 43), .callV (.tmp 39) [(.const (.int .u8 111)), (.tmp 42)], none, []⟩])
 (.region false [⟨0, (some 44), .move (.tmp 1), none, []⟩, ⟨1, (some 45), .slS (.tmp 44) 1 (some (.const (.int .i64 1))) none none, none, []⟩, ⟨2, (some 1), .move (.tmp 45), none, []⟩]))))))))))
 (.region false [⟨0, (some 46), .ibin .add .i64 (.tmp 14) (.const (.int .i64 1)), none, []⟩, ⟨1, (some 14), .move (.tmp 46), none, []⟩])))))))
 (.seq (.region false [⟨0, (some 47), .move (.tmp 1), none, []⟩, ⟨1, (some 48), .len (.tmp 47), none, []⟩, ⟨2, (some 49), .ibin .eql .i64 (.tmp 48) (.const (.int .i64 0)), none, []⟩, ⟨3, (some 8), .move (.tmp 49), none, []⟩])
 .ret)))), [.tmp 8]⟩
/- bellarmine/lock.upTo -/
def pf81 : PF := ⟨15, (.seq (.region false [⟨0, (some 2), .move (.const (.slice none 0 0)), none, []⟩])
 (.seq (.region false [⟨0, (some 3), .move (.const (.slice none 0 0)), none, []⟩])
 (.seq (.seq (.region false [⟨0, (some 5), .move (.tmp 0), none, []⟩, ⟨1, (some 6), .move (.const (.int .i64 0)), none, []⟩])
 (.block 0 (.loop (.seq (.region false [⟨0, (some 7), .ibin .lss .i64 (.tmp 6) (.tmp 5), none, []⟩])
 (.seq (.cond (.tmp 7) .skip (.exit 0))
 (.seq (.block 1 (.seq (.region false [⟨0, (some 8), .move (.tmp 6), none, []⟩, ⟨1, (some 4), .move (.tmp 8), none, []⟩])
 (.region false [⟨0, (some 9), .move (.tmp 3), none, []⟩, ⟨1, (some 10), .move (.tmp 4), none, []⟩, ⟨2, (some 11), .bldS 3 1 [(.int .i64 0)] 1 [(0, (.tmp 10))], none, []⟩, ⟨3, (some 12), .append 3 1 (.tmp 9) (.tmp 11), none, []⟩, ⟨4, (some 3), .move (.tmp 12), none, []⟩])))
 (.region false [⟨0, (some 13), .ibin .add .i64 (.tmp 6) (.const (.int .i64 1)), none, []⟩, ⟨1, (some 6), .move (.tmp 13), none, []⟩])))))))
 (.seq (.region false [⟨0, (some 14), .move (.tmp 3), none, []⟩, ⟨1, (some 2), .move (.tmp 14), none, []⟩])
 .ret)))), [.tmp 2]⟩
/- bellarmine/lock.isAny -/
def pf85 : PF := ⟨5, (.seq (.region false [⟨0, (some 4), .move (.const (.bool false)), none, []⟩])
 (.seq (.region false [⟨0, (some 4), .move (.const (.bool true)), none, []⟩])
 .ret)), [.tmp 4]⟩
/- slices.Delete[[]int,int] -/
def pf87 : PF := ⟨33, (.seq (.region false [⟨0, (some 6), .move (.const (.slice none 0 0)), none, []⟩])
 (.seq (.region false [⟨0, (some 8), .move (.tmp 0), none, []⟩, ⟨1, (some 9), .move (.tmp 1), none, []⟩, ⟨2, (some 10), .move (.tmp 2), none, []⟩, ⟨3, (some 11), .move (.tmp 0), none, []⟩, ⟨4, (some 12), .len (.tmp 11), none, []⟩, ⟨5, (some 13), .slS (.tmp 8) 1 (some (.tmp 9)) (some (.tmp 10)) (some (.tmp 12)), none, []⟩])
 (.seq (.seq (.region false [⟨0, (some 14), .move (.tmp 1), none, []⟩, ⟨1, (some 15), .move (.tmp 2), none, []⟩, ⟨2, (some 16), .ibin .eql .i64 (.tmp 14) (.tmp 15), none, []⟩])
 (.cond (.tmp 16) (.seq (.region false [⟨0, (some 17), .move (.tmp 0), none, []⟩, ⟨1, (some 6), .move (.tmp 17), none, []⟩])
 .ret) .skip))
 (.seq (.region false [⟨0, (some 18), .move (.tmp 0), none, []⟩, ⟨1, (some 19), .len (.tmp 18), none, []⟩, ⟨2, (some 7), .move (.tmp 19), none, []⟩])
 (.seq (.region true [⟨0, (some 20), .move (.tmp 0), none, []⟩, ⟨1, (some 21), .move (.tmp 1), none, []⟩, ⟨2, (some 22), .slS (.tmp 20) 1 none (some (.tmp 21)) none, none, []⟩, ⟨3, (some 23), .move (.tmp 0), none, []⟩, ⟨4, (some 24), .move (.tmp 2), none, []⟩, ⟨5, (some 25), .slS (.tmp 23) 1 (some (.tmp 24)) none none, none, []⟩, ⟨6, (some 26), .append 3 1 (.tmp 22) (.tmp 25), none, []⟩, ⟨7, (some 0), .move (.tmp 26), none, []⟩])
 (.seq (.region false [⟨0, (some 27), .move (.tmp 0), none, []⟩, ⟨1, (some 28), .move (.tmp 0), none, []⟩, ⟨2, (some 29), .len (.tmp 28), none, []⟩, ⟨3, (some 30), .move (.tmp 7), none, []⟩, ⟨4, (some 31), .slS (.tmp 27) 1 (some (.tmp 29)) (some (.tmp 30)) none, none, []⟩, ⟨5, none, .clr 1 [(.int .i64 0)] (.tmp 31), none, []⟩])
 (.seq (.region false [⟨0, (some 32), .move (.tmp 0), none, []⟩, ⟨1, (some 6), .move (.tmp 32), none, []⟩])
 .ret))))))), [.tmp 6]⟩
/- cmp.Less[int] -/
def pf89 : PF := ⟨17, (.seq (.region false [⟨0, (some 4), .move (.const (.bool false)), none, []⟩])
 (.seq (.region false [⟨0, (some 5), .move (.tmp 0), none, []⟩, ⟨1, (some 6), .callF 109 [(.tmp 5)], none, []⟩, ⟨2, (some 7), .move (.tmp 6), none, []⟩, ⟨3, (some 8), .move (.tmp 1), (some (7, true)), []⟩, ⟨4, (some 9), .callF 109 [(.tmp 8)], (some (7, true)), []⟩, ⟨5, (some 10), .not (.tmp 9), (some (7, true)), []⟩, ⟨6, (some 11), .pick (.tmp 7) (.tmp 10) (.const (.bool false)), none, []⟩, ⟨7, (some 12), .move (.tmp 11), none, []⟩, ⟨8, (some 13), .move (.tmp 0), (some (12, false)), []⟩, ⟨9, (some 14), .move (.tmp 1), (some (12, false)), []⟩, ⟨10, (some 15), .ibin .lss .i64 (.tmp 13) (.tmp 14), (some (12, false)), []⟩, ⟨11, (some 16), .pick (.tmp 12) (.const (.bool true)) (.tmp 15), none, []⟩, ⟨12, (some 4), .move (.tmp 16), none, []⟩])
 .ret)), [.tmp 4]⟩
/- (*bellarmine/lock.basin[int]).isEmpty -/
def pf95 : PF := ⟨9, (.seq (.region false [⟨0, (some 2), .move (.const (.bool false)), none, []⟩])
 (.seq (.region false [⟨0, (some 3), .move (.tmp 0), none, []⟩, ⟨1, (some 4), .nilCheck (.tmp 3), none, []⟩, ⟨2, (some 5), .fieldAddr (.tmp 4) 0, none, []⟩, ⟨3, (some 6), .load1 (.tmp 5), none, []⟩, ⟨4, (some 7), .len (.tmp 6), none, []⟩, ⟨5, (some 8), .ibin .eql .i64 (.tmp 7) (.const (.int .i64 0)), none, []⟩, ⟨6, (some 2), .move (.tmp 8), none, []⟩])
 .ret)), [.tmp 2]⟩
/- (*bellarmine/lock.basin[int]).last -/
def pf96 : PF := ⟨15, (.seq (.region false [⟨0, (some 2), .move (.const (.int .i64 0)), none, []⟩])
 (.seq (.region true [⟨0, (some 3), .move (.tmp 0), none, []⟩, ⟨1, (some 4), .nilCheck (.tmp 3), none, []⟩, ⟨2, (some 5), .fieldAddr (.tmp 4) 0, none, []⟩, ⟨3, (some 6), .load1 (.tmp 5), none, []⟩, ⟨4, (some 7), .move (.tmp 0), none, []⟩, ⟨5, (some 8), .nilCheck (.tmp 7), none, []⟩, ⟨6, (some 9), .fieldAddr (.tmp 8) 0, none, []⟩, ⟨7, (some 10), .load1 (.tmp 9), none, []⟩, ⟨8, (some 11), .len (.tmp 10), none, []⟩, ⟨9, (some 12), .ibin .sub .i64 (.tmp 11) (.const (.int .i64 1)), none, []⟩, ⟨10, (some 13), .idxS (.tmp 6) (.tmp 12) 1, none, []⟩, ⟨11, (some 14), .load1 (.tmp 13), none, []⟩, ⟨12, (some 2), .move (.tmp 14), none, []⟩])
 .ret)), [.tmp 2]⟩
/- (*bellarmine/lock.basin[int]).take -/
def pf97 : PF := ⟨21, (.seq (.region false [⟨0, (some 2), .move (.const (.int .i64 0)), none, []⟩])
 (.seq (.region false [⟨0, (some 4), .move (.tmp 0), none, []⟩, ⟨1, (some 5), .callF 96 [(.tmp 4)], none, []⟩, ⟨2, (some 3), .move (.tmp 5), none, []⟩])
 (.seq (.region true [⟨0, (some 6), .move (.tmp 0), none, []⟩, ⟨1, (some 7), .move (.tmp 0), none, []⟩, ⟨2, (some 8), .nilCheck (.tmp 7), none, []⟩, ⟨3, (some 9), .fieldAddr (.tmp 8) 0, none, []⟩, ⟨4, (some 10), .load1 (.tmp 9), none, []⟩, ⟨5, (some 11), .move (.tmp 0), none, []⟩, ⟨6, (some 12), .nilCheck (.tmp 11), none, []⟩, ⟨7, (some 13), .fieldAddr (.tmp 12) 0, none, []⟩, ⟨8, (some 14), .load1 (.tmp 13), none, []⟩, ⟨9, (some 15), .len (.tmp 14), none, []⟩, ⟨10, (some 16), .ibin .sub .i64 (.tmp 15) (.const (.int .i64 1)), none, []⟩, ⟨11, (some 17), .slS (.tmp 10) 1 none (some (.tmp 16)) none, none, []⟩, ⟨12, (some 18), .nilCheck (.tmp 6), none, []⟩, ⟨13, (some 19), .fieldAddr (.tmp 18) 0, none, []⟩, ⟨14, none, .store (.tmp 19) (.tmp 17) 1, none, []⟩])
 (.seq (.region false [⟨0, (some 20), .move (.tmp 3), none, []⟩, ⟨1, (some 2), .move (.tmp 20), none, []⟩])
 .ret)))), [.tmp 2]⟩
/- (*bellarmine/lock.basin[int]).bring -/
def pf98 : PF := ⟨14, (.region false [⟨0, (some 4), .move (.tmp 0), none, []⟩, ⟨1, (some 5), .move (.tmp 0), none, []⟩, ⟨2, (some 6), .nilCheck (.tmp 5), none, []⟩, ⟨3, (some 7), .fieldAddr (.tmp 6) 0, none, []⟩, ⟨4, (some 8), .load1 (.tmp 7), none, []⟩, ⟨5, (some 9), .move (.tmp 1), none, []⟩, ⟨6, (some 10), .bldS 3 1 [(.int .i64 0)] 1 [(0, (.tmp 9))], none, []⟩, ⟨7, (some 11), .append 3 1 (.tmp 8) (.tmp 10), none, []⟩, ⟨8, (some 12), .nilCheck (.tmp 4), none, []⟩, ⟨9, (some 13), .fieldAddr (.tmp 12) 0, none, []⟩, ⟨10, none, .store (.tmp 13) (.tmp 11) 1, none, []⟩]), []⟩
/- bellarmine/lock.canAscend$1 -/
def pf101 : PF := ⟨4, .skip, []⟩
/- bellarmine/lock.lists$1 -/
def pf103 : PF := ⟨36, (.seq (.region false [⟨0, (some 5), .new 108 [(.slice none 0 0)], none, []⟩])
 (.seq (.region false [⟨0, (some 8), .callF 104 [(.tmp 5), (.const (.slice none 0 0))], none, []⟩])
 (.block 0 (.loop (.seq (.seq (.region false [⟨0, (some 9), .callF 105 [(.tmp 5)], none, []⟩, ⟨1, (some 10), .not (.tmp 9), none, []⟩])
 (.cond (.tmp 10) .skip (.exit 0)))
 (.block 1 (.seq (.region false [⟨0, (some 11), .callF 106 [(.tmp 5)], none, []⟩, ⟨1, (some 6), .move (.tmp 11), none, []⟩])
 (.seq (.seq (.region false [⟨0, (some 12), .move (.tmp 6), none, []⟩, ⟨1, (some 13), .len (.tmp 12), none, []⟩, ⟨2, (some 14), .load1 (.tmp 1), none, []⟩, ⟨3, (some 15), .ibin .eql .i64 (.tmp 13) (.tmp 14), none, []⟩])
 (.cond (.tmp 15) (.seq (.seq (.region false [⟨0, (some 16), .move (.tmp 0), none, []⟩, ⟨1, (some 17), .move (.tmp 6), none, []⟩, ⟨2, (some 18), .callV (.tmp 16) [(.tmp 17)], none, []⟩, ⟨3, (some 19), .not (.tmp 18), none, []⟩])
 (.cond (.tmp 19) .ret .skip))
 (.exit 1)) .skip))
 (.seq (.region false [⟨0, (some 20), .load1 (.tmp 2), none, []⟩, ⟨1, (some 21), .ibin .sub .i64 (.tmp 20) (.const (.int .i64 1)), none, []⟩, ⟨2, (some 7), .move (.tmp 21), none, []⟩])
 (.block 2 (.loop (.seq (.seq (.region false [⟨0, (some 22), .move (.tmp 7), none, []⟩, ⟨1, (some 23), .ibin .geq .i64 (.tmp 22) (.const (.int .i64 0)), none, []⟩])
 (.cond (.tmp 23) .skip (.exit 2)))
 (.seq (.block 3 (.seq (.region false [⟨0, (some 26), .load1 (.tmp 3), none, []⟩, ⟨1, (some 27), .move (.tmp 6), none, []⟩, ⟨2, (some 28), .move (.tmp 7), none, []⟩, ⟨3, (some 29), .callV (.tmp 26) [(.tmp 27), (.tmp 28)], none, []⟩])
 (.cond (.tmp 29) (.region false [⟨0, (some 30), .move (.tmp 6), none, []⟩, ⟨1, (some 31), .callF 107 [(.tmp 30)], none, []⟩, ⟨2, (some 32), .move (.tmp 7), none, []⟩, ⟨3, (some 33), .bldS 3 1 [(.int .i64 0)] 1 [(0, (.tmp 32))], none, []⟩, ⟨4, (some 34), .append 3 1 (.tmp 31) (.tmp 33), none, []⟩, ⟨5, (some 35), .callF 104 [(.tmp 5), (.tmp 34)], none, []⟩]) .skip)))
 (.region false [⟨0, (some 24), .move (.tmp 7), none, []⟩, ⟨1, (some 25), .ibin .sub .i64 (.tmp 24) (.const (.int .i64 1)), none, []⟩, ⟨2, (some 7), .move (.tmp 25), none, []⟩])))))))))))))), []⟩
/- (*bellarmine/lock.basin[[]int]).bring -/
def pf104 : PF := ⟨14, (.region false [⟨0, (some 4), .move (.tmp 0), none, []⟩, ⟨1, (some 5), .move (.tmp 0), none, []⟩, ⟨2, (some 6), .nilCheck (.tmp 5), none, []⟩, ⟨3, (some 7), .fieldAddr (.tmp 6) 0, none, []⟩, ⟨4, (some 8), .load1 (.tmp 7), none, []⟩, ⟨5, (some 9), .move (.tmp 1), none, []⟩, ⟨6, (some 10), .bldS 22 1 [(.slice none 0 0)] 1 [(0, (.tmp 9))], none, []⟩, ⟨7, (some 11), .append 22 1 (.tmp 8) (.tmp 10), none, []⟩, ⟨8, (some 12), .nilCheck (.tmp 4), none, []⟩, ⟨9, (some 13), .fieldAddr (.tmp 12) 0, none, []⟩, ⟨10, none, .store (.tmp 13) (.tmp 11) 1, none, []⟩]), []⟩
/- (*bellarmine/lock.basin[[]int]).isEmpty -/
def pf105 : PF := ⟨9, (.seq (.region false [⟨0, (some 2), .move (.const (.bool false)), none, []⟩])
 (.seq (.region false [⟨0, (some 3), .move (.tmp 0), none, []⟩, ⟨1, (some 4), .nilCheck (.tmp 3), none, []⟩, ⟨2, (some 5), .fieldAddr (.tmp 4) 0, none, []⟩, ⟨3, (some 6), .load1 (.tmp 5), none, []⟩, ⟨4, (some 7), .len (.tmp 6), none, []⟩, ⟨5, (some 8), .ibin .eql .i64 (.tmp 7) (.const (.int .i64 0)), none, []⟩, ⟨6, (some 2), .move (.tmp 8), none, []⟩])
 .ret)), [.tmp 2]⟩
/- (*bellarmine/lock.basin[[]int]).take -/
def pf106 : PF := ⟨21, (.seq (.region false [⟨0, (some 2), .move (.const (.slice none 0 0)), none, []⟩])
 (.seq (.region false [⟨0, (some 4), .move (.tmp 0), none, []⟩, ⟨1, (some 5), .callF 120 [(.tmp 4)], none, []⟩, ⟨2, (some 3), .move (.tmp 5), none, []⟩])
 (.seq (.region true [⟨0, (some 6), .move (.tmp 0), none, []⟩, ⟨1, (some 7), .move (.tmp 0), none, []⟩, ⟨2, (some 8), .nilCheck (.tmp 7), none, []⟩, ⟨3, (some 9), .fieldAddr (.tmp 8) 0, none, []⟩, ⟨4, (some 10), .load1 (.tmp 9), none, []⟩, ⟨5, (some 11), .move (.tmp 0), none, []⟩, ⟨6, (some 12), .nilCheck (.tmp 11), none, []⟩, ⟨7, (some 13), .fieldAddr (.tmp 12) 0, none, []⟩, ⟨8, (some 14), .load1 (.tmp 13), none, []⟩, ⟨9, (some 15), .len (.tmp 14), none, []⟩, ⟨10, (some 16), .ibin .sub .i64 (.tmp 15) (.const (.int .i64 1)), none, []⟩, ⟨11, (some 17), .slS (.tmp 10) 1 none (some (.tmp 16)) none, none, []⟩, ⟨12, (some 18), .nilCheck (.tmp 6), none, []⟩, ⟨13, (some 19), .fieldAddr (.tmp 18) 0, none, []⟩, ⟨14, none, .store (.tmp 19) (.tmp 17) 1, none, []⟩])
 (.seq (.region false [⟨0, (some 20), .move (.tmp 3), none, []⟩, ⟨1, (some 2), .move (.tmp 20), none, []⟩])
 .ret)))), [.tmp 2]⟩
/- slices.Clone[[]int,int] -/
def pf107 : PF := ⟨8, (.seq (.region false [⟨0, (some 2), .move (.const (.slice none 0 0)), none, []⟩])
 (.seq (.seq (.region false [⟨0, (some 3), .move (.tmp 0), none, []⟩, ⟨1, (some 4), .nilEq false .sl (.tmp 3), none, []⟩])
 (.cond (.tmp 4) (.seq (.region false [⟨0, (some 2), .move (.const (.slice none 0 0)), none, []⟩])
 .ret) .skip))
 (.seq (.region false [⟨0, (some 5), .bldS 3 1 [] 0 [], none, []⟩, ⟨1, (some 6), .move (.tmp 0), none, []⟩, ⟨2, (some 7), .append 3 1 (.tmp 5) (.tmp 6), none, []⟩, ⟨3, (some 2), .move (.tmp 7), none, []⟩])
 .ret))), [.tmp 2]⟩
/- bellarmine/lock.takeLast -/
def pf108 : PF := ⟨27, (.seq (.region false [⟨0, (some 4), .move (.const (.bool false)), none, []⟩])
 (.seq (.seq (.region false [⟨0, (some 7), .move (.tmp 0), none, []⟩, ⟨1, (some 8), .len (.tmp 7), none, []⟩, ⟨2, (some 9), .move (.const (.int .i64 0)), none, []⟩])
 (.block 0 (.loop (.seq (.region false [⟨0, (some 10), .ibin .lss .i64 (.tmp 9) (.tmp 8), none, []⟩])
 (.seq (.cond (.tmp 10) .skip (.exit 0))
 (.seq (.block 1 (.seq (.region false [⟨0, (some 11), .move (.tmp 9), none, []⟩, ⟨1, (some 5), .move (.tmp 11), none, []⟩])
 (.seq (.region false [⟨0, (some 12), .move (.tmp 0), none, []⟩, ⟨1, (some 13), .move (.tmp 5), none, []⟩, ⟨2, (some 14), .idxS (.tmp 12) (.tmp 13) 1, none, []⟩, ⟨3, (some 6), .move (.tmp 14), none, []⟩])
 (.seq (.region false [⟨0, (some 15), .move (.tmp 6), none, []⟩, ⟨1, (some 16), .callF 95 [(.tmp 15)], none, []⟩, ⟨2, (some 17), .not (.tmp 16), none, []⟩, ⟨3, (some 18), .move (.tmp 17), none, []⟩, ⟨4, (some 19), .move (.tmp 6), (some (18, true)), []⟩, ⟨5, (some 20), .callF 96 [(.tmp 19)], (some (18, true)), []⟩, ⟨6, (some 21), .move (.tmp 1), (some (18, true)), []⟩, ⟨7, (some 22), .ibin .eql .i64 (.tmp 20) (.tmp 21), (some (18, true)), []⟩, ⟨8, (some 23), .pick (.tmp 18) (.tmp 22) (.const (.bool false)), none, []⟩])
 (.cond (.tmp 23) (.seq (.region false [⟨0, (some 24), .move (.tmp 6), none, []⟩, ⟨1, (some 25), .callF 97 [(.tmp 24)], none, []⟩])
 (.seq (.region false [⟨0, (some 4), .move (.const (.bool true)), none, []⟩])
 .ret)) .skip)))))
 (.region false [⟨0, (some 26), .ibin .add .i64 (.tmp 9) (.const (.int .i64 1)), none, []⟩, ⟨1, (some 9), .move (.tmp 26), none, []⟩])))))))
 (.seq (.region false [⟨0, (some 4), .move (.const (.bool false)), none, []⟩])
 .ret))), [.tmp 4]⟩
/- cmp.isNaN[int] -/
def pf109 : PF := ⟨6, (.seq (.region false [⟨0, (some 2), .move (.const (.bool false)), none, []⟩])
 (.seq (.region false [⟨0, (some 3), .move (.tmp 0), none, []⟩, ⟨1, (some 4), .move (.tmp 0), none, []⟩, ⟨2, (some 5), .ibin .neq .i64 (.tmp 3) (.tmp 4), none, []⟩, ⟨3, (some 2), .move (.tmp 5), none, []⟩])
 .ret)), [.tmp 2]⟩
/- (*bellarmine/lock.basin[[]int]).last -/
def pf120 : PF := ⟨15, (.seq (.region false [⟨0, (some 2), .move (.const (.slice none 0 0)), none, []⟩])
 (.seq (.region true [⟨0, (some 3), .move (.tmp 0), none, []⟩, ⟨1, (some 4), .nilCheck (.tmp 3), none, []⟩, ⟨2, (some 5), .fieldAddr (.tmp 4) 0, none, []⟩, ⟨3, (some 6), .load1 (.tmp 5), none, []⟩, ⟨4, (some 7), .move (.tmp 0), none, []⟩, ⟨5, (some 8), .nilCheck (.tmp 7), none, []⟩, ⟨6, (some 9), .fieldAddr (.tmp 8) 0, none, []⟩, ⟨7, (some 10), .load1 (.tmp 9), none, []⟩, ⟨8, (some 11), .len (.tmp 10), none, []⟩, ⟨9, (some 12), .ibin .sub .i64 (.tmp 11) (.const (.int .i64 1)), none, []⟩, ⟨10, (some 13), .idxS (.tmp 6) (.tmp 12) 1, none, []⟩, ⟨11, (some 14), .load1 (.tmp 13), none, []⟩, ⟨12, (some 2), .move (.tmp 14), none, []⟩])
 .ret)), [.tmp 2]⟩
def funcs : Tr PF := (.node none (.node none (.node none (.node none (.node none (.node none .nil (.node (some pf95) .nil .nil)) .nil) (.node (some pf23) (.node (some pf39) (.node (some pf71) .nil .nil) (.node (some pf103) .nil .nil)) (.node none (.node (some pf87) .nil .nil) .nil))) (.node none (.node none (.node none (.node (some pf67) .nil .nil) .nil) .nil) (.node none (.node none .nil (.node (some pf107) .nil .nil)) .nil))) (.node none (.node none (.node none (.node none .nil (.node (some pf97) .nil .nil)) (.node none (.node (some pf81) .nil .nil) .nil)) (.node (some pf25) (.node none .nil (.node (some pf105) .nil .nil)) (.node none (.node (some pf89) .nil .nil) .nil))) (.node (some pf13) (.node none (.node none .nil (.node (some pf101) .nil .nil)) (.node none (.node (some pf85) .nil .nil) .nil)) (.node none (.node (some pf45) (.node (some pf77) .nil .nil) (.node (some pf109) .nil .nil)) .nil)))) (.node none (.node none (.node none (.node none (.node none .nil (.node (some pf96) .nil .nil)) (.node none (.node (some pf80) .nil .nil) .nil)) (.node none (.node none .nil (.node (some pf104) .nil .nil)) (.node none .nil (.node (some pf120) .nil .nil)))) (.node none (.node none (.node none (.node (some pf68) .nil .nil) .nil) (.node (some pf52) .nil .nil)) (.node none (.node none .nil (.node (some pf108) .nil .nil)) .nil))) (.node none (.node none (.node none (.node none .nil (.node (some pf98) .nil .nil)) .nil) (.node none (.node (some pf42) .nil (.node (some pf106) .nil .nil)) .nil)) .nil)))
noncomputable def C : CW := ⟨{ P := Try.prog, funcs := funcs }, 15⟩
end Go.Proofs.Ytfnflkcjhefddaa.Lk
