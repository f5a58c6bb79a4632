/- The program's functions, prepared: written by program, checked below. -/
import Derived.Test.YtcfffhkabhmkmaaDoorSymMono
import Derived.Test.YtcfffhkabhmkmaaDoorJ2
import Derived.Test.YtcfffhkabhmkmaaDoorRows
namespace Go.Proofs.YtcfffhkabhmkmaaDoor.Ps
open Go Go.Abs
set_option maxRecDepth 100000
set_option maxHeartbeats 4000000
/- bellarmine/bellarminelaw12.PostPacked -/
def pf3 : PF := ⟨123, (.seq (.region false [⟨0, (some 1), .box 24 (.tmp 0), none, []⟩, ⟨1, (some 2), .move (.const (.bool false)), none, []⟩])
 (.seq (.region false [⟨0, (some 15), .loadN (.tmp 1) 11, none, []⟩, ⟨1, (some 16), .callF 8 [(.tmp 15), (.const (.int .i64 9))], none, []⟩, ⟨2, (some 14), .move (.tmp 16), none, []⟩, ⟨3, (some 17), .ext (.tmp 14) 0, none, []⟩, ⟨4, (some 18), .ext (.tmp 14) 1, none, []⟩, ⟨5, (some 3), .move (.tmp 17), none, []⟩, ⟨6, (some 4), .move (.tmp 18), none, []⟩])
 (.seq (.region false [⟨0, (some 5), .move (.const (.slice none 0 0)), none, []⟩, ⟨1, (some 6), .move (.const (.slice none 0 0)), none, []⟩])
 (.seq (.region false [⟨0, (some 7), .move (.const (.bool false)), none, []⟩])
 (.seq (.seq (.region false [⟨0, (some 19), .move (.tmp 3), none, []⟩, ⟨1, (some 20), .len (.tmp 19), none, []⟩, ⟨2, (some 21), .plain ⟨(some 21), .binOp .shl 29 (.const (.int .u64 1)) (.tmp 20) 3, 29, (String.ofList [Char.ofNat 111, Char.ofNat 117, Char.ofNat 116, Char.ofNat 114, Char.ofNat 105, Char.ofNat 103, Char.ofNat 104, Char.ofNat 116, Char.ofNat 46, Char.ofNat 103, Char.ofNat 111, Char.ofNat 58, Char.ofNat 54, Char.ofNat 54]), #[⟨1, .data⟩], none⟩, none, []⟩, ⟨3, (some 22), .move (.const (.int .u64 0)), none, []⟩])
 (.block 0 (.loop (.seq (.region false [⟨0, (some 23), .ibin .lss .u64 (.tmp 22) (.tmp 21), none, []⟩])
 (.seq (.cond (.tmp 23) .skip (.exit 0))
 (.seq (.block 1 (.seq (.region false [⟨0, (some 24), .move (.tmp 22), none, []⟩, ⟨1, (some 8), .move (.tmp 24), none, []⟩])
 (.seq (.region false [⟨0, (some 25), .move (.tmp 8), none, []⟩, ⟨1, (some 26), .callF 9 [(.tmp 25)], none, []⟩, ⟨2, (some 9), .move (.tmp 26), none, []⟩])
 (.seq (.seq (.region false [⟨0, (some 27), .move (.tmp 4), none, []⟩, ⟨1, (some 28), .move (.tmp 8), none, []⟩, ⟨2, (some 29), .callF 10 [(.tmp 27), (.tmp 28)], none, []⟩, ⟨3, (some 30), .move (.tmp 29), none, []⟩, ⟨4, (some 31), .move (.tmp 9), (some (30, true)), []⟩, ⟨5, (some 32), .move (.tmp 5), (some (30, true)), []⟩, ⟨6, (some 33), .move (.tmp 7), (some (30, true)), []⟩, ⟨7, (some 34), .callF 11 [(.tmp 31), (.tmp 32), (.tmp 33)], (some (30, true)), []⟩, ⟨8, (some 35), .pick (.tmp 30) (.tmp 34) (.const (.bool false)), none, []⟩])
 (.cond (.tmp 35) (.region false [⟨0, (some 36), .move (.tmp 9), none, []⟩, ⟨1, (some 5), .move (.tmp 36), none, []⟩, ⟨2, (some 7), .move (.const (.bool true)), none, []⟩]) .skip))
 (.seq (.region false [⟨0, (some 37), .move (.tmp 4), none, []⟩, ⟨1, (some 38), .move (.tmp 8), none, []⟩, ⟨2, (some 39), .callF 12 [(.tmp 37), (.tmp 38)], none, []⟩, ⟨3, (some 40), .move (.tmp 39), none, []⟩, ⟨4, (some 41), .move (.tmp 9), (some (40, true)), []⟩, ⟨5, (some 42), .len (.tmp 41), (some (40, true)), []⟩, ⟨6, (some 43), .move (.tmp 6), (some (40, true)), []⟩, ⟨7, (some 44), .len (.tmp 43), (some (40, true)), []⟩, ⟨8, (some 45), .ibin .gtr .i64 (.tmp 42) (.tmp 44), (some (40, true)), []⟩, ⟨9, (some 46), .move (.tmp 45), (some (40, true)), []⟩, ⟨10, (some 47), .move (.tmp 9), (some (46, false)), []⟩, ⟨11, (some 48), .len (.tmp 47), (some (46, false)), []⟩, ⟨12, (some 49), .move (.tmp 6), (some (46, false)), []⟩, ⟨13, (some 50), .len (.tmp 49), (some (46, false)), []⟩, ⟨14, (some 51), .ibin .eql .i64 (.tmp 48) (.tmp 50), (some (46, false)), []⟩, ⟨15, (some 52), .move (.tmp 51), (some (46, false)), []⟩, ⟨16, (some 53), .move (.tmp 9), (some (52, true)), []⟩, ⟨17, (some 54), .move (.tmp 6), (some (52, true)), []⟩, ⟨18, (some 55), .callF 13 [(.tmp 53), (.tmp 54)], (some (52, true)), []⟩, ⟨19, (some 56), .ibin .lss .i64 (.tmp 55) (.const (.int .i64 0)), (some (52, true)), []⟩, ⟨20, (some 57), .pick (.tmp 52) (.tmp 56) (.const (.bool false)), (some (46, false)), []⟩, ⟨21, (some 58), .pick (.tmp 46) (.const (.bool true)) (.tmp 57), (some (40, true)), []⟩, ⟨22, (some 59), .pick (.tmp 40) (.tmp 58) (.const (.bool false)), none, []⟩])
 (.cond (.tmp 59) (.region false [⟨0, (some 60), .move (.tmp 9), none, []⟩, ⟨1, (some 6), .move (.tmp 60), none, []⟩]) .skip))))))
 (.region false [⟨0, (some 61), .ibin .add .u64 (.tmp 22) (.const (.int .u64 1)), none, []⟩, ⟨1, (some 22), .move (.tmp 61), none, []⟩])))))))
 (.seq (.region false [⟨0, (some 63), .move (.tmp 3), none, []⟩, ⟨1, (some 64), .callF 14 [(.tmp 63)], none, []⟩, ⟨2, (some 62), .move (.tmp 64), none, []⟩, ⟨3, (some 65), .ext (.tmp 62) 0, none, []⟩, ⟨4, (some 66), .ext (.tmp 62) 1, none, []⟩, ⟨5, (some 10), .move (.tmp 65), none, []⟩, ⟨6, (some 11), .move (.tmp 66), none, []⟩])
 (.seq (.region false [⟨0, (some 68), .move (.tmp 3), none, []⟩, ⟨1, (some 69), .callF 15 [(.tmp 68)], none, []⟩, ⟨2, (some 67), .move (.tmp 69), none, []⟩, ⟨3, (some 70), .ext (.tmp 67) 0, none, []⟩, ⟨4, (some 71), .ext (.tmp 67) 1, none, []⟩, ⟨5, (some 12), .move (.tmp 70), none, []⟩, ⟨6, (some 13), .move (.tmp 71), none, []⟩])
 (.seq (.region false [⟨0, (some 72), .move (.tmp 11), none, []⟩, ⟨1, (some 73), .ibin .eql .i64 (.tmp 72) (.const (.int .i64 0)), none, []⟩, ⟨2, (some 74), .move (.tmp 73), none, []⟩, ⟨3, (some 75), .move (.tmp 13), (some (74, true)), []⟩, ⟨4, (some 76), .ibin .eql .i64 (.tmp 75) (.const (.int .i64 0)), (some (74, true)), []⟩, ⟨5, (some 77), .pick (.tmp 74) (.tmp 76) (.const (.bool false)), none, []⟩, ⟨6, (some 78), .move (.tmp 77), none, []⟩, ⟨7, (some 79), .move (.tmp 10), (some (78, true)), []⟩, ⟨8, (some 80), .move (.tmp 5), (some (78, true)), []⟩, ⟨9, (some 81), .callF 16 [(.tmp 79), (.tmp 80)], (some (78, true)), []⟩, ⟨10, (some 82), .pick (.tmp 78) (.tmp 81) (.const (.bool false)), none, []⟩, ⟨11, (some 83), .move (.tmp 82), none, []⟩, ⟨12, (some 84), .move (.tmp 12), (some (83, true)), []⟩, ⟨13, (some 85), .move (.tmp 6), (some (83, true)), []⟩, ⟨14, (some 86), .callF 16 [(.tmp 84), (.tmp 85)], (some (83, true)), []⟩, ⟨15, (some 87), .pick (.tmp 83) (.tmp 86) (.const (.bool false)), none, []⟩, ⟨16, (some 88), .move (.tmp 87), none, []⟩, ⟨17, (some 89), .move (.tmp 10), (some (88, true)), []⟩, ⟨18, (some 90), .len (.tmp 89), (some (88, true)), []⟩, ⟨19, (some 91), .move (.tmp 12), (some (88, true)), []⟩, ⟨20, (some 92), .len (.tmp 91), (some (88, true)), []⟩, ⟨21, (some 93), .ibin .eql .i64 (.tmp 90) (.tmp 92), (some (88, true)), []⟩, ⟨22, (some 94), .pick (.tmp 88) (.tmp 93) (.const (.bool false)), none, []⟩, ⟨23, (some 95), .move (.tmp 94), none, []⟩, ⟨24, (some 96), .move (.tmp 3), (some (95, true)), []⟩, ⟨25, (some 97), .len (.tmp 96), (some (95, true)), []⟩, ⟨26, (some 98), .ibin .lss .i64 (.tmp 97) (.const (.int .i64 2)), (some (95, true)), []⟩, ⟨27, (some 99), .move (.tmp 98), (some (95, true)), []⟩, ⟨28, (some 100), .move (.tmp 10), (some (99, false)), []⟩, ⟨29, (some 101), .len (.tmp 100), (some (99, false)), []⟩, ⟨30, (some 102), .ibin .mul .i64 (.const (.int .i64 2)) (.tmp 101), (some (99, false)), []⟩, ⟨31, (some 103), .move (.tmp 3), (some (99, false)), []⟩, ⟨32, (some 104), .len (.tmp 103), (some (99, false)), []⟩, ⟨33, (some 105), .ibin .leq .i64 (.tmp 102) (.tmp 104), (some (99, false)), []⟩, ⟨34, (some 106), .pick (.tmp 99) (.const (.bool true)) (.tmp 105), (some (95, true)), []⟩, ⟨35, (some 107), .pick (.tmp 95) (.tmp 106) (.const (.bool false)), none, []⟩, ⟨36, (some 108), .move (.tmp 107), none, []⟩, ⟨37, (some 109), .move (.tmp 3), (some (108, true)), []⟩, ⟨38, (some 110), .move (.tmp 10), (some (108, true)), []⟩, ⟨39, (some 111), .callF 17 [(.tmp 109), (.tmp 110)], (some (108, true)), []⟩, ⟨40, (some 112), .ibin .eql .i64 (.tmp 111) (.const (.int .i64 0)), (some (108, true)), []⟩, ⟨41, (some 113), .pick (.tmp 108) (.tmp 112) (.const (.bool false)), none, []⟩, ⟨42, (some 114), .move (.tmp 113), none, []⟩, ⟨43, (some 115), .move (.tmp 3), (some (114, true)), []⟩, ⟨44, (some 116), .move (.tmp 12), (some (114, true)), []⟩, ⟨45, (some 117), .callF 18 [(.tmp 115), (.tmp 116)], (some (114, true)), []⟩, ⟨46, (some 118), .ibin .eql .i64 (.tmp 117) (.const (.int .i64 0)), (some (114, true)), []⟩, ⟨47, (some 119), .pick (.tmp 114) (.tmp 118) (.const (.bool false)), none, []⟩, ⟨48, (some 120), .move (.tmp 119), none, []⟩, ⟨49, (some 121), .callF 19 [], (some (120, true)), []⟩, ⟨50, (some 122), .pick (.tmp 120) (.tmp 121) (.const (.bool false)), none, []⟩, ⟨51, (some 2), .move (.tmp 122), none, []⟩])
 .ret)))))))), [.tmp 2]⟩
/- bellarmine/bellarminelaw12.PostNamed -/
def pf7 : PF := ⟨218, (.seq (.region false [⟨0, (some 3), .box 24 (.tmp 0), none, []⟩, ⟨1, (some 6), .move (.const (.bool false)), none, []⟩])
 (.seq (.region false [⟨0, (some 31), .loadN (.tmp 3) 11, none, []⟩, ⟨1, (some 32), .callF 8 [(.tmp 31), (.const (.int .i64 10))], none, []⟩, ⟨2, (some 30), .move (.tmp 32), none, []⟩, ⟨3, (some 33), .ext (.tmp 30) 0, none, []⟩, ⟨4, (some 34), .ext (.tmp 30) 1, none, []⟩, ⟨5, (some 7), .move (.tmp 33), none, []⟩, ⟨6, (some 8), .move (.tmp 34), none, []⟩])
 (.seq (.region false [⟨0, (some 35), .move (.tmp 7), none, []⟩, ⟨1, (some 36), .len (.tmp 35), none, []⟩, ⟨2, (some 9), .move (.tmp 36), none, []⟩])
 (.seq (.region false [⟨0, (some 37), .move (.tmp 1), none, []⟩, ⟨1, (some 38), .plain ⟨(some 38), .convert 5 3 (.tmp 37), 3, (String.ofList [Char.ofNat 111, Char.ofNat 117, Char.ofNat 116, Char.ofNat 114, Char.ofNat 105, Char.ofNat 103, Char.ofNat 104, Char.ofNat 116, Char.ofNat 46, Char.ofNat 103, Char.ofNat 111, Char.ofNat 58, Char.ofNat 49, Char.ofNat 54, Char.ofNat 51]), #[⟨0, .data⟩], none⟩, none, []⟩, ⟨2, (some 39), .move (.tmp 9), none, []⟩, ⟨3, (some 40), .ibin .rem .i64 (.tmp 38) (.tmp 39), none, []⟩, ⟨4, (some 41), .bldS 3 1 [(.int .i64 0)] 1 [(0, (.tmp 40))], none, []⟩, ⟨5, (some 42), .callF 27 [(.tmp 41)], none, []⟩, ⟨6, (some 10), .move (.tmp 42), none, []⟩])
 (.seq (.region false [⟨0, (some 43), .bldS 3 1 [(.int .i64 0)] 1 [(0, (.const (.int .i64 (-1))))], none, []⟩, ⟨1, (some 44), .callF 27 [(.tmp 43)], none, []⟩, ⟨2, (some 11), .move (.tmp 44), none, []⟩])
 (.seq (.seq (.region false [⟨0, (some 12), .move (.const (.int .i64 0)), none, []⟩])
 (.block 0 (.loop (.seq (.seq (.region false [⟨0, (some 45), .move (.tmp 12), none, []⟩, ⟨1, (some 46), .move (.tmp 10), none, []⟩, ⟨2, (some 47), .len (.tmp 46), none, []⟩, ⟨3, (some 48), .ibin .lss .i64 (.tmp 45) (.tmp 47), none, []⟩])
 (.cond (.tmp 48) .skip (.exit 0)))
 (.seq (.block 1 (.seq (.region false [⟨0, (some 51), .move (.tmp 8), none, []⟩, ⟨1, (some 52), .move (.tmp 10), none, []⟩, ⟨2, (some 53), .move (.tmp 12), none, []⟩, ⟨3, (some 54), .idxS (.tmp 52) (.tmp 53) 1, none, []⟩, ⟨4, (some 55), .load1 (.tmp 54), none, []⟩, ⟨5, (some 56), .idxS (.tmp 51) (.tmp 55) 1, none, []⟩, ⟨6, (some 57), .load1 (.tmp 56), none, []⟩, ⟨7, (some 58), .callF 9 [(.tmp 57)], none, []⟩, ⟨8, (some 13), .move (.tmp 58), none, []⟩])
 (.seq (.seq (.region false [⟨0, (some 59), .move (.tmp 2), none, []⟩])
 (.cond (.tmp 59) (.region false [⟨0, (some 60), .move (.tmp 13), none, []⟩, ⟨1, (some 61), .callF 28 [(.tmp 60)], none, []⟩]) .skip))
 (.seq (.region false [⟨0, (some 62), .move (.tmp 13), none, []⟩, ⟨1, (some 63), .len (.tmp 62), none, []⟩, ⟨2, (some 64), .move (.const (.int .i64 0)), none, []⟩])
 (.block 2 (.loop (.seq (.region false [⟨0, (some 65), .ibin .lss .i64 (.tmp 64) (.tmp 63), none, []⟩])
 (.seq (.cond (.tmp 65) .skip (.exit 2))
 (.seq (.block 3 (.seq (.region false [⟨0, (some 66), .idxS (.tmp 62) (.tmp 64) 1, none, []⟩, ⟨1, (some 67), .load1 (.tmp 66), none, []⟩, ⟨2, (some 15), .move (.tmp 67), none, []⟩])
 (.seq (.region false [⟨0, (some 68), .move (.tmp 10), none, []⟩, ⟨1, (some 69), .move (.tmp 15), none, []⟩, ⟨2, (some 70), .callF 29 [(.tmp 68), (.tmp 69)], none, []⟩, ⟨3, (some 71), .not (.tmp 70), none, []⟩])
 (.cond (.tmp 71) (.region false [⟨0, (some 72), .move (.tmp 10), none, []⟩, ⟨1, (some 73), .move (.tmp 15), none, []⟩, ⟨2, (some 74), .bldS 3 1 [(.int .i64 0)] 1 [(0, (.tmp 73))], none, []⟩, ⟨3, (some 75), .append 3 1 (.tmp 72) (.tmp 74), none, []⟩, ⟨4, (some 76), .move (.tmp 11), none, []⟩, ⟨5, (some 77), .move (.tmp 12), none, []⟩, ⟨6, (some 78), .bldS 3 1 [(.int .i64 0)] 1 [(0, (.tmp 77))], none, []⟩, ⟨7, (some 79), .append 3 1 (.tmp 76) (.tmp 78), none, []⟩, ⟨8, (some 10), .move (.tmp 75), none, []⟩, ⟨9, (some 11), .move (.tmp 79), none, []⟩]) .skip))))
 (.region false [⟨0, (some 80), .ibin .add .i64 (.tmp 64) (.const (.int .i64 1)), none, []⟩, ⟨1, (some 64), .move (.tmp 80), none, []⟩]))))))))))
 (.region false [⟨0, (some 49), .move (.tmp 12), none, []⟩, ⟨1, (some 50), .ibin .add .i64 (.tmp 49) (.const (.int .i64 1)), none, []⟩, ⟨2, (some 12), .move (.tmp 50), none, []⟩]))))))
 (.seq (.region false [⟨0, (some 82), .move (.tmp 7), none, []⟩, ⟨1, (some 83), .callF 14 [(.tmp 82)], none, []⟩, ⟨2, (some 81), .move (.tmp 83), none, []⟩, ⟨3, (some 84), .ext (.tmp 81) 0, none, []⟩, ⟨4, (some 85), .ext (.tmp 81) 1, none, []⟩, ⟨5, (some 16), .move (.tmp 84), none, []⟩, ⟨6, (some 17), .move (.tmp 85), none, []⟩])
 (.seq (.region false [⟨0, (some 87), .move (.tmp 11), none, []⟩, ⟨1, (some 88), .callF 14 [(.tmp 87)], none, []⟩, ⟨2, (some 86), .move (.tmp 88), none, []⟩, ⟨3, (some 89), .ext (.tmp 86) 0, none, []⟩, ⟨4, (some 90), .ext (.tmp 86) 1, none, []⟩, ⟨5, (some 18), .move (.tmp 89), none, []⟩, ⟨6, (some 19), .move (.tmp 90), none, []⟩])
 (.seq (.seq (.region false [⟨0, (some 91), .move (.tmp 17), none, []⟩, ⟨1, (some 92), .ibin .neq .i64 (.tmp 91) (.const (.int .i64 0)), none, []⟩, ⟨2, (some 93), .move (.tmp 92), none, []⟩, ⟨3, (some 94), .move (.tmp 19), (some (93, false)), []⟩, ⟨4, (some 95), .ibin .neq .i64 (.tmp 94) (.const (.int .i64 0)), (some (93, false)), []⟩, ⟨5, (some 96), .pick (.tmp 93) (.const (.bool true)) (.tmp 95), none, []⟩, ⟨6, (some 97), .move (.tmp 96), none, []⟩, ⟨7, (some 98), .move (.tmp 16), (some (97, false)), []⟩, ⟨8, (some 99), .len (.tmp 98), (some (97, false)), []⟩, ⟨9, (some 100), .move (.tmp 18), (some (97, false)), []⟩, ⟨10, (some 101), .len (.tmp 100), (some (97, false)), []⟩, ⟨11, (some 102), .ibin .neq .i64 (.tmp 99) (.tmp 101), (some (97, false)), []⟩, ⟨12, (some 103), .pick (.tmp 97) (.const (.bool true)) (.tmp 102), none, []⟩])
 (.cond (.tmp 103) (.seq (.region false [⟨0, (some 6), .move (.const (.bool false)), none, []⟩])
 .ret) .skip))
 (.seq (.region false [⟨0, (some 105), .move (.tmp 7), none, []⟩, ⟨1, (some 106), .callF 15 [(.tmp 105)], none, []⟩, ⟨2, (some 104), .move (.tmp 106), none, []⟩, ⟨3, (some 107), .ext (.tmp 104) 0, none, []⟩, ⟨4, (some 108), .ext (.tmp 104) 1, none, []⟩, ⟨5, (some 16), .move (.tmp 107), none, []⟩, ⟨6, (some 17), .move (.tmp 108), none, []⟩])
 (.seq (.region false [⟨0, (some 110), .move (.tmp 11), none, []⟩, ⟨1, (some 111), .callF 15 [(.tmp 110)], none, []⟩, ⟨2, (some 109), .move (.tmp 111), none, []⟩, ⟨3, (some 112), .ext (.tmp 109) 0, none, []⟩, ⟨4, (some 113), .ext (.tmp 109) 1, none, []⟩, ⟨5, (some 18), .move (.tmp 112), none, []⟩, ⟨6, (some 19), .move (.tmp 113), none, []⟩])
 (.seq (.seq (.region false [⟨0, (some 114), .move (.tmp 17), none, []⟩, ⟨1, (some 115), .ibin .neq .i64 (.tmp 114) (.const (.int .i64 0)), none, []⟩, ⟨2, (some 116), .move (.tmp 115), none, []⟩, ⟨3, (some 117), .move (.tmp 19), (some (116, false)), []⟩, ⟨4, (some 118), .ibin .neq .i64 (.tmp 117) (.const (.int .i64 0)), (some (116, false)), []⟩, ⟨5, (some 119), .pick (.tmp 116) (.const (.bool true)) (.tmp 118), none, []⟩, ⟨6, (some 120), .move (.tmp 119), none, []⟩, ⟨7, (some 121), .move (.tmp 16), (some (120, false)), []⟩, ⟨8, (some 122), .len (.tmp 121), (some (120, false)), []⟩, ⟨9, (some 123), .move (.tmp 18), (some (120, false)), []⟩, ⟨10, (some 124), .len (.tmp 123), (some (120, false)), []⟩, ⟨11, (some 125), .ibin .neq .i64 (.tmp 122) (.tmp 124), (some (120, false)), []⟩, ⟨12, (some 126), .pick (.tmp 120) (.const (.bool true)) (.tmp 125), none, []⟩])
 (.cond (.tmp 126) (.seq (.region false [⟨0, (some 6), .move (.const (.bool false)), none, []⟩])
 .ret) .skip))
 (.seq (.region false [⟨0, (some 128), .move (.tmp 7), none, []⟩, ⟨1, (some 129), .callF 22 [(.tmp 128)], none, []⟩, ⟨2, (some 127), .move (.tmp 129), none, []⟩, ⟨3, (some 130), .ext (.tmp 127) 0, none, []⟩, ⟨4, (some 131), .ext (.tmp 127) 1, none, []⟩, ⟨5, (some 20), .move (.tmp 130), none, []⟩, ⟨6, (some 17), .move (.tmp 131), none, []⟩])
 (.seq (.region false [⟨0, (some 133), .move (.tmp 11), none, []⟩, ⟨1, (some 134), .callF 22 [(.tmp 133)], none, []⟩, ⟨2, (some 132), .move (.tmp 134), none, []⟩, ⟨3, (some 135), .ext (.tmp 132) 0, none, []⟩, ⟨4, (some 136), .ext (.tmp 132) 1, none, []⟩, ⟨5, (some 21), .move (.tmp 135), none, []⟩, ⟨6, (some 19), .move (.tmp 136), none, []⟩])
 (.seq (.region false [⟨0, (some 138), .move (.tmp 7), none, []⟩, ⟨1, (some 139), .callF 23 [(.tmp 138)], none, []⟩, ⟨2, (some 137), .move (.tmp 139), none, []⟩, ⟨3, (some 140), .ext (.tmp 137) 0, none, []⟩, ⟨4, (some 141), .ext (.tmp 137) 1, none, []⟩, ⟨5, (some 22), .move (.tmp 140), none, []⟩, ⟨6, (some 23), .move (.tmp 141), none, []⟩])
 (.seq (.region false [⟨0, (some 143), .move (.tmp 11), none, []⟩, ⟨1, (some 144), .callF 23 [(.tmp 143)], none, []⟩, ⟨2, (some 142), .move (.tmp 144), none, []⟩, ⟨3, (some 145), .ext (.tmp 142) 0, none, []⟩, ⟨4, (some 146), .ext (.tmp 142) 1, none, []⟩, ⟨5, (some 24), .move (.tmp 145), none, []⟩, ⟨6, (some 25), .move (.tmp 146), none, []⟩])
 (.seq (.seq (.region false [⟨0, (some 147), .move (.tmp 17), none, []⟩, ⟨1, (some 148), .ibin .neq .i64 (.tmp 147) (.const (.int .i64 0)), none, []⟩, ⟨2, (some 149), .move (.tmp 148), none, []⟩, ⟨3, (some 150), .move (.tmp 19), (some (149, false)), []⟩, ⟨4, (some 151), .ibin .neq .i64 (.tmp 150) (.const (.int .i64 0)), (some (149, false)), []⟩, ⟨5, (some 152), .pick (.tmp 149) (.const (.bool true)) (.tmp 151), none, []⟩, ⟨6, (some 153), .move (.tmp 152), none, []⟩, ⟨7, (some 154), .move (.tmp 23), (some (153, false)), []⟩, ⟨8, (some 155), .ibin .neq .i64 (.tmp 154) (.const (.int .i64 0)), (some (153, false)), []⟩, ⟨9, (some 156), .pick (.tmp 153) (.const (.bool true)) (.tmp 155), none, []⟩, ⟨10, (some 157), .move (.tmp 156), none, []⟩, ⟨11, (some 158), .move (.tmp 25), (some (157, false)), []⟩, ⟨12, (some 159), .ibin .neq .i64 (.tmp 158) (.const (.int .i64 0)), (some (157, false)), []⟩, ⟨13, (some 160), .pick (.tmp 157) (.const (.bool true)) (.tmp 159), none, []⟩, ⟨14, (some 161), .move (.tmp 160), none, []⟩, ⟨15, (some 162), .move (.tmp 20), (some (161, false)), []⟩, ⟨16, (some 163), .move (.tmp 21), (some (161, false)), []⟩, ⟨17, (some 164), .ibin .neq .i64 (.tmp 162) (.tmp 163), (some (161, false)), []⟩, ⟨18, (some 165), .pick (.tmp 161) (.const (.bool true)) (.tmp 164), none, []⟩, ⟨19, (some 166), .move (.tmp 165), none, []⟩, ⟨20, (some 167), .move (.tmp 22), (some (166, false)), []⟩, ⟨21, (some 168), .move (.tmp 24), (some (166, false)), []⟩, ⟨22, (some 169), .ibin .neq .i64 (.tmp 167) (.tmp 168), (some (166, false)), []⟩, ⟨23, (some 170), .pick (.tmp 166) (.const (.bool true)) (.tmp 169), none, []⟩])
 (.cond (.tmp 170) (.seq (.region false [⟨0, (some 6), .move (.const (.bool false)), none, []⟩])
 .ret) .skip))
 (.seq (.region false [⟨0, (some 172), .move (.tmp 7), none, []⟩, ⟨1, (some 173), .callF 24 [(.tmp 172)], none, []⟩, ⟨2, (some 171), .move (.tmp 173), none, []⟩, ⟨3, (some 174), .ext (.tmp 171) 0, none, []⟩, ⟨4, (some 175), .ext (.tmp 171) 1, none, []⟩, ⟨5, (some 26), .move (.tmp 174), none, []⟩, ⟨6, (some 17), .move (.tmp 175), none, []⟩])
 (.seq (.region false [⟨0, (some 177), .move (.tmp 11), none, []⟩, ⟨1, (some 178), .callF 24 [(.tmp 177)], none, []⟩, ⟨2, (some 176), .move (.tmp 178), none, []⟩, ⟨3, (some 179), .ext (.tmp 176) 0, none, []⟩, ⟨4, (some 180), .ext (.tmp 176) 1, none, []⟩, ⟨5, (some 27), .move (.tmp 179), none, []⟩, ⟨6, (some 19), .move (.tmp 180), none, []⟩])
 (.seq (.seq (.region false [⟨0, (some 181), .move (.tmp 17), none, []⟩, ⟨1, (some 182), .ibin .neq .i64 (.tmp 181) (.const (.int .i64 0)), none, []⟩, ⟨2, (some 183), .move (.tmp 182), none, []⟩, ⟨3, (some 184), .move (.tmp 19), (some (183, false)), []⟩, ⟨4, (some 185), .ibin .neq .i64 (.tmp 184) (.const (.int .i64 0)), (some (183, false)), []⟩, ⟨5, (some 186), .pick (.tmp 183) (.const (.bool true)) (.tmp 185), none, []⟩, ⟨6, (some 187), .move (.tmp 186), none, []⟩, ⟨7, (some 188), .move (.tmp 26), (some (187, false)), []⟩, ⟨8, (some 189), .len (.tmp 188), (some (187, false)), []⟩, ⟨9, (some 190), .move (.tmp 27), (some (187, false)), []⟩, ⟨10, (some 191), .len (.tmp 190), (some (187, false)), []⟩, ⟨11, (some 192), .ibin .neq .i64 (.tmp 189) (.tmp 191), (some (187, false)), []⟩, ⟨12, (some 193), .pick (.tmp 187) (.const (.bool true)) (.tmp 192), none, []⟩])
 (.cond (.tmp 193) (.seq (.region false [⟨0, (some 6), .move (.const (.bool false)), none, []⟩])
 .ret) .skip))
 (.seq (.seq (.region false [⟨0, (some 194), .move (.tmp 27), none, []⟩, ⟨1, (some 195), .len (.tmp 194), none, []⟩, ⟨2, (some 196), .move (.const (.int .i64 0)), none, []⟩])
 (.block 4 (.loop (.seq (.region false [⟨0, (some 197), .ibin .lss .i64 (.tmp 196) (.tmp 195), none, []⟩])
 (.seq (.cond (.tmp 197) .skip (.exit 4))
 (.seq (.block 5 (.seq (.region false [⟨0, (some 198), .idxS (.tmp 194) (.tmp 196) 1, none, []⟩, ⟨1, (some 199), .load1 (.tmp 198), none, []⟩, ⟨2, (some 29), .move (.tmp 199), none, []⟩])
 (.seq (.region false [⟨0, (some 200), .move (.tmp 29), none, []⟩, ⟨1, (some 201), .ibin .lss .i64 (.tmp 200) (.const (.int .i64 0)), none, []⟩, ⟨2, (some 202), .move (.tmp 201), none, []⟩, ⟨3, (some 203), .move (.tmp 29), (some (202, false)), []⟩, ⟨4, (some 204), .move (.tmp 9), (some (202, false)), []⟩, ⟨5, (some 205), .ibin .geq .i64 (.tmp 203) (.tmp 204), (some (202, false)), []⟩, ⟨6, (some 206), .pick (.tmp 202) (.const (.bool true)) (.tmp 205), none, []⟩, ⟨7, (some 207), .move (.tmp 206), none, []⟩, ⟨8, (some 208), .move (.tmp 26), (some (207, false)), []⟩, ⟨9, (some 209), .move (.tmp 10), (some (207, false)), []⟩, ⟨10, (some 210), .move (.tmp 29), (some (207, false)), []⟩, ⟨11, (some 211), .idxS (.tmp 209) (.tmp 210) 1, (some (207, false)), []⟩, ⟨12, (some 212), .load1 (.tmp 211), (some (207, false)), []⟩, ⟨13, (some 213), .callF 29 [(.tmp 208), (.tmp 212)], (some (207, false)), []⟩, ⟨14, (some 214), .not (.tmp 213), (some (207, false)), []⟩, ⟨15, (some 215), .pick (.tmp 207) (.const (.bool true)) (.tmp 214), none, []⟩])
 (.cond (.tmp 215) (.seq (.region false [⟨0, (some 6), .move (.const (.bool false)), none, []⟩])
 .ret) .skip))))
 (.region false [⟨0, (some 216), .ibin .add .i64 (.tmp 196) (.const (.int .i64 1)), none, []⟩, ⟨1, (some 196), .move (.tmp 216), none, []⟩])))))))
 (.seq (.region false [⟨0, (some 217), .callF 19 [], none, []⟩, ⟨1, (some 6), .move (.tmp 217), none, []⟩])
 .ret)))))))))))))))))))))), [.tmp 6]⟩
/- (bellarmine/bellarminelaw12.Coast).made -/
def pf8 : PF := ⟨53, (.seq (.region false [⟨0, (some 2), .box 24 (.tmp 0), none, []⟩, ⟨1, (some 4), .move (.const (.slice none 0 0)), none, []⟩, ⟨2, (some 5), .move (.const (.slice none 0 0)), none, []⟩])
 (.seq (.region false [⟨0, (some 11), .fieldAddr (.tmp 2) 0, none, []⟩, ⟨1, (some 12), .load1 (.tmp 11), none, []⟩, ⟨2, (some 13), .plain ⟨(some 13), .convert 5 3 (.tmp 12), 3, (String.ofList [Char.ofNat 111, Char.ofNat 117, Char.ofNat 116, Char.ofNat 114, Char.ofNat 105, Char.ofNat 103, Char.ofNat 104, Char.ofNat 116, Char.ofNat 46, Char.ofNat 103, Char.ofNat 111, Char.ofNat 58, Char.ofNat 50, Char.ofNat 49]), #[⟨1, .data⟩], none⟩, none, []⟩, ⟨3, (some 14), .move (.tmp 1), none, []⟩, ⟨4, (some 15), .ibin .rem .i64 (.tmp 13) (.tmp 14), none, []⟩, ⟨5, (some 16), .ibin .add .i64 (.const (.int .i64 1)) (.tmp 15), none, []⟩, ⟨6, (some 6), .move (.tmp 16), none, []⟩])
 (.seq (.region false [⟨0, (some 17), .bldS 3 1 [(.int .i64 0)] 1 [(0, (.const (.int .i64 (-1))))], none, []⟩, ⟨1, (some 18), .bldS 29 1 [(.int .u64 0)] 1 [(0, (.const (.int .u64 1)))], none, []⟩, ⟨2, (some 7), .move (.tmp 17), none, []⟩, ⟨3, (some 8), .move (.tmp 18), none, []⟩])
 (.seq (.seq (.region false [⟨0, (some 9), .move (.const (.int .i64 1)), none, []⟩])
 (.block 0 (.loop (.seq (.seq (.region false [⟨0, (some 19), .move (.tmp 9), none, []⟩, ⟨1, (some 20), .move (.tmp 6), none, []⟩, ⟨2, (some 21), .ibin .lss .i64 (.tmp 19) (.tmp 20), none, []⟩])
 (.cond (.tmp 21) .skip (.exit 0)))
 (.seq (.block 1 (.seq (.region false [⟨0, (some 24), .move (.tmp 9), none, []⟩, ⟨1, (some 25), .fieldAddr (.tmp 2) 1, none, []⟩, ⟨2, (some 26), .idxA (.tmp 25) (.tmp 24) 10 1, none, []⟩, ⟨3, (some 27), .load1 (.tmp 26), none, []⟩, ⟨4, (some 28), .plain ⟨(some 28), .convert 5 3 (.tmp 27), 3, (String.ofList [Char.ofNat 111, Char.ofNat 117, Char.ofNat 116, Char.ofNat 114, Char.ofNat 105, Char.ofNat 103, Char.ofNat 104, Char.ofNat 116, Char.ofNat 46, Char.ofNat 103, Char.ofNat 111, Char.ofNat 58, Char.ofNat 50, Char.ofNat 52]), #[⟨3, .data⟩], none⟩, none, []⟩, ⟨5, (some 29), .move (.tmp 9), none, []⟩, ⟨6, (some 30), .ibin .rem .i64 (.tmp 28) (.tmp 29), none, []⟩, ⟨7, (some 10), .move (.tmp 30), none, []⟩])
 (.seq (.region true [⟨0, (some 31), .move (.tmp 7), none, []⟩, ⟨1, (some 32), .move (.tmp 10), none, []⟩, ⟨4, (some 35), .move (.tmp 8), none, []⟩, ⟨5, (some 36), .move (.tmp 9), none, []⟩, ⟨6, (some 37), .plain ⟨(some 37), .binOp .shl 29 (.const (.int .u64 1)) (.tmp 36) 3, 29, (String.ofList [Char.ofNat 111, Char.ofNat 117, Char.ofNat 116, Char.ofNat 114, Char.ofNat 105, Char.ofNat 103, Char.ofNat 104, Char.ofNat 116, Char.ofNat 46, Char.ofNat 103, Char.ofNat 111, Char.ofNat 58, Char.ofNat 50, Char.ofNat 53]), #[⟨5, .data⟩], none⟩, none, []⟩, ⟨7, (some 38), .move (.tmp 10), none, []⟩, ⟨8, (some 39), .plain ⟨(some 39), .binOp .shl 29 (.const (.int .u64 1)) (.tmp 38) 3, 29, (String.ofList [Char.ofNat 111, Char.ofNat 117, Char.ofNat 116, Char.ofNat 114, Char.ofNat 105, Char.ofNat 103, Char.ofNat 104, Char.ofNat 116, Char.ofNat 46, Char.ofNat 103, Char.ofNat 111, Char.ofNat 58, Char.ofNat 50, Char.ofNat 53]), #[⟨7, .data⟩], none⟩, none, []⟩, ⟨9, (some 40), .ibin .or .u64 (.tmp 37) (.tmp 39), none, []⟩, ⟨2, (some 33), .bldS 3 1 [(.int .i64 0)] 1 [(0, (.tmp 32))], none, []⟩, ⟨3, (some 34), .append 3 1 (.tmp 31) (.tmp 33), none, []⟩, ⟨10, (some 41), .bldS 29 1 [(.int .u64 0)] 1 [(0, (.tmp 40))], none, []⟩, ⟨11, (some 42), .append 29 1 (.tmp 35) (.tmp 41), none, []⟩, ⟨12, (some 7), .move (.tmp 34), none, []⟩, ⟨13, (some 8), .move (.tmp 42), none, []⟩])
 (.region true [⟨0, (some 43), .move (.tmp 8), none, []⟩, ⟨1, (some 44), .move (.tmp 10), none, []⟩, ⟨2, (some 45), .idxS (.tmp 43) (.tmp 44) 1, none, []⟩, ⟨3, (some 46), .load1 (.tmp 45), none, []⟩, ⟨4, (some 47), .move (.tmp 9), none, []⟩, ⟨5, (some 48), .plain ⟨(some 48), .binOp .shl 29 (.const (.int .u64 1)) (.tmp 47) 3, 29, (String.ofList [Char.ofNat 111, Char.ofNat 117, Char.ofNat 116, Char.ofNat 114, Char.ofNat 105, Char.ofNat 103, Char.ofNat 104, Char.ofNat 116, Char.ofNat 46, Char.ofNat 103, Char.ofNat 111, Char.ofNat 58, Char.ofNat 50, Char.ofNat 54]), #[⟨4, .data⟩], none⟩, none, []⟩, ⟨6, (some 49), .ibin .or .u64 (.tmp 46) (.tmp 48), none, []⟩, ⟨7, (some 50), .idxS (.tmp 43) (.tmp 44) 1, none, []⟩, ⟨8, none, .store (.tmp 50) (.tmp 49) 1, none, []⟩]))))
 (.region false [⟨0, (some 22), .move (.tmp 9), none, []⟩, ⟨1, (some 23), .ibin .add .i64 (.tmp 22) (.const (.int .i64 1)), none, []⟩, ⟨2, (some 9), .move (.tmp 23), none, []⟩]))))))
 (.seq (.region false [⟨0, (some 51), .move (.tmp 7), none, []⟩, ⟨1, (some 52), .move (.tmp 8), none, []⟩, ⟨2, (some 4), .move (.tmp 51), none, []⟩, ⟨3, (some 5), .move (.tmp 52), none, []⟩])
 .ret))))), [.tmp 4, .tmp 5]⟩
/- bellarmine/bellarminelaw12.members -/
def pf9 : PF := ⟨16, (.seq (.region false [⟨0, (some 2), .move (.const (.slice none 0 0)), none, []⟩])
 (.seq (.region false [⟨0, (some 3), .move (.const (.slice none 0 0)), none, []⟩])
 (.seq (.block 0 (.loop (.seq (.seq (.region false [⟨0, (some 4), .move (.tmp 0), none, []⟩, ⟨1, (some 5), .ibin .neq .u64 (.tmp 4) (.const (.int .u64 0)), none, []⟩])
 (.cond (.tmp 5) .skip (.exit 0)))
 (.seq (.block 1 (.region false [⟨0, (some 10), .move (.tmp 3), none, []⟩, ⟨1, (some 11), .move (.tmp 0), none, []⟩, ⟨2, (some 12), .callF 30 [(.tmp 11)], none, []⟩, ⟨3, (some 13), .bldS 3 1 [(.int .i64 0)] 1 [(0, (.tmp 12))], none, []⟩, ⟨4, (some 14), .append 3 1 (.tmp 10) (.tmp 13), none, []⟩, ⟨5, (some 3), .move (.tmp 14), none, []⟩]))
 (.region false [⟨0, (some 6), .move (.tmp 0), none, []⟩, ⟨1, (some 7), .move (.tmp 0), none, []⟩, ⟨2, (some 8), .ibin .sub .u64 (.tmp 7) (.const (.int .u64 1)), none, []⟩, ⟨3, (some 9), .ibin .and .u64 (.tmp 6) (.tmp 8), none, []⟩, ⟨4, (some 0), .move (.tmp 9), none, []⟩])))))
 (.seq (.region false [⟨0, (some 15), .move (.tmp 3), none, []⟩, ⟨1, (some 2), .move (.tmp 15), none, []⟩])
 .ret)))), [.tmp 2]⟩
/- bellarmine/bellarminelaw12.guards -/
def pf10 : PF := ⟨9, (.seq (.region false [⟨0, (some 3), .box 29 (.tmp 1), none, []⟩, ⟨1, (some 4), .move (.const (.bool false)), none, []⟩])
 (.seq (.region false [⟨0, (some 5), .move (.tmp 0), none, []⟩, ⟨1, (some 6), .mkF (.func 32) #[] #[(.tmp 3)], none, []⟩, ⟨2, (some 7), .callF 31 [(.tmp 5), (.tmp 6)], none, []⟩, ⟨3, (some 8), .not (.tmp 7), none, []⟩, ⟨4, (some 4), .move (.tmp 8), none, []⟩])
 .ret)), [.tmp 4]⟩
/- bellarmine/bellarminelaw12.smaller -/
def pf11 : PF := ⟨29, (.seq (.region false [⟨0, (some 6), .move (.const (.bool false)), none, []⟩])
 (.seq (.region false [⟨0, (some 7), .move (.tmp 2), none, []⟩, ⟨1, (some 8), .not (.tmp 7), none, []⟩, ⟨2, (some 9), .move (.tmp 8), none, []⟩, ⟨3, (some 10), .move (.tmp 0), (some (9, false)), []⟩, ⟨4, (some 11), .len (.tmp 10), (some (9, false)), []⟩, ⟨5, (some 12), .move (.tmp 1), (some (9, false)), []⟩, ⟨6, (some 13), .len (.tmp 12), (some (9, false)), []⟩, ⟨7, (some 14), .ibin .lss .i64 (.tmp 11) (.tmp 13), (some (9, false)), []⟩, ⟨8, (some 15), .pick (.tmp 9) (.const (.bool true)) (.tmp 14), none, []⟩, ⟨9, (some 16), .move (.tmp 15), none, []⟩, ⟨10, (some 17), .move (.tmp 0), (some (16, false)), []⟩, ⟨11, (some 18), .len (.tmp 17), (some (16, false)), []⟩, ⟨12, (some 19), .move (.tmp 1), (some (16, false)), []⟩, ⟨13, (some 20), .len (.tmp 19), (some (16, false)), []⟩, ⟨14, (some 21), .ibin .eql .i64 (.tmp 18) (.tmp 20), (some (16, false)), []⟩, ⟨15, (some 22), .move (.tmp 21), (some (16, false)), []⟩, ⟨16, (some 23), .move (.tmp 0), (some (22, true)), []⟩, ⟨17, (some 24), .move (.tmp 1), (some (22, true)), []⟩, ⟨18, (some 25), .callF 13 [(.tmp 23), (.tmp 24)], (some (22, true)), []⟩, ⟨19, (some 26), .ibin .lss .i64 (.tmp 25) (.const (.int .i64 0)), (some (22, true)), []⟩, ⟨20, (some 27), .pick (.tmp 22) (.tmp 26) (.const (.bool false)), (some (16, false)), []⟩, ⟨21, (some 28), .pick (.tmp 16) (.const (.bool true)) (.tmp 27), none, []⟩, ⟨22, (some 6), .move (.tmp 28), none, []⟩])
 .ret)), [.tmp 6]⟩
/- bellarmine/bellarminelaw12.apart -/
def pf12 : PF := ⟨29, (.seq (.region false [⟨0, (some 4), .move (.const (.bool false)), none, []⟩])
 (.seq (.region false [⟨0, (some 5), .move (.const (.int .u64 0)), none, []⟩])
 (.seq (.seq (.region false [⟨0, (some 8), .move (.tmp 1), none, []⟩, ⟨1, (some 9), .callF 9 [(.tmp 8)], none, []⟩, ⟨2, (some 10), .len (.tmp 9), none, []⟩, ⟨3, (some 11), .move (.const (.int .i64 0)), none, []⟩])
 (.block 0 (.loop (.seq (.region false [⟨0, (some 12), .ibin .lss .i64 (.tmp 11) (.tmp 10), none, []⟩])
 (.seq (.cond (.tmp 12) .skip (.exit 0))
 (.seq (.block 1 (.seq (.region false [⟨0, (some 13), .idxS (.tmp 9) (.tmp 11) 1, none, []⟩, ⟨1, (some 14), .load1 (.tmp 13), none, []⟩, ⟨2, (some 7), .move (.tmp 14), none, []⟩])
 (.seq (.seq (.region false [⟨0, (some 15), .move (.tmp 5), none, []⟩, ⟨1, (some 16), .move (.tmp 0), none, []⟩, ⟨2, (some 17), .move (.tmp 7), none, []⟩, ⟨3, (some 18), .idxS (.tmp 16) (.tmp 17) 1, none, []⟩, ⟨4, (some 19), .load1 (.tmp 18), none, []⟩, ⟨5, (some 20), .ibin .and .u64 (.tmp 15) (.tmp 19), none, []⟩, ⟨6, (some 21), .ibin .neq .u64 (.tmp 20) (.const (.int .u64 0)), none, []⟩])
 (.cond (.tmp 21) (.seq (.region false [⟨0, (some 4), .move (.const (.bool false)), none, []⟩])
 .ret) .skip))
 (.region false [⟨0, (some 22), .move (.tmp 5), none, []⟩, ⟨1, (some 23), .move (.tmp 0), none, []⟩, ⟨2, (some 24), .move (.tmp 7), none, []⟩, ⟨3, (some 25), .idxS (.tmp 23) (.tmp 24) 1, none, []⟩, ⟨4, (some 26), .load1 (.tmp 25), none, []⟩, ⟨5, (some 27), .ibin .or .u64 (.tmp 22) (.tmp 26), none, []⟩, ⟨6, (some 5), .move (.tmp 27), none, []⟩]))))
 (.region false [⟨0, (some 28), .ibin .add .i64 (.tmp 11) (.const (.int .i64 1)), none, []⟩, ⟨1, (some 11), .move (.tmp 28), none, []⟩])))))))
 (.seq (.region false [⟨0, (some 4), .move (.const (.bool true)), none, []⟩])
 .ret)))), [.tmp 4]⟩
/- slices.Compare[[]int,int] -/
def pf13 : PF := ⟨36, (.seq (.region false [⟨0, (some 4), .move (.const (.int .i64 0)), none, []⟩])
 (.seq (.seq (.region false [⟨0, (some 9), .move (.tmp 0), none, []⟩, ⟨1, (some 10), .len (.tmp 9), none, []⟩, ⟨2, (some 11), .move (.const (.int .i64 0)), none, []⟩])
 (.block 0 (.loop (.seq (.region false [⟨0, (some 12), .ibin .lss .i64 (.tmp 11) (.tmp 10), none, []⟩])
 (.seq (.cond (.tmp 12) .skip (.exit 0))
 (.seq (.block 1 (.seq (.region false [⟨0, (some 13), .move (.tmp 11), none, []⟩, ⟨1, (some 14), .idxS (.tmp 9) (.tmp 11) 1, none, []⟩, ⟨2, (some 15), .load1 (.tmp 14), none, []⟩, ⟨3, (some 5), .move (.tmp 13), none, []⟩, ⟨4, (some 6), .move (.tmp 15), none, []⟩])
 (.seq (.seq (.region false [⟨0, (some 16), .move (.tmp 5), none, []⟩, ⟨1, (some 17), .move (.tmp 1), none, []⟩, ⟨2, (some 18), .len (.tmp 17), none, []⟩, ⟨3, (some 19), .ibin .geq .i64 (.tmp 16) (.tmp 18), none, []⟩])
 (.cond (.tmp 19) (.seq (.region false [⟨0, (some 4), .move (.const (.int .i64 1)), none, []⟩])
 .ret) .skip))
 (.seq (.region false [⟨0, (some 20), .move (.tmp 1), none, []⟩, ⟨1, (some 21), .move (.tmp 5), none, []⟩, ⟨2, (some 22), .idxS (.tmp 20) (.tmp 21) 1, none, []⟩, ⟨3, (some 23), .load1 (.tmp 22), none, []⟩, ⟨4, (some 7), .move (.tmp 23), none, []⟩])
 (.seq (.region false [⟨0, (some 24), .move (.tmp 6), none, []⟩, ⟨1, (some 25), .move (.tmp 7), none, []⟩, ⟨2, (some 26), .callF 33 [(.tmp 24), (.tmp 25)], none, []⟩, ⟨3, (some 8), .move (.tmp 26), none, []⟩])
 (.seq (.region false [⟨0, (some 27), .move (.tmp 8), none, []⟩, ⟨1, (some 28), .ibin .neq .i64 (.tmp 27) (.const (.int .i64 0)), none, []⟩])
 (.cond (.tmp 28) (.seq (.region false [⟨0, (some 29), .move (.tmp 8), none, []⟩, ⟨1, (some 4), .move (.tmp 29), none, []⟩])
 .ret) .skip)))))))
 (.region false [⟨0, (some 30), .ibin .add .i64 (.tmp 11) (.const (.int .i64 1)), none, []⟩, ⟨1, (some 11), .move (.tmp 30), none, []⟩])))))))
 (.seq (.seq (.region false [⟨0, (some 31), .move (.tmp 0), none, []⟩, ⟨1, (some 32), .len (.tmp 31), none, []⟩, ⟨2, (some 33), .move (.tmp 1), none, []⟩, ⟨3, (some 34), .len (.tmp 33), none, []⟩, ⟨4, (some 35), .ibin .lss .i64 (.tmp 32) (.tmp 34), none, []⟩])
 (.cond (.tmp 35) (.seq (.region false [⟨0, (some 4), .move (.const (.int .i64 (-1))), none, []⟩])
 .ret) .skip))
 (.seq (.region false [⟨0, (some 4), .move (.const (.int .i64 0)), none, []⟩])
 .ret)))), [.tmp 4]⟩
/- bellarmine/post.Fewest -/
def pf14 : PF := ⟨15, (.seq (.region false [⟨0, (some 2), .move (.const (.slice none 0 0)), none, []⟩, ⟨1, (some 3), .move (.const (.int .i64 0)), none, []⟩])
 (.seq (.seq (.region false [⟨0, (some 5), .move (.tmp 0), none, []⟩, ⟨1, (some 6), .callF 34 [(.tmp 5)], none, []⟩, ⟨2, (some 4), .move (.tmp 6), none, []⟩])
 (.seq (.region false [⟨0, (some 7), .move (.tmp 4), none, []⟩, ⟨1, (some 8), .ibin .neq .i64 (.tmp 7) (.const (.int .i64 0)), none, []⟩])
 (.cond (.tmp 8) (.seq (.region false [⟨0, (some 9), .move (.tmp 4), none, []⟩, ⟨1, (some 2), .move (.const (.slice none 0 0)), none, []⟩, ⟨2, (some 3), .move (.tmp 9), none, []⟩])
 .ret) .skip)))
 (.seq (.region false [⟨0, (some 10), .move (.tmp 0), none, []⟩, ⟨1, (some 11), .callF 35 [(.tmp 10)], none, []⟩, ⟨2, (some 12), .callF 36 [(.tmp 11)], none, []⟩, ⟨3, (some 13), .idxS (.tmp 12) (.const (.int .i64 0)) 1, none, []⟩, ⟨4, (some 14), .load1 (.tmp 13), none, []⟩, ⟨5, (some 2), .move (.tmp 14), none, []⟩, ⟨6, (some 3), .move (.const (.int .i64 0)), none, []⟩])
 .ret))), [.tmp 2, .tmp 3]⟩
/- bellarmine/post.Apart -/
def pf15 : PF := ⟨15, (.seq (.region false [⟨0, (some 2), .move (.const (.slice none 0 0)), none, []⟩, ⟨1, (some 3), .move (.const (.int .i64 0)), none, []⟩])
 (.seq (.seq (.region false [⟨0, (some 5), .move (.tmp 0), none, []⟩, ⟨1, (some 6), .callF 34 [(.tmp 5)], none, []⟩, ⟨2, (some 4), .move (.tmp 6), none, []⟩])
 (.seq (.region false [⟨0, (some 7), .move (.tmp 4), none, []⟩, ⟨1, (some 8), .ibin .neq .i64 (.tmp 7) (.const (.int .i64 0)), none, []⟩])
 (.cond (.tmp 8) (.seq (.region false [⟨0, (some 9), .move (.tmp 4), none, []⟩, ⟨1, (some 2), .move (.const (.slice none 0 0)), none, []⟩, ⟨2, (some 3), .move (.tmp 9), none, []⟩])
 .ret) .skip)))
 (.seq (.region false [⟨0, (some 10), .move (.tmp 0), none, []⟩, ⟨1, (some 11), .callF 37 [(.tmp 10)], none, []⟩, ⟨2, (some 12), .callF 36 [(.tmp 11)], none, []⟩, ⟨3, (some 13), .idxS (.tmp 12) (.const (.int .i64 0)) 1, none, []⟩, ⟨4, (some 14), .load1 (.tmp 13), none, []⟩, ⟨5, (some 2), .move (.tmp 14), none, []⟩, ⟨6, (some 3), .move (.const (.int .i64 0)), none, []⟩])
 .ret))), [.tmp 2, .tmp 3]⟩
/- bellarmine/bellarminelaw12.same -/
def pf16 : PF := ⟨26, (.seq (.region false [⟨0, (some 4), .move (.const (.bool false)), none, []⟩])
 (.seq (.seq (.region false [⟨0, (some 6), .move (.tmp 0), none, []⟩, ⟨1, (some 7), .len (.tmp 6), none, []⟩, ⟨2, (some 8), .move (.tmp 1), none, []⟩, ⟨3, (some 9), .len (.tmp 8), none, []⟩, ⟨4, (some 10), .ibin .neq .i64 (.tmp 7) (.tmp 9), none, []⟩])
 (.cond (.tmp 10) (.seq (.region false [⟨0, (some 4), .move (.const (.bool false)), none, []⟩])
 .ret) .skip))
 (.seq (.seq (.region false [⟨0, (some 5), .move (.const (.int .i64 0)), none, []⟩])
 (.block 0 (.loop (.seq (.seq (.region false [⟨0, (some 11), .move (.tmp 5), none, []⟩, ⟨1, (some 12), .move (.tmp 0), none, []⟩, ⟨2, (some 13), .len (.tmp 12), none, []⟩, ⟨3, (some 14), .ibin .lss .i64 (.tmp 11) (.tmp 13), none, []⟩])
 (.cond (.tmp 14) .skip (.exit 0)))
 (.seq (.block 1 (.seq (.region true [⟨0, (some 17), .move (.tmp 0), none, []⟩, ⟨1, (some 18), .move (.tmp 5), none, []⟩, ⟨2, (some 19), .idxS (.tmp 17) (.tmp 18) 1, none, []⟩, ⟨3, (some 20), .load1 (.tmp 19), none, []⟩, ⟨4, (some 21), .move (.tmp 1), none, []⟩, ⟨5, (some 22), .move (.tmp 5), none, []⟩, ⟨6, (some 23), .idxS (.tmp 21) (.tmp 22) 1, none, []⟩, ⟨7, (some 24), .load1 (.tmp 23), none, []⟩, ⟨8, (some 25), .ibin .neq .i64 (.tmp 20) (.tmp 24), none, []⟩])
 (.cond (.tmp 25) (.seq (.region false [⟨0, (some 4), .move (.const (.bool false)), none, []⟩])
 .ret) .skip)))
 (.region false [⟨0, (some 15), .move (.tmp 5), none, []⟩, ⟨1, (some 16), .ibin .add .i64 (.tmp 15) (.const (.int .i64 1)), none, []⟩, ⟨2, (some 5), .move (.tmp 16), none, []⟩]))))))
 (.seq (.region false [⟨0, (some 4), .move (.const (.bool true)), none, []⟩])
 .ret)))), [.tmp 4]⟩
/- bellarmine/post.Guards -/
def pf17 : PF := ⟨17, (.seq (.region false [⟨0, (some 4), .move (.const (.int .i64 0)), none, []⟩])
 (.seq (.seq (.region false [⟨0, (some 6), .move (.tmp 0), none, []⟩, ⟨1, (some 7), .move (.tmp 1), none, []⟩, ⟨2, (some 8), .callF 38 [(.tmp 6), (.tmp 7)], none, []⟩, ⟨3, (some 5), .move (.tmp 8), none, []⟩])
 (.seq (.region false [⟨0, (some 9), .move (.tmp 5), none, []⟩, ⟨1, (some 10), .ibin .neq .i64 (.tmp 9) (.const (.int .i64 0)), none, []⟩])
 (.cond (.tmp 10) (.seq (.region false [⟨0, (some 11), .move (.tmp 5), none, []⟩, ⟨1, (some 4), .move (.tmp 11), none, []⟩])
 .ret) .skip)))
 (.seq (.seq (.region false [⟨0, (some 12), .move (.tmp 0), none, []⟩, ⟨1, (some 13), .callF 39 [(.tmp 12)], none, []⟩, ⟨2, (some 14), .move (.tmp 1), none, []⟩, ⟨3, (some 15), .callF 40 [(.tmp 13), (.tmp 14)], none, []⟩, ⟨4, (some 16), .not (.tmp 15), none, []⟩])
 (.cond (.tmp 16) (.seq (.region false [⟨0, (some 4), .move (.const (.int .i64 14)), none, []⟩])
 .ret) .skip))
 (.seq (.region false [⟨0, (some 4), .move (.const (.int .i64 0)), none, []⟩])
 .ret)))), [.tmp 4]⟩
/- bellarmine/post.Proves -/
def pf18 : PF := ⟨17, (.seq (.region false [⟨0, (some 4), .move (.const (.int .i64 0)), none, []⟩])
 (.seq (.seq (.region false [⟨0, (some 6), .move (.tmp 0), none, []⟩, ⟨1, (some 7), .move (.tmp 1), none, []⟩, ⟨2, (some 8), .callF 38 [(.tmp 6), (.tmp 7)], none, []⟩, ⟨3, (some 5), .move (.tmp 8), none, []⟩])
 (.seq (.region false [⟨0, (some 9), .move (.tmp 5), none, []⟩, ⟨1, (some 10), .ibin .neq .i64 (.tmp 9) (.const (.int .i64 0)), none, []⟩])
 (.cond (.tmp 10) (.seq (.region false [⟨0, (some 11), .move (.tmp 5), none, []⟩, ⟨1, (some 4), .move (.tmp 11), none, []⟩])
 .ret) .skip)))
 (.seq (.seq (.region false [⟨0, (some 12), .move (.tmp 0), none, []⟩, ⟨1, (some 13), .callF 39 [(.tmp 12)], none, []⟩, ⟨2, (some 14), .move (.tmp 1), none, []⟩, ⟨3, (some 15), .callF 41 [(.tmp 13), (.tmp 14)], none, []⟩, ⟨4, (some 16), .not (.tmp 15), none, []⟩])
 (.cond (.tmp 16) (.seq (.region false [⟨0, (some 4), .move (.const (.int .i64 14)), none, []⟩])
 .ret) .skip))
 (.seq (.region false [⟨0, (some 4), .move (.const (.int .i64 0)), none, []⟩])
 .ret)))), [.tmp 4]⟩
/- bellarmine/post.Hand -/
def pf20 : PF := ⟨22, (.seq (.region false [⟨0, (some 4), .move (.const (.slice none 0 0)), none, []⟩, ⟨1, (some 5), .move (.const (.int .i64 0)), none, []⟩])
 (.seq (.seq (.region false [⟨0, (some 7), .move (.tmp 0), none, []⟩, ⟨1, (some 8), .callF 34 [(.tmp 7)], none, []⟩, ⟨2, (some 6), .move (.tmp 8), none, []⟩])
 (.seq (.region false [⟨0, (some 9), .move (.tmp 6), none, []⟩, ⟨1, (some 10), .ibin .neq .i64 (.tmp 9) (.const (.int .i64 0)), none, []⟩])
 (.cond (.tmp 10) (.seq (.region false [⟨0, (some 11), .move (.tmp 6), none, []⟩, ⟨1, (some 4), .move (.const (.slice none 0 0)), none, []⟩, ⟨2, (some 5), .move (.tmp 11), none, []⟩])
 .ret) .skip)))
 (.seq (.seq (.region false [⟨0, (some 12), .move (.tmp 0), none, []⟩, ⟨1, (some 13), .move (.tmp 1), none, []⟩, ⟨2, (some 14), .callF 45 [(.tmp 12), (.tmp 13)], none, []⟩, ⟨3, (some 15), .not (.tmp 14), none, []⟩])
 (.cond (.tmp 15) (.seq (.region false [⟨0, (some 4), .move (.const (.slice none 0 0)), none, []⟩, ⟨1, (some 5), .move (.const (.int .i64 2)), none, []⟩])
 .ret) .skip))
 (.seq (.region false [⟨0, (some 16), .move (.tmp 0), none, []⟩, ⟨1, (some 17), .callF 39 [(.tmp 16)], none, []⟩, ⟨2, (some 18), .move (.tmp 1), none, []⟩, ⟨3, (some 19), .idxS (.tmp 17) (.tmp 18) 1, none, []⟩, ⟨4, (some 20), .load1 (.tmp 19), none, []⟩, ⟨5, (some 21), .callF 46 [(.tmp 20)], none, []⟩, ⟨6, (some 4), .move (.tmp 21), none, []⟩, ⟨7, (some 5), .move (.const (.int .i64 0)), none, []⟩])
 .ret)))), [.tmp 4, .tmp 5]⟩
/- math/bits.OnesCount -/
def pf21 : PF := ⟨8, (.seq (.region false [⟨0, (some 2), .move (.const (.int .i64 0)), none, []⟩])
 (.seq (.cond (.const (.bool false)) (.seq (.region false [⟨0, (some 3), .move (.tmp 0), none, []⟩, ⟨1, (some 4), .plain ⟨(some 4), .convert 29 70 (.tmp 3), 70, (String.ofList [Char.ofNat 98, Char.ofNat 105, Char.ofNat 116, Char.ofNat 115, Char.ofNat 46, Char.ofNat 103, Char.ofNat 111, Char.ofNat 58, Char.ofNat 49, Char.ofNat 49, Char.ofNat 57]), #[⟨0, .data⟩], none⟩, none, []⟩, ⟨2, (some 5), .callF 47 [(.tmp 4)], none, []⟩, ⟨3, (some 2), .move (.tmp 5), none, []⟩])
 .ret) .skip)
 (.seq (.region false [⟨0, (some 6), .move (.tmp 0), none, []⟩, ⟨1, (some 7), .callF 48 [(.tmp 6)], none, []⟩, ⟨2, (some 2), .move (.tmp 7), none, []⟩])
 .ret))), [.tmp 2]⟩
/- bellarmine/post.Count -/
def pf22 : PF := ⟨18, (.seq (.region false [⟨0, (some 2), .move (.const (.int .i64 0)), none, []⟩, ⟨1, (some 3), .move (.const (.int .i64 0)), none, []⟩])
 (.seq (.seq (.region false [⟨0, (some 6), .move (.tmp 0), none, []⟩, ⟨1, (some 7), .callF 34 [(.tmp 6)], none, []⟩, ⟨2, (some 4), .move (.tmp 7), none, []⟩])
 (.seq (.region false [⟨0, (some 8), .move (.tmp 4), none, []⟩, ⟨1, (some 9), .ibin .neq .i64 (.tmp 8) (.const (.int .i64 0)), none, []⟩])
 (.cond (.tmp 9) (.seq (.region false [⟨0, (some 10), .move (.tmp 4), none, []⟩, ⟨1, (some 2), .move (.const (.int .i64 0)), none, []⟩, ⟨2, (some 3), .move (.tmp 10), none, []⟩])
 .ret) .skip)))
 (.seq (.region false [⟨0, (some 5), .new 3 [(.int .i64 0)], none, []⟩, ⟨1, none, .store (.tmp 5) (.const (.int .i64 0)) 1, none, []⟩])
 (.seq (.seq (.region false [⟨0, (some 11), .move (.tmp 0), none, []⟩, ⟨1, (some 12), .callF 35 [(.tmp 11)], none, []⟩, ⟨2, (some 13), .callF 49 [(.tmp 12)], none, []⟩])
 (.block 0 (.rangeFunc (.tmp 13) [14] .skip (.block 1 (.region false [⟨0, (some 15), .load1 (.tmp 5), none, []⟩, ⟨1, (some 16), .ibin .add .i64 (.tmp 15) (.const (.int .i64 1)), none, []⟩, ⟨2, none, .store (.tmp 5) (.tmp 16) 1, none, []⟩])))))
 (.seq (.region false [⟨0, (some 17), .load1 (.tmp 5), none, []⟩, ⟨1, (some 2), .move (.tmp 17), none, []⟩, ⟨2, (some 3), .move (.const (.int .i64 0)), none, []⟩])
 .ret))))), [.tmp 2, .tmp 3]⟩
/- bellarmine/post.Ways -/
def pf23 : PF := ⟨14, (.seq (.region false [⟨0, (some 2), .move (.const (.int .i64 0)), none, []⟩, ⟨1, (some 3), .move (.const (.int .i64 0)), none, []⟩])
 (.seq (.seq (.region false [⟨0, (some 5), .move (.tmp 0), none, []⟩, ⟨1, (some 6), .callF 34 [(.tmp 5)], none, []⟩, ⟨2, (some 4), .move (.tmp 6), none, []⟩])
 (.seq (.region false [⟨0, (some 7), .move (.tmp 4), none, []⟩, ⟨1, (some 8), .ibin .neq .i64 (.tmp 7) (.const (.int .i64 0)), none, []⟩])
 (.cond (.tmp 8) (.seq (.region false [⟨0, (some 9), .move (.tmp 4), none, []⟩, ⟨1, (some 2), .move (.const (.int .i64 0)), none, []⟩, ⟨2, (some 3), .move (.tmp 9), none, []⟩])
 .ret) .skip)))
 (.seq (.region false [⟨0, (some 10), .move (.tmp 0), none, []⟩, ⟨1, (some 11), .callF 35 [(.tmp 10)], none, []⟩, ⟨2, (some 12), .callF 36 [(.tmp 11)], none, []⟩, ⟨3, (some 13), .len (.tmp 12), none, []⟩, ⟨4, (some 2), .move (.tmp 13), none, []⟩, ⟨5, (some 3), .move (.const (.int .i64 0)), none, []⟩])
 .ret))), [.tmp 2, .tmp 3]⟩
/- bellarmine/post.Always -/
def pf24 : PF := ⟨20, (.seq (.region false [⟨0, (some 2), .move (.const (.slice none 0 0)), none, []⟩, ⟨1, (some 3), .move (.const (.int .i64 0)), none, []⟩])
 (.seq (.seq (.region false [⟨0, (some 6), .move (.tmp 0), none, []⟩, ⟨1, (some 7), .callF 34 [(.tmp 6)], none, []⟩, ⟨2, (some 4), .move (.tmp 7), none, []⟩])
 (.seq (.region false [⟨0, (some 8), .move (.tmp 4), none, []⟩, ⟨1, (some 9), .ibin .neq .i64 (.tmp 8) (.const (.int .i64 0)), none, []⟩])
 (.cond (.tmp 9) (.seq (.region false [⟨0, (some 10), .move (.tmp 4), none, []⟩, ⟨1, (some 2), .move (.const (.slice none 0 0)), none, []⟩, ⟨2, (some 3), .move (.tmp 10), none, []⟩])
 .ret) .skip)))
 (.seq (.region false [⟨0, (some 11), .move (.tmp 0), none, []⟩, ⟨1, (some 12), .callF 35 [(.tmp 11)], none, []⟩, ⟨2, (some 13), .callF 36 [(.tmp 12)], none, []⟩, ⟨3, (some 5), .move (.tmp 13), none, []⟩])
 (.seq (.region false [⟨0, (some 14), .move (.tmp 5), none, []⟩, ⟨1, (some 15), .move (.tmp 5), none, []⟩, ⟨2, (some 16), .len (.tmp 15), none, []⟩, ⟨3, (some 17), .move (.tmp 0), none, []⟩, ⟨4, (some 18), .len (.tmp 17), none, []⟩, ⟨5, (some 19), .callF 50 [(.tmp 14), (.tmp 16), (.tmp 18)], none, []⟩, ⟨6, (some 2), .move (.tmp 19), none, []⟩, ⟨7, (some 3), .move (.const (.int .i64 0)), none, []⟩])
 .ret)))), [.tmp 2, .tmp 3]⟩
/- bellarmine/post.Never -/
def pf25 : PF := ⟨16, (.seq (.region false [⟨0, (some 2), .move (.const (.slice none 0 0)), none, []⟩, ⟨1, (some 3), .move (.const (.int .i64 0)), none, []⟩])
 (.seq (.seq (.region false [⟨0, (some 5), .move (.tmp 0), none, []⟩, ⟨1, (some 6), .callF 34 [(.tmp 5)], none, []⟩, ⟨2, (some 4), .move (.tmp 6), none, []⟩])
 (.seq (.region false [⟨0, (some 7), .move (.tmp 4), none, []⟩, ⟨1, (some 8), .ibin .neq .i64 (.tmp 7) (.const (.int .i64 0)), none, []⟩])
 (.cond (.tmp 8) (.seq (.region false [⟨0, (some 9), .move (.tmp 4), none, []⟩, ⟨1, (some 2), .move (.const (.slice none 0 0)), none, []⟩, ⟨2, (some 3), .move (.tmp 9), none, []⟩])
 .ret) .skip)))
 (.seq (.region false [⟨0, (some 10), .move (.tmp 0), none, []⟩, ⟨1, (some 11), .callF 35 [(.tmp 10)], none, []⟩, ⟨2, (some 12), .callF 36 [(.tmp 11)], none, []⟩, ⟨3, (some 13), .move (.tmp 0), none, []⟩, ⟨4, (some 14), .len (.tmp 13), none, []⟩, ⟨5, (some 15), .callF 50 [(.tmp 12), (.const (.int .i64 0)), (.tmp 14)], none, []⟩, ⟨6, (some 2), .move (.tmp 15), none, []⟩, ⟨7, (some 3), .move (.const (.int .i64 0)), none, []⟩])
 .ret))), [.tmp 2, .tmp 3]⟩
/- bellarmine/post.Cheapest -/
def pf26 : PF := ⟨38, (.seq (.region false [⟨0, (some 4), .move (.const (.slice none 0 0)), none, []⟩, ⟨1, (some 5), .move (.const (.int .i64 0)), none, []⟩])
 (.seq (.seq (.region false [⟨0, (some 9), .move (.tmp 0), none, []⟩, ⟨1, (some 10), .callF 34 [(.tmp 9)], none, []⟩, ⟨2, (some 6), .move (.tmp 10), none, []⟩])
 (.seq (.region false [⟨0, (some 11), .move (.tmp 6), none, []⟩, ⟨1, (some 12), .ibin .neq .i64 (.tmp 11) (.const (.int .i64 0)), none, []⟩])
 (.cond (.tmp 12) (.seq (.region false [⟨0, (some 13), .move (.tmp 6), none, []⟩, ⟨1, (some 4), .move (.const (.slice none 0 0)), none, []⟩, ⟨2, (some 5), .move (.tmp 13), none, []⟩])
 .ret) .skip)))
 (.seq (.seq (.region false [⟨0, (some 14), .move (.tmp 1), none, []⟩, ⟨1, (some 15), .len (.tmp 14), none, []⟩, ⟨2, (some 16), .move (.tmp 0), none, []⟩, ⟨3, (some 17), .len (.tmp 16), none, []⟩, ⟨4, (some 18), .ibin .neq .i64 (.tmp 15) (.tmp 17), none, []⟩])
 (.cond (.tmp 18) (.seq (.region false [⟨0, (some 4), .move (.const (.slice none 0 0)), none, []⟩, ⟨1, (some 5), .move (.const (.int .i64 5)), none, []⟩])
 .ret) .skip))
 (.seq (.seq (.region false [⟨0, (some 19), .move (.tmp 1), none, []⟩, ⟨1, (some 20), .len (.tmp 19), none, []⟩, ⟨2, (some 21), .move (.const (.int .i64 0)), none, []⟩])
 (.block 0 (.loop (.seq (.region false [⟨0, (some 22), .ibin .lss .i64 (.tmp 21) (.tmp 20), none, []⟩])
 (.seq (.cond (.tmp 22) .skip (.exit 0))
 (.seq (.block 1 (.seq (.region false [⟨0, (some 23), .idxS (.tmp 19) (.tmp 21) 1, none, []⟩, ⟨1, (some 24), .load1 (.tmp 23), none, []⟩, ⟨2, (some 8), .move (.tmp 24), none, []⟩])
 (.seq (.region false [⟨0, (some 25), .move (.tmp 8), none, []⟩, ⟨1, (some 26), .ibin .lss .i64 (.tmp 25) (.const (.int .i64 1)), none, []⟩, ⟨2, (some 27), .move (.tmp 26), none, []⟩, ⟨3, (some 28), .move (.tmp 8), (some (27, false)), []⟩, ⟨4, (some 29), .ibin .gtr .i64 (.tmp 28) (.const (.int .i64 20)), (some (27, false)), []⟩, ⟨5, (some 30), .pick (.tmp 27) (.const (.bool true)) (.tmp 29), none, []⟩])
 (.cond (.tmp 30) (.seq (.region false [⟨0, (some 4), .move (.const (.slice none 0 0)), none, []⟩, ⟨1, (some 5), .move (.const (.int .i64 1)), none, []⟩])
 .ret) .skip))))
 (.region false [⟨0, (some 31), .ibin .add .i64 (.tmp 21) (.const (.int .i64 1)), none, []⟩, ⟨1, (some 21), .move (.tmp 31), none, []⟩])))))))
 (.seq (.region false [⟨0, (some 32), .move (.tmp 0), none, []⟩, ⟨1, (some 33), .move (.tmp 1), none, []⟩, ⟨2, (some 34), .callF 51 [(.tmp 32), (.tmp 33)], none, []⟩, ⟨3, (some 35), .callF 36 [(.tmp 34)], none, []⟩, ⟨4, (some 36), .idxS (.tmp 35) (.const (.int .i64 0)) 1, none, []⟩, ⟨5, (some 37), .load1 (.tmp 36), none, []⟩, ⟨6, (some 4), .move (.tmp 37), none, []⟩, ⟨7, (some 5), .move (.const (.int .i64 0)), none, []⟩])
 .ret))))), [.tmp 4, .tmp 5]⟩
/- bellarmine/bellarminelaw12.list -/
def pf27 : PF := ⟨4, (.seq (.region false [⟨0, (some 2), .move (.const (.slice none 0 0)), none, []⟩])
 (.seq (.region false [⟨0, (some 3), .move (.tmp 0), none, []⟩, ⟨1, (some 2), .move (.tmp 3), none, []⟩])
 .ret)), [.tmp 2]⟩
/- slices.Reverse[[]int,int] -/
def pf28 : PF := ⟨28, (.seq (.region false [⟨0, (some 4), .move (.tmp 0), none, []⟩, ⟨1, (some 5), .len (.tmp 4), none, []⟩, ⟨2, (some 6), .ibin .sub .i64 (.tmp 5) (.const (.int .i64 1)), none, []⟩, ⟨3, (some 2), .move (.const (.int .i64 0)), none, []⟩, ⟨4, (some 3), .move (.tmp 6), none, []⟩])
 (.block 0 (.loop (.seq (.seq (.region false [⟨0, (some 7), .move (.tmp 2), none, []⟩, ⟨1, (some 8), .move (.tmp 3), none, []⟩, ⟨2, (some 9), .ibin .lss .i64 (.tmp 7) (.tmp 8), none, []⟩])
 (.cond (.tmp 9) .skip (.exit 0)))
 (.seq (.block 1 (.region true [⟨0, (some 14), .move (.tmp 0), none, []⟩, ⟨1, (some 15), .move (.tmp 2), none, []⟩, ⟨2, (some 16), .move (.tmp 0), none, []⟩, ⟨3, (some 17), .move (.tmp 3), none, []⟩, ⟨4, (some 18), .move (.tmp 0), none, []⟩, ⟨5, (some 19), .move (.tmp 3), none, []⟩, ⟨6, (some 20), .idxS (.tmp 18) (.tmp 19) 1, none, []⟩, ⟨7, (some 21), .load1 (.tmp 20), none, []⟩, ⟨8, (some 22), .move (.tmp 0), none, []⟩, ⟨9, (some 23), .move (.tmp 2), none, []⟩, ⟨10, (some 24), .idxS (.tmp 22) (.tmp 23) 1, none, []⟩, ⟨11, (some 25), .load1 (.tmp 24), none, []⟩, ⟨12, (some 26), .idxS (.tmp 14) (.tmp 15) 1, none, []⟩, ⟨13, none, .store (.tmp 26) (.tmp 21) 1, none, []⟩, ⟨14, (some 27), .idxS (.tmp 16) (.tmp 17) 1, none, []⟩, ⟨15, none, .store (.tmp 27) (.tmp 25) 1, none, []⟩]))
 (.region false [⟨0, (some 10), .move (.tmp 2), none, []⟩, ⟨1, (some 11), .ibin .add .i64 (.tmp 10) (.const (.int .i64 1)), none, []⟩, ⟨2, (some 12), .move (.tmp 3), none, []⟩, ⟨3, (some 13), .ibin .sub .i64 (.tmp 12) (.const (.int .i64 1)), none, []⟩, ⟨4, (some 2), .move (.tmp 11), none, []⟩, ⟨5, (some 3), .move (.tmp 13), none, []⟩])))))), []⟩
/- slices.Contains[[]int,int] -/
def pf29 : PF := ⟨9, (.seq (.region false [⟨0, (some 4), .move (.const (.bool false)), none, []⟩])
 (.seq (.region false [⟨0, (some 5), .move (.tmp 0), none, []⟩, ⟨1, (some 6), .move (.tmp 1), none, []⟩, ⟨2, (some 7), .callF 52 [(.tmp 5), (.tmp 6)], none, []⟩, ⟨3, (some 8), .ibin .geq .i64 (.tmp 7) (.const (.int .i64 0)), none, []⟩, ⟨4, (some 4), .move (.tmp 8), none, []⟩])
 .ret)), [.tmp 4]⟩
/- math/bits.TrailingZeros -/
def pf30 : PF := ⟨8, (.seq (.region false [⟨0, (some 2), .move (.const (.int .i64 0)), none, []⟩])
 (.seq (.cond (.const (.bool false)) (.seq (.region false [⟨0, (some 3), .move (.tmp 0), none, []⟩, ⟨1, (some 4), .plain ⟨(some 4), .convert 29 70 (.tmp 3), 70, (String.ofList [Char.ofNat 98, Char.ofNat 105, Char.ofNat 116, Char.ofNat 115, Char.ofNat 46, Char.ofNat 103, Char.ofNat 111, Char.ofNat 58, Char.ofNat 54, Char.ofNat 49]), #[⟨0, .data⟩], none⟩, none, []⟩, ⟨2, (some 5), .callF 53 [(.tmp 4)], none, []⟩, ⟨3, (some 2), .move (.tmp 5), none, []⟩])
 .ret) .skip)
 (.seq (.region false [⟨0, (some 6), .move (.tmp 0), none, []⟩, ⟨1, (some 7), .callF 54 [(.tmp 6)], none, []⟩, ⟨2, (some 2), .move (.tmp 7), none, []⟩])
 .ret))), [.tmp 2]⟩
/- slices.ContainsFunc[[]uint,uint] -/
def pf31 : PF := ⟨9, (.seq (.region false [⟨0, (some 4), .move (.const (.bool false)), none, []⟩])
 (.seq (.region false [⟨0, (some 5), .move (.tmp 0), none, []⟩, ⟨1, (some 6), .move (.tmp 1), none, []⟩, ⟨2, (some 7), .callF 55 [(.tmp 5), (.tmp 6)], none, []⟩, ⟨3, (some 8), .ibin .geq .i64 (.tmp 7) (.const (.int .i64 0)), none, []⟩, ⟨4, (some 4), .move (.tmp 8), none, []⟩])
 .ret)), [.tmp 4]⟩
/- bellarmine/bellarminelaw12.guards$1 -/
def pf32 : PF := ⟨8, (.seq (.region false [⟨0, (some 3), .move (.const (.bool false)), none, []⟩])
 (.seq (.region false [⟨0, (some 4), .move (.tmp 0), none, []⟩, ⟨1, (some 5), .load1 (.tmp 1), none, []⟩, ⟨2, (some 6), .ibin .and .u64 (.tmp 4) (.tmp 5), none, []⟩, ⟨3, (some 7), .ibin .eql .u64 (.tmp 6) (.const (.int .u64 0)), none, []⟩, ⟨4, (some 3), .move (.tmp 7), none, []⟩])
 .ret)), [.tmp 3]⟩
/- cmp.Compare[int] -/
def pf33 : PF := ⟨20, (.seq (.region false [⟨0, (some 4), .move (.const (.int .i64 0)), none, []⟩])
 (.seq (.region false [⟨0, (some 7), .move (.tmp 0), none, []⟩, ⟨1, (some 8), .callF 56 [(.tmp 7)], none, []⟩, ⟨2, (some 5), .move (.tmp 8), none, []⟩])
 (.seq (.region false [⟨0, (some 9), .move (.tmp 1), none, []⟩, ⟨1, (some 10), .callF 56 [(.tmp 9)], none, []⟩, ⟨2, (some 6), .move (.tmp 10), none, []⟩])
 (.seq (.seq (.region false [⟨0, (some 11), .move (.tmp 5), none, []⟩])
 (.cond (.tmp 11) (.seq (.seq (.region false [⟨0, (some 12), .move (.tmp 6), none, []⟩])
 (.cond (.tmp 12) (.seq (.region false [⟨0, (some 4), .move (.const (.int .i64 0)), none, []⟩])
 .ret) .skip))
 (.seq (.region false [⟨0, (some 4), .move (.const (.int .i64 (-1))), none, []⟩])
 .ret)) .skip))
 (.seq (.seq (.region false [⟨0, (some 13), .move (.tmp 6), none, []⟩])
 (.cond (.tmp 13) (.seq (.region false [⟨0, (some 4), .move (.const (.int .i64 1)), none, []⟩])
 .ret) .skip))
 (.seq (.seq (.region false [⟨0, (some 14), .move (.tmp 0), none, []⟩, ⟨1, (some 15), .move (.tmp 1), none, []⟩, ⟨2, (some 16), .ibin .lss .i64 (.tmp 14) (.tmp 15), none, []⟩])
 (.cond (.tmp 16) (.seq (.region false [⟨0, (some 4), .move (.const (.int .i64 (-1))), none, []⟩])
 .ret) .skip))
 (.seq (.seq (.region false [⟨0, (some 17), .move (.tmp 0), none, []⟩, ⟨1, (some 18), .move (.tmp 1), none, []⟩, ⟨2, (some 19), .ibin .gtr .i64 (.tmp 17) (.tmp 18), none, []⟩])
 (.cond (.tmp 19) (.seq (.region false [⟨0, (some 4), .move (.const (.int .i64 1)), none, []⟩])
 .ret) .skip))
 (.seq (.region false [⟨0, (some 4), .move (.const (.int .i64 0)), none, []⟩])
 .ret)))))))), [.tmp 4]⟩
/- bellarmine/post.Check -/
def pf34 : PF := ⟨23, (.seq (.region false [⟨0, (some 2), .move (.const (.int .i64 0)), none, []⟩])
 (.seq (.seq (.region false [⟨0, (some 4), .move (.tmp 0), none, []⟩, ⟨1, (some 5), .len (.tmp 4), none, []⟩, ⟨2, (some 6), .ibin .eql .i64 (.tmp 5) (.const (.int .i64 0)), none, []⟩])
 (.cond (.tmp 6) (.seq (.region false [⟨0, (some 2), .move (.const (.int .i64 4)), none, []⟩])
 .ret) .skip))
 (.seq (.seq (.region false [⟨0, (some 7), .move (.tmp 0), none, []⟩, ⟨1, (some 8), .len (.tmp 7), none, []⟩, ⟨2, (some 9), .ibin .gtr .i64 (.tmp 8) (.const (.int .i64 10)), none, []⟩])
 (.cond (.tmp 9) (.seq (.region false [⟨0, (some 2), .move (.const (.int .i64 3)), none, []⟩])
 .ret) .skip))
 (.seq (.seq (.region false [⟨0, (some 10), .move (.tmp 0), none, []⟩, ⟨1, (some 11), .len (.tmp 10), none, []⟩, ⟨2, (some 12), .move (.const (.int .i64 0)), none, []⟩])
 (.block 0 (.loop (.seq (.region false [⟨0, (some 13), .ibin .lss .i64 (.tmp 12) (.tmp 11), none, []⟩])
 (.seq (.cond (.tmp 13) .skip (.exit 0))
 (.seq (.block 1 (.seq (.region false [⟨0, (some 14), .move (.tmp 12), none, []⟩, ⟨1, (some 3), .move (.tmp 14), none, []⟩])
 (.seq (.region false [⟨0, (some 15), .move (.tmp 0), none, []⟩, ⟨1, (some 16), .move (.tmp 3), none, []⟩, ⟨2, (some 17), .idxS (.tmp 15) (.tmp 16) 1, none, []⟩, ⟨3, (some 18), .load1 (.tmp 17), none, []⟩, ⟨4, (some 19), .move (.tmp 3), none, []⟩, ⟨5, (some 20), .callF 57 [(.tmp 18), (.tmp 19)], none, []⟩, ⟨6, (some 21), .not (.tmp 20), none, []⟩])
 (.cond (.tmp 21) (.seq (.region false [⟨0, (some 2), .move (.const (.int .i64 2)), none, []⟩])
 .ret) .skip))))
 (.region false [⟨0, (some 22), .ibin .add .i64 (.tmp 12) (.const (.int .i64 1)), none, []⟩, ⟨1, (some 12), .move (.tmp 22), none, []⟩])))))))
 (.seq (.region false [⟨0, (some 2), .move (.const (.int .i64 0)), none, []⟩])
 .ret))))), [.tmp 2]⟩
/- bellarmine/post.byNumber -/
def pf35 : PF := ⟨9, (.seq (.region false [⟨0, (some 2), .new 61 [(.int .i64 0), .nilFunc, .nilFunc], none, []⟩])
 (.seq (.region false [⟨0, (some 3), .move (.tmp 0), none, []⟩, ⟨1, (some 4), .len (.tmp 3), none, []⟩, ⟨2, (some 5), .move (.tmp 0), none, []⟩, ⟨3, (some 6), .callF 39 [(.tmp 5)], none, []⟩, ⟨4, (some 7), .mkF (.func 40) #[(.tmp 6)] #[], none, []⟩, ⟨5, (some 8), .bldT [(.int .i64 0), .nilFunc, .nilFunc] [(0, 1), (1, 1), (2, 1)] [(0, (.tmp 4)), (1, (.tmp 7)), (2, (.func 58))], none, []⟩, ⟨6, none, .store (.tmp 2) (.tmp 8) 3, none, []⟩])
 .ret)), [.cell 2 (some 3)]⟩
/- (bellarmine/post.rating).best -/
def pf36 : PF := ⟨31, (.seq (.region false [⟨0, (some 1), .box 61 (.tmp 0), none, []⟩, ⟨1, (some 2), .move (.const (.slice none 0 0)), none, []⟩])
 (.seq (.region false [⟨0, (some 3), .new 57 [(.slice none 0 0)], none, []⟩])
 (.seq (.region false [⟨0, (some 4), .new 3 [(.int .i64 0)], none, []⟩, ⟨1, none, .store (.tmp 4) (.const (.int .i64 0)) 1, none, []⟩])
 (.seq (.seq (.region false [⟨0, (some 7), .loadN (.tmp 1) 3, none, []⟩, ⟨1, (some 8), .callF 49 [(.tmp 7)], none, []⟩])
 (.block 0 (.rangeFunc (.tmp 8) [9] (.region false [⟨0, (some 5), .move (.tmp 9), none, []⟩]) (.block 1 (.seq (.region false [⟨0, (some 10), .loadN (.tmp 1) 3, none, []⟩, ⟨1, (some 11), .move (.tmp 5), none, []⟩, ⟨2, (some 12), .callF 59 [(.tmp 10), (.tmp 11)], none, []⟩, ⟨3, (some 6), .move (.tmp 12), none, []⟩])
 (.seq (.seq (.region false [⟨0, (some 13), .load1 (.tmp 3), none, []⟩, ⟨1, (some 14), .len (.tmp 13), none, []⟩, ⟨2, (some 15), .ibin .eql .i64 (.tmp 14) (.const (.int .i64 0)), none, []⟩, ⟨3, (some 16), .move (.tmp 15), none, []⟩, ⟨4, (some 17), .move (.tmp 6), (some (16, false)), []⟩, ⟨5, (some 18), .load1 (.tmp 4), (some (16, false)), []⟩, ⟨6, (some 19), .ibin .lss .i64 (.tmp 17) (.tmp 18), (some (16, false)), []⟩, ⟨7, (some 20), .pick (.tmp 16) (.const (.bool true)) (.tmp 19), none, []⟩])
 (.cond (.tmp 20) (.region false [⟨0, (some 21), .move (.tmp 6), none, []⟩, ⟨1, none, .store (.tmp 3) (.const (.slice none 0 0)) 1, none, []⟩, ⟨2, none, .store (.tmp 4) (.tmp 21) 1, none, []⟩]) .skip))
 (.seq (.region false [⟨0, (some 22), .move (.tmp 6), none, []⟩, ⟨1, (some 23), .load1 (.tmp 4), none, []⟩, ⟨2, (some 24), .ibin .eql .i64 (.tmp 22) (.tmp 23), none, []⟩])
 (.cond (.tmp 24) (.region true [⟨0, (some 25), .load1 (.tmp 3), none, []⟩, ⟨1, (some 26), .move (.tmp 5), none, []⟩, ⟨2, (some 27), .callF 60 [(.tmp 26)], none, [0]⟩, ⟨3, (some 28), .bldS 25 1 [(.slice none 0 0)] 1 [(0, (.tmp 27))], none, [0]⟩, ⟨4, (some 29), .append 25 1 (.tmp 25) (.tmp 28), none, []⟩, ⟨5, none, .store (.tmp 3) (.tmp 29) 1, none, []⟩]) .skip))))))))
 (.seq (.region false [⟨0, (some 30), .load1 (.tmp 3), none, []⟩, ⟨1, (some 2), .move (.tmp 30), none, []⟩])
 .ret))))), [.tmp 2]⟩
/- bellarmine/post.byDistance -/
def pf37 : PF := ⟨9, (.seq (.region false [⟨0, (some 2), .new 61 [(.int .i64 0), .nilFunc, .nilFunc], none, []⟩])
 (.seq (.region false [⟨0, (some 3), .move (.tmp 0), none, []⟩, ⟨1, (some 4), .len (.tmp 3), none, []⟩, ⟨2, (some 5), .move (.tmp 0), none, []⟩, ⟨3, (some 6), .callF 39 [(.tmp 5)], none, []⟩, ⟨4, (some 7), .mkF (.func 41) #[(.tmp 6)] #[], none, []⟩, ⟨5, (some 8), .bldT [(.int .i64 0), .nilFunc, .nilFunc] [(0, 1), (1, 1), (2, 1)] [(0, (.tmp 4)), (1, (.tmp 7)), (2, (.func 61))], none, []⟩, ⟨6, none, .store (.tmp 2) (.tmp 8) 3, none, []⟩])
 .ret)), [.cell 2 (some 3)]⟩
/- bellarmine/post.checkPlaces -/
def pf38 : PF := ⟨36, (.seq (.region false [⟨0, (some 4), .move (.const (.int .i64 0)), none, []⟩])
 (.seq (.seq (.region false [⟨0, (some 8), .move (.tmp 0), none, []⟩, ⟨1, (some 9), .callF 34 [(.tmp 8)], none, []⟩, ⟨2, (some 5), .move (.tmp 9), none, []⟩])
 (.seq (.region false [⟨0, (some 10), .move (.tmp 5), none, []⟩, ⟨1, (some 11), .ibin .neq .i64 (.tmp 10) (.const (.int .i64 0)), none, []⟩])
 (.cond (.tmp 11) (.seq (.region false [⟨0, (some 12), .move (.tmp 5), none, []⟩, ⟨1, (some 4), .move (.tmp 12), none, []⟩])
 .ret) .skip)))
 (.seq (.seq (.region false [⟨0, (some 13), .move (.tmp 1), none, []⟩, ⟨1, (some 14), .len (.tmp 13), none, []⟩, ⟨2, (some 15), .move (.const (.int .i64 0)), none, []⟩])
 (.block 0 (.loop (.seq (.region false [⟨0, (some 16), .ibin .lss .i64 (.tmp 15) (.tmp 14), none, []⟩])
 (.seq (.cond (.tmp 16) .skip (.exit 0))
 (.seq (.block 1 (.seq (.region false [⟨0, (some 17), .move (.tmp 15), none, []⟩, ⟨1, (some 18), .idxS (.tmp 13) (.tmp 15) 1, none, []⟩, ⟨2, (some 19), .load1 (.tmp 18), none, []⟩, ⟨3, (some 6), .move (.tmp 17), none, []⟩, ⟨4, (some 7), .move (.tmp 19), none, []⟩])
 (.seq (.seq (.region false [⟨0, (some 20), .move (.tmp 0), none, []⟩, ⟨1, (some 21), .move (.tmp 7), none, []⟩, ⟨2, (some 22), .callF 45 [(.tmp 20), (.tmp 21)], none, []⟩, ⟨3, (some 23), .not (.tmp 22), none, []⟩])
 (.cond (.tmp 23) (.seq (.region false [⟨0, (some 4), .move (.const (.int .i64 2)), none, []⟩])
 .ret) .skip))
 (.seq (.region false [⟨0, (some 24), .move (.tmp 6), none, []⟩, ⟨1, (some 25), .ibin .gtr .i64 (.tmp 24) (.const (.int .i64 0)), none, []⟩, ⟨2, (some 26), .move (.tmp 25), none, []⟩, ⟨3, (some 27), .move (.tmp 7), (some (26, true)), []⟩, ⟨4, (some 28), .move (.tmp 1), (some (26, true)), []⟩, ⟨5, (some 29), .move (.tmp 6), (some (26, true)), []⟩, ⟨6, (some 30), .ibin .sub .i64 (.tmp 29) (.const (.int .i64 1)), (some (26, true)), []⟩, ⟨7, (some 31), .idxS (.tmp 28) (.tmp 30) 1, (some (26, true)), []⟩, ⟨8, (some 32), .load1 (.tmp 31), (some (26, true)), []⟩, ⟨9, (some 33), .ibin .leq .i64 (.tmp 27) (.tmp 32), (some (26, true)), []⟩, ⟨10, (some 34), .pick (.tmp 26) (.tmp 33) (.const (.bool false)), none, []⟩])
 (.cond (.tmp 34) (.seq (.region false [⟨0, (some 4), .move (.const (.int .i64 7)), none, []⟩])
 .ret) .skip)))))
 (.region false [⟨0, (some 35), .ibin .add .i64 (.tmp 15) (.const (.int .i64 1)), none, []⟩, ⟨1, (some 15), .move (.tmp 35), none, []⟩])))))))
 (.seq (.region false [⟨0, (some 4), .move (.const (.int .i64 0)), none, []⟩])
 .ret)))), [.tmp 4]⟩
/- bellarmine/post.handsOf -/
def pf39 : PF := ⟨46, (.seq (.region false [⟨0, (some 2), .move (.const (.slice none 0 0)), none, []⟩])
 (.seq (.region false [⟨0, (some 6), .move (.tmp 0), none, []⟩, ⟨1, (some 7), .len (.tmp 6), none, []⟩, ⟨2, (some 8), .mkS 68 [(.int .u16 0)] (.tmp 7) (.tmp 7), none, []⟩, ⟨3, (some 3), .move (.tmp 8), none, []⟩])
 (.seq (.seq (.region false [⟨0, (some 9), .move (.tmp 0), none, []⟩, ⟨1, (some 10), .len (.tmp 9), none, []⟩, ⟨2, (some 11), .move (.const (.int .i64 0)), none, []⟩])
 (.block 0 (.loop (.seq (.region false [⟨0, (some 12), .ibin .lss .i64 (.tmp 11) (.tmp 10), none, []⟩])
 (.seq (.cond (.tmp 12) .skip (.exit 0))
 (.seq (.block 1 (.seq (.region false [⟨0, (some 13), .move (.tmp 11), none, []⟩, ⟨1, (some 4), .move (.tmp 13), none, []⟩])
 (.seq (.region true [⟨0, (some 14), .move (.tmp 3), none, []⟩, ⟨1, (some 15), .move (.tmp 4), none, []⟩, ⟨2, (some 16), .idxS (.tmp 14) (.tmp 15) 1, none, []⟩, ⟨3, (some 17), .load1 (.tmp 16), none, []⟩, ⟨4, (some 18), .move (.tmp 4), none, []⟩, ⟨5, (some 19), .callF 62 [(.tmp 18)], none, [3]⟩, ⟨6, (some 20), .ibin .or .u16 (.tmp 17) (.tmp 19), none, []⟩, ⟨7, (some 21), .idxS (.tmp 14) (.tmp 15) 1, none, []⟩, ⟨8, none, .store (.tmp 21) (.tmp 20) 1, none, []⟩])
 (.seq (.region false [⟨0, (some 22), .move (.tmp 4), none, []⟩, ⟨1, (some 23), .ibin .gtr .i64 (.tmp 22) (.const (.int .i64 0)), none, []⟩])
 (.cond (.tmp 23) (.seq (.region false [⟨0, (some 24), .move (.tmp 0), none, []⟩, ⟨1, (some 25), .move (.tmp 4), none, []⟩, ⟨2, (some 26), .idxS (.tmp 24) (.tmp 25) 1, none, []⟩, ⟨3, (some 27), .load1 (.tmp 26), none, []⟩, ⟨4, (some 5), .move (.tmp 27), none, []⟩])
 (.seq (.region true [⟨0, (some 28), .move (.tmp 3), none, []⟩, ⟨1, (some 29), .move (.tmp 4), none, []⟩, ⟨2, (some 30), .idxS (.tmp 28) (.tmp 29) 1, none, []⟩, ⟨3, (some 31), .load1 (.tmp 30), none, []⟩, ⟨4, (some 32), .move (.tmp 5), none, []⟩, ⟨5, (some 33), .callF 62 [(.tmp 32)], none, [3]⟩, ⟨6, (some 34), .ibin .or .u16 (.tmp 31) (.tmp 33), none, []⟩, ⟨7, (some 35), .idxS (.tmp 28) (.tmp 29) 1, none, []⟩, ⟨8, none, .store (.tmp 35) (.tmp 34) 1, none, []⟩])
 (.region true [⟨0, (some 36), .move (.tmp 3), none, []⟩, ⟨1, (some 37), .move (.tmp 5), none, []⟩, ⟨2, (some 38), .idxS (.tmp 36) (.tmp 37) 1, none, []⟩, ⟨3, (some 39), .load1 (.tmp 38), none, []⟩, ⟨4, (some 40), .move (.tmp 4), none, []⟩, ⟨5, (some 41), .callF 62 [(.tmp 40)], none, [3]⟩, ⟨6, (some 42), .ibin .or .u16 (.tmp 39) (.tmp 41), none, []⟩, ⟨7, (some 43), .idxS (.tmp 36) (.tmp 37) 1, none, []⟩, ⟨8, none, .store (.tmp 43) (.tmp 42) 1, none, []⟩]))) .skip)))))
 (.region false [⟨0, (some 44), .ibin .add .i64 (.tmp 11) (.const (.int .i64 1)), none, []⟩, ⟨1, (some 11), .move (.tmp 44), none, []⟩])))))))
 (.seq (.region false [⟨0, (some 45), .move (.tmp 3), none, []⟩, ⟨1, (some 2), .move (.tmp 45), none, []⟩])
 .ret)))), [.tmp 2]⟩
/- (bellarmine/post.hands).guarded -/
def pf40 : PF := ⟨26, (.seq (.region false [⟨0, (some 4), .move (.const (.bool false)), none, []⟩])
 (.seq (.region false [⟨0, (some 5), .move (.const (.int .u16 0)), none, []⟩])
 (.seq (.seq (.region false [⟨0, (some 8), .move (.tmp 1), none, []⟩, ⟨1, (some 9), .len (.tmp 8), none, []⟩, ⟨2, (some 10), .move (.const (.int .i64 0)), none, []⟩])
 (.block 0 (.loop (.seq (.region false [⟨0, (some 11), .ibin .lss .i64 (.tmp 10) (.tmp 9), none, []⟩])
 (.seq (.cond (.tmp 11) .skip (.exit 0))
 (.seq (.block 1 (.seq (.region false [⟨0, (some 12), .idxS (.tmp 8) (.tmp 10) 1, none, []⟩, ⟨1, (some 13), .load1 (.tmp 12), none, []⟩, ⟨2, (some 7), .move (.tmp 13), none, []⟩])
 (.region false [⟨0, (some 14), .move (.tmp 5), none, []⟩, ⟨1, (some 15), .move (.tmp 0), none, []⟩, ⟨2, (some 16), .move (.tmp 7), none, []⟩, ⟨3, (some 17), .idxS (.tmp 15) (.tmp 16) 1, none, []⟩, ⟨4, (some 18), .load1 (.tmp 17), none, []⟩, ⟨5, (some 19), .ibin .or .u16 (.tmp 14) (.tmp 18), none, []⟩, ⟨6, (some 5), .move (.tmp 19), none, []⟩])))
 (.region false [⟨0, (some 20), .ibin .add .i64 (.tmp 10) (.const (.int .i64 1)), none, []⟩, ⟨1, (some 10), .move (.tmp 20), none, []⟩])))))))
 (.seq (.region false [⟨0, (some 21), .move (.tmp 5), none, []⟩, ⟨1, (some 22), .move (.tmp 0), none, []⟩, ⟨2, (some 23), .len (.tmp 22), none, []⟩, ⟨3, (some 24), .callF 63 [(.tmp 23)], none, []⟩, ⟨4, (some 25), .ibin .eql .u16 (.tmp 21) (.tmp 24), none, []⟩, ⟨5, (some 4), .move (.tmp 25), none, []⟩])
 .ret)))), [.tmp 4]⟩
/- (bellarmine/post.hands).apart -/
def pf41 : PF := ⟨28, (.seq (.region false [⟨0, (some 4), .move (.const (.bool false)), none, []⟩])
 (.seq (.region false [⟨0, (some 5), .move (.const (.int .u16 0)), none, []⟩])
 (.seq (.seq (.region false [⟨0, (some 8), .move (.tmp 1), none, []⟩, ⟨1, (some 9), .len (.tmp 8), none, []⟩, ⟨2, (some 10), .move (.const (.int .i64 0)), none, []⟩])
 (.block 0 (.loop (.seq (.region false [⟨0, (some 11), .ibin .lss .i64 (.tmp 10) (.tmp 9), none, []⟩])
 (.seq (.cond (.tmp 11) .skip (.exit 0))
 (.seq (.block 1 (.seq (.region false [⟨0, (some 12), .idxS (.tmp 8) (.tmp 10) 1, none, []⟩, ⟨1, (some 13), .load1 (.tmp 12), none, []⟩, ⟨2, (some 7), .move (.tmp 13), none, []⟩])
 (.seq (.seq (.region false [⟨0, (some 14), .move (.tmp 5), none, []⟩, ⟨1, (some 15), .move (.tmp 0), none, []⟩, ⟨2, (some 16), .move (.tmp 7), none, []⟩, ⟨3, (some 17), .idxS (.tmp 15) (.tmp 16) 1, none, []⟩, ⟨4, (some 18), .load1 (.tmp 17), none, []⟩, ⟨5, (some 19), .ibin .and .u16 (.tmp 14) (.tmp 18), none, []⟩, ⟨6, (some 20), .ibin .neq .u16 (.tmp 19) (.const (.int .u16 0)), none, []⟩])
 (.cond (.tmp 20) (.seq (.region false [⟨0, (some 4), .move (.const (.bool false)), none, []⟩])
 .ret) .skip))
 (.region false [⟨0, (some 21), .move (.tmp 5), none, []⟩, ⟨1, (some 22), .move (.tmp 0), none, []⟩, ⟨2, (some 23), .move (.tmp 7), none, []⟩, ⟨3, (some 24), .idxS (.tmp 22) (.tmp 23) 1, none, []⟩, ⟨4, (some 25), .load1 (.tmp 24), none, []⟩, ⟨5, (some 26), .ibin .or .u16 (.tmp 21) (.tmp 25), none, []⟩, ⟨6, (some 5), .move (.tmp 26), none, []⟩]))))
 (.region false [⟨0, (some 27), .ibin .add .i64 (.tmp 10) (.const (.int .i64 1)), none, []⟩, ⟨1, (some 10), .move (.tmp 27), none, []⟩])))))))
 (.seq (.region false [⟨0, (some 4), .move (.const (.bool true)), none, []⟩])
 .ret)))), [.tmp 4]⟩
/- bellarmine/post.isPlace -/
def pf45 : PF := ⟨13, (.seq (.region false [⟨0, (some 4), .move (.const (.bool false)), none, []⟩])
 (.seq (.region false [⟨0, (some 5), .move (.tmp 1), none, []⟩, ⟨1, (some 6), .ibin .geq .i64 (.tmp 5) (.const (.int .i64 0)), none, []⟩, ⟨2, (some 7), .move (.tmp 6), none, []⟩, ⟨3, (some 8), .move (.tmp 1), (some (7, true)), []⟩, ⟨4, (some 9), .move (.tmp 0), (some (7, true)), []⟩, ⟨5, (some 10), .len (.tmp 9), (some (7, true)), []⟩, ⟨6, (some 11), .ibin .lss .i64 (.tmp 8) (.tmp 10), (some (7, true)), []⟩, ⟨7, (some 12), .pick (.tmp 7) (.tmp 11) (.const (.bool false)), none, []⟩, ⟨8, (some 4), .move (.tmp 12), none, []⟩])
 .ret)), [.tmp 4]⟩
/- (bellarmine/post.set).places -/
def pf46 : PF := ⟨19, (.seq (.region false [⟨0, (some 2), .move (.const (.slice none 0 0)), none, []⟩])
 (.seq (.region false [⟨0, (some 3), .move (.const (.slice none 0 0)), none, []⟩])
 (.seq (.seq (.region false [⟨0, (some 5), .move (.const (.int .i64 0)), none, []⟩])
 (.block 0 (.loop (.seq (.region false [⟨0, (some 6), .ibin .lss .i64 (.tmp 5) (.const (.int .i64 10)), none, []⟩])
 (.seq (.cond (.tmp 6) .skip (.exit 0))
 (.seq (.block 1 (.seq (.region false [⟨0, (some 7), .move (.tmp 5), none, []⟩, ⟨1, (some 4), .move (.tmp 7), none, []⟩])
 (.seq (.region false [⟨0, (some 8), .move (.tmp 0), none, []⟩, ⟨1, (some 9), .move (.tmp 4), none, []⟩, ⟨2, (some 10), .callF 62 [(.tmp 9)], none, []⟩, ⟨3, (some 11), .ibin .and .u16 (.tmp 8) (.tmp 10), none, []⟩, ⟨4, (some 12), .ibin .neq .u16 (.tmp 11) (.const (.int .u16 0)), none, []⟩])
 (.cond (.tmp 12) (.region false [⟨0, (some 13), .move (.tmp 3), none, []⟩, ⟨1, (some 14), .move (.tmp 4), none, []⟩, ⟨2, (some 15), .bldS 3 1 [(.int .i64 0)] 1 [(0, (.tmp 14))], none, []⟩, ⟨3, (some 16), .append 3 1 (.tmp 13) (.tmp 15), none, []⟩, ⟨4, (some 3), .move (.tmp 16), none, []⟩]) .skip))))
 (.region false [⟨0, (some 17), .ibin .add .i64 (.tmp 5) (.const (.int .i64 1)), none, []⟩, ⟨1, (some 5), .move (.tmp 17), none, []⟩])))))))
 (.seq (.region false [⟨0, (some 18), .move (.tmp 3), none, []⟩, ⟨1, (some 2), .move (.tmp 18), none, []⟩])
 .ret)))), [.tmp 2]⟩
/- math/bits.OnesCount32 -/
def pf47 : PF := ⟨21, (.seq (.region false [⟨0, (some 2), .move (.const (.int .i64 0)), none, []⟩])
 (.seq (.region true [⟨0, (some 3), .move (.tmp 0), none, []⟩, ⟨1, (some 4), .plain ⟨(some 4), .binOp .shr 70 (.tmp 3) (.const (.int .u64 24)) 29, 70, (String.ofList [Char.ofNat 98, Char.ofNat 105, Char.ofNat 116, Char.ofNat 115, Char.ofNat 46, Char.ofNat 103, Char.ofNat 111, Char.ofNat 58, Char.ofNat 49, Char.ofNat 51, Char.ofNat 54]), #[⟨0, .data⟩], none⟩, none, []⟩, ⟨2, (some 5), .plain ⟨(some 5), .index 9 (.const (.string ⟨#[0, 1, 1, 2, 1, 2, 2, 3, 1, 2, 2, 3, 2, 3, 3, 4, 1, 2, 2, 3, 2, 3, 3, 4, 2, 3, 3, 4, 3, 4, 4, 5, 1, 2, 2, 3, 2, 3, 3, 4, 2, 3, 3, 4, 3, 4, 4, 5, 2, 3, 3, 4, 3, 4, 4, 5, 3, 4, 4, 5, 4, 5, 5, 6, 1, 2, 2, 3, 2, 3, 3, 4, 2, 3, 3, 4, 3, 4, 4, 5, 2, 3, 3, 4, 3, 4, 4, 5, 3, 4, 4, 5, 4, 5, 5, 6, 2, 3, 3, 4, 3, 4, 4, 5, 3, 4, 4, 5, 4, 5, 5, 6, 3, 4, 4, 5, 4, 5, 5, 6, 4, 5, 5, 6, 5, 6, 6, 7, 1, 2, 2, 3, 2, 3, 3, 4, 2, 3, 3, 4, 3, 4, 4, 5, 2, 3, 3, 4, 3, 4, 4, 5, 3, 4, 4, 5, 4, 5, 5, 6, 2, 3, 3, 4, 3, 4, 4, 5, 3, 4, 4, 5, 4, 5, 5, 6, 3, 4, 4, 5, 4, 5, 5, 6, 4, 5, 5, 6, 5, 6, 6, 7, 2, 3, 3, 4, 3, 4, 4, 5, 3, 4, 4, 5, 4, 5, 5, 6, 3, 4, 4, 5, 4, 5, 5, 6, 4, 5, 5, 6, 5, 6, 6, 7, 3, 4, 4, 5, 4, 5, 5, 6, 4, 5, 5, 6, 5, 6, 6, 7, 4, 5, 5, 6, 5, 6, 6, 7, 5, 6, 6, 7, 6, 7, 7, 8]⟩)) (.tmp 4), 5, (String.ofList [Char.ofNat 98, Char.ofNat 105, Char.ofNat 116, Char.ofNat 115, Char.ofNat 46, Char.ofNat 103, Char.ofNat 111, Char.ofNat 58, Char.ofNat 49, Char.ofNat 51, Char.ofNat 54]), #[⟨1, .data⟩], none⟩, none, []⟩, ⟨3, (some 6), .move (.tmp 0), none, []⟩, ⟨4, (some 7), .plain ⟨(some 7), .binOp .shr 70 (.tmp 6) (.const (.int .u64 16)) 29, 70, (String.ofList [Char.ofNat 98, Char.ofNat 105, Char.ofNat 116, Char.ofNat 115, Char.ofNat 46, Char.ofNat 103, Char.ofNat 111, Char.ofNat 58, Char.ofNat 49, Char.ofNat 51, Char.ofNat 54]), #[⟨3, .data⟩], none⟩, none, []⟩, ⟨5, (some 8), .ibin .and .u32 (.tmp 7) (.const (.int .u32 255)), none, []⟩, ⟨6, (some 9), .plain ⟨(some 9), .index 9 (.const (.string ⟨#[0, 1, 1, 2, 1, 2, 2, 3, 1, 2, 2, 3, 2, 3, 3, 4, 1, 2, 2, 3, 2, 3, 3, 4, 2, 3, 3, 4, 3, 4, 4, 5, 1, 2, 2, 3, 2, 3, 3, 4, 2, 3, 3, 4, 3, 4, 4, 5, 2, 3, 3, 4, 3, 4, 4, 5, 3, 4, 4, 5, 4, 5, 5, 6, 1, 2, 2, 3, 2, 3, 3, 4, 2, 3, 3, 4, 3, 4, 4, 5, 2, 3, 3, 4, 3, 4, 4, 5, 3, 4, 4, 5, 4, 5, 5, 6, 2, 3, 3, 4, 3, 4, 4, 5, 3, 4, 4, 5, 4, 5, 5, 6, 3, 4, 4, 5, 4, 5, 5, 6, 4, 5, 5, 6, 5, 6, 6, 7, 1, 2, 2, 3, 2, 3, 3, 4, 2, 3, 3, 4, 3, 4, 4, 5, 2, 3, 3, 4, 3, 4, 4, 5, 3, 4, 4, 5, 4, 5, 5, 6, 2, 3, 3, 4, 3, 4, 4, 5, 3, 4, 4, 5, 4, 5, 5, 6, 3, 4, 4, 5, 4, 5, 5, 6, 4, 5, 5, 6, 5, 6, 6, 7, 2, 3, 3, 4, 3, 4, 4, 5, 3, 4, 4, 5, 4, 5, 5, 6, 3, 4, 4, 5, 4, 5, 5, 6, 4, 5, 5, 6, 5, 6, 6, 7, 3, 4, 4, 5, 4, 5, 5, 6, 4, 5, 5, 6, 5, 6, 6, 7, 4, 5, 5, 6, 5, 6, 6, 7, 5, 6, 6, 7, 6, 7, 7, 8]⟩)) (.tmp 8), 5, (String.ofList [Char.ofNat 98, Char.ofNat 105, Char.ofNat 116, Char.ofNat 115, Char.ofNat 46, Char.ofNat 103, Char.ofNat 111, Char.ofNat 58, Char.ofNat 49, Char.ofNat 51, Char.ofNat 54]), #[⟨5, .data⟩], none⟩, none, []⟩, ⟨7, (some 10), .ibin .add .u8 (.tmp 5) (.tmp 9), none, []⟩, ⟨8, (some 11), .move (.tmp 0), none, []⟩, ⟨9, (some 12), .plain ⟨(some 12), .binOp .shr 70 (.tmp 11) (.const (.int .u64 8)) 29, 70, (String.ofList [Char.ofNat 98, Char.ofNat 105, Char.ofNat 116, Char.ofNat 115, Char.ofNat 46, Char.ofNat 103, Char.ofNat 111, Char.ofNat 58, Char.ofNat 49, Char.ofNat 51, Char.ofNat 54]), #[⟨8, .data⟩], none⟩, none, []⟩, ⟨10, (some 13), .ibin .and .u32 (.tmp 12) (.const (.int .u32 255)), none, []⟩, ⟨11, (some 14), .plain ⟨(some 14), .index 9 (.const (.string ⟨#[0, 1, 1, 2, 1, 2, 2, 3, 1, 2, 2, 3, 2, 3, 3, 4, 1, 2, 2, 3, 2, 3, 3, 4, 2, 3, 3, 4, 3, 4, 4, 5, 1, 2, 2, 3, 2, 3, 3, 4, 2, 3, 3, 4, 3, 4, 4, 5, 2, 3, 3, 4, 3, 4, 4, 5, 3, 4, 4, 5, 4, 5, 5, 6, 1, 2, 2, 3, 2, 3, 3, 4, 2, 3, 3, 4, 3, 4, 4, 5, 2, 3, 3, 4, 3, 4, 4, 5, 3, 4, 4, 5, 4, 5, 5, 6, 2, 3, 3, 4, 3, 4, 4, 5, 3, 4, 4, 5, 4, 5, 5, 6, 3, 4, 4, 5, 4, 5, 5, 6, 4, 5, 5, 6, 5, 6, 6, 7, 1, 2, 2, 3, 2, 3, 3, 4, 2, 3, 3, 4, 3, 4, 4, 5, 2, 3, 3, 4, 3, 4, 4, 5, 3, 4, 4, 5, 4, 5, 5, 6, 2, 3, 3, 4, 3, 4, 4, 5, 3, 4, 4, 5, 4, 5, 5, 6, 3, 4, 4, 5, 4, 5, 5, 6, 4, 5, 5, 6, 5, 6, 6, 7, 2, 3, 3, 4, 3, 4, 4, 5, 3, 4, 4, 5, 4, 5, 5, 6, 3, 4, 4, 5, 4, 5, 5, 6, 4, 5, 5, 6, 5, 6, 6, 7, 3, 4, 4, 5, 4, 5, 5, 6, 4, 5, 5, 6, 5, 6, 6, 7, 4, 5, 5, 6, 5, 6, 6, 7, 5, 6, 6, 7, 6, 7, 7, 8]⟩)) (.tmp 13), 5, (String.ofList [Char.ofNat 98, Char.ofNat 105, Char.ofNat 116, Char.ofNat 115, Char.ofNat 46, Char.ofNat 103, Char.ofNat 111, Char.ofNat 58, Char.ofNat 49, Char.ofNat 51, Char.ofNat 54]), #[⟨10, .data⟩], none⟩, none, []⟩, ⟨12, (some 15), .ibin .add .u8 (.tmp 10) (.tmp 14), none, []⟩, ⟨13, (some 16), .move (.tmp 0), none, []⟩, ⟨14, (some 17), .ibin .and .u32 (.tmp 16) (.const (.int .u32 255)), none, []⟩, ⟨15, (some 18), .plain ⟨(some 18), .index 9 (.const (.string ⟨#[0, 1, 1, 2, 1, 2, 2, 3, 1, 2, 2, 3, 2, 3, 3, 4, 1, 2, 2, 3, 2, 3, 3, 4, 2, 3, 3, 4, 3, 4, 4, 5, 1, 2, 2, 3, 2, 3, 3, 4, 2, 3, 3, 4, 3, 4, 4, 5, 2, 3, 3, 4, 3, 4, 4, 5, 3, 4, 4, 5, 4, 5, 5, 6, 1, 2, 2, 3, 2, 3, 3, 4, 2, 3, 3, 4, 3, 4, 4, 5, 2, 3, 3, 4, 3, 4, 4, 5, 3, 4, 4, 5, 4, 5, 5, 6, 2, 3, 3, 4, 3, 4, 4, 5, 3, 4, 4, 5, 4, 5, 5, 6, 3, 4, 4, 5, 4, 5, 5, 6, 4, 5, 5, 6, 5, 6, 6, 7, 1, 2, 2, 3, 2, 3, 3, 4, 2, 3, 3, 4, 3, 4, 4, 5, 2, 3, 3, 4, 3, 4, 4, 5, 3, 4, 4, 5, 4, 5, 5, 6, 2, 3, 3, 4, 3, 4, 4, 5, 3, 4, 4, 5, 4, 5, 5, 6, 3, 4, 4, 5, 4, 5, 5, 6, 4, 5, 5, 6, 5, 6, 6, 7, 2, 3, 3, 4, 3, 4, 4, 5, 3, 4, 4, 5, 4, 5, 5, 6, 3, 4, 4, 5, 4, 5, 5, 6, 4, 5, 5, 6, 5, 6, 6, 7, 3, 4, 4, 5, 4, 5, 5, 6, 4, 5, 5, 6, 5, 6, 6, 7, 4, 5, 5, 6, 5, 6, 6, 7, 5, 6, 6, 7, 6, 7, 7, 8]⟩)) (.tmp 17), 5, (String.ofList [Char.ofNat 98, Char.ofNat 105, Char.ofNat 116, Char.ofNat 115, Char.ofNat 46, Char.ofNat 103, Char.ofNat 111, Char.ofNat 58, Char.ofNat 49, Char.ofNat 51, Char.ofNat 54]), #[⟨14, .data⟩], none⟩, none, []⟩, ⟨16, (some 19), .ibin .add .u8 (.tmp 15) (.tmp 18), none, []⟩, ⟨17, (some 20), .plain ⟨(some 20), .convert 5 3 (.tmp 19), 3, (String.ofList [Char.ofNat 98, Char.ofNat 105, Char.ofNat 116, Char.ofNat 115, Char.ofNat 46, Char.ofNat 103, Char.ofNat 111, Char.ofNat 58, Char.ofNat 49, Char.ofNat 51, Char.ofNat 54]), #[⟨16, .data⟩], none⟩, none, []⟩, ⟨18, (some 2), .move (.tmp 20), none, []⟩])
 .ret)), [.tmp 2]⟩
/- math/bits.OnesCount64 -/
def pf48 : PF := ⟨35, (.seq (.region false [⟨0, (some 2), .move (.const (.int .i64 0)), none, []⟩])
 (.seq (.region false [⟨0, (some 3), .move (.tmp 0), none, []⟩, ⟨1, (some 4), .plain ⟨(some 4), .binOp .shr 72 (.tmp 3) (.const (.int .u64 1)) 29, 72, (String.ofList [Char.ofNat 98, Char.ofNat 105, Char.ofNat 116, Char.ofNat 115, Char.ofNat 46, Char.ofNat 103, Char.ofNat 111, Char.ofNat 58, Char.ofNat 49, Char.ofNat 54, Char.ofNat 49]), #[⟨0, .data⟩], none⟩, none, []⟩, ⟨2, (some 5), .ibin .and .u64 (.tmp 4) (.const (.int .u64 6148914691236517205)), none, []⟩, ⟨3, (some 6), .move (.tmp 0), none, []⟩, ⟨4, (some 7), .ibin .and .u64 (.tmp 6) (.const (.int .u64 6148914691236517205)), none, []⟩, ⟨5, (some 8), .ibin .add .u64 (.tmp 5) (.tmp 7), none, []⟩, ⟨6, (some 0), .move (.tmp 8), none, []⟩])
 (.seq (.region false [⟨0, (some 9), .move (.tmp 0), none, []⟩, ⟨1, (some 10), .plain ⟨(some 10), .binOp .shr 72 (.tmp 9) (.const (.int .u64 2)) 29, 72, (String.ofList [Char.ofNat 98, Char.ofNat 105, Char.ofNat 116, Char.ofNat 115, Char.ofNat 46, Char.ofNat 103, Char.ofNat 111, Char.ofNat 58, Char.ofNat 49, Char.ofNat 54, Char.ofNat 50]), #[⟨0, .data⟩], none⟩, none, []⟩, ⟨2, (some 11), .ibin .and .u64 (.tmp 10) (.const (.int .u64 3689348814741910323)), none, []⟩, ⟨3, (some 12), .move (.tmp 0), none, []⟩, ⟨4, (some 13), .ibin .and .u64 (.tmp 12) (.const (.int .u64 3689348814741910323)), none, []⟩, ⟨5, (some 14), .ibin .add .u64 (.tmp 11) (.tmp 13), none, []⟩, ⟨6, (some 0), .move (.tmp 14), none, []⟩])
 (.seq (.region false [⟨0, (some 15), .move (.tmp 0), none, []⟩, ⟨1, (some 16), .plain ⟨(some 16), .binOp .shr 72 (.tmp 15) (.const (.int .u64 4)) 29, 72, (String.ofList [Char.ofNat 98, Char.ofNat 105, Char.ofNat 116, Char.ofNat 115, Char.ofNat 46, Char.ofNat 103, Char.ofNat 111, Char.ofNat 58, Char.ofNat 49, Char.ofNat 54, Char.ofNat 51]), #[⟨0, .data⟩], none⟩, none, []⟩, ⟨2, (some 17), .move (.tmp 0), none, []⟩, ⟨3, (some 18), .ibin .add .u64 (.tmp 16) (.tmp 17), none, []⟩, ⟨4, (some 19), .ibin .and .u64 (.tmp 18) (.const (.int .u64 1085102592571150095)), none, []⟩, ⟨5, (some 0), .move (.tmp 19), none, []⟩])
 (.seq (.region false [⟨0, (some 20), .move (.tmp 0), none, []⟩, ⟨1, (some 21), .move (.tmp 0), none, []⟩, ⟨2, (some 22), .plain ⟨(some 22), .binOp .shr 72 (.tmp 21) (.const (.int .u64 8)) 29, 72, (String.ofList [Char.ofNat 98, Char.ofNat 105, Char.ofNat 116, Char.ofNat 115, Char.ofNat 46, Char.ofNat 103, Char.ofNat 111, Char.ofNat 58, Char.ofNat 49, Char.ofNat 54, Char.ofNat 52]), #[⟨1, .data⟩], none⟩, none, []⟩, ⟨3, (some 23), .ibin .add .u64 (.tmp 20) (.tmp 22), none, []⟩, ⟨4, (some 0), .move (.tmp 23), none, []⟩])
 (.seq (.region false [⟨0, (some 24), .move (.tmp 0), none, []⟩, ⟨1, (some 25), .move (.tmp 0), none, []⟩, ⟨2, (some 26), .plain ⟨(some 26), .binOp .shr 72 (.tmp 25) (.const (.int .u64 16)) 29, 72, (String.ofList [Char.ofNat 98, Char.ofNat 105, Char.ofNat 116, Char.ofNat 115, Char.ofNat 46, Char.ofNat 103, Char.ofNat 111, Char.ofNat 58, Char.ofNat 49, Char.ofNat 54, Char.ofNat 53]), #[⟨1, .data⟩], none⟩, none, []⟩, ⟨3, (some 27), .ibin .add .u64 (.tmp 24) (.tmp 26), none, []⟩, ⟨4, (some 0), .move (.tmp 27), none, []⟩])
 (.seq (.region false [⟨0, (some 28), .move (.tmp 0), none, []⟩, ⟨1, (some 29), .move (.tmp 0), none, []⟩, ⟨2, (some 30), .plain ⟨(some 30), .binOp .shr 72 (.tmp 29) (.const (.int .u64 32)) 29, 72, (String.ofList [Char.ofNat 98, Char.ofNat 105, Char.ofNat 116, Char.ofNat 115, Char.ofNat 46, Char.ofNat 103, Char.ofNat 111, Char.ofNat 58, Char.ofNat 49, Char.ofNat 54, Char.ofNat 54]), #[⟨1, .data⟩], none⟩, none, []⟩, ⟨3, (some 31), .ibin .add .u64 (.tmp 28) (.tmp 30), none, []⟩, ⟨4, (some 0), .move (.tmp 31), none, []⟩])
 (.seq (.region false [⟨0, (some 32), .move (.tmp 0), none, []⟩, ⟨1, (some 33), .plain ⟨(some 33), .convert 72 3 (.tmp 32), 3, (String.ofList [Char.ofNat 98, Char.ofNat 105, Char.ofNat 116, Char.ofNat 115, Char.ofNat 46, Char.ofNat 103, Char.ofNat 111, Char.ofNat 58, Char.ofNat 49, Char.ofNat 54, Char.ofNat 55]), #[⟨0, .data⟩], none⟩, none, []⟩, ⟨2, (some 34), .ibin .and .i64 (.tmp 33) (.const (.int .i64 127)), none, []⟩, ⟨3, (some 2), .move (.tmp 34), none, []⟩])
 .ret)))))))), [.tmp 2]⟩
/- (bellarmine/post.rating).rated -/
def pf49 : PF := ⟨4, (.seq (.region false [⟨0, (some 1), .box 61 (.tmp 0), none, []⟩, ⟨1, (some 2), .move (.const .nilFunc), none, []⟩])
 (.seq (.region false [⟨0, (some 3), .mkF (.func 64) #[] #[(.tmp 1)], none, []⟩, ⟨1, (some 2), .move (.tmp 3), none, []⟩])
 .ret)), [.tmp 2]⟩
/- bellarmine/post.placesIn -/
def pf50 : PF := ⟨24, (.seq (.region false [⟨0, (some 6), .move (.const (.slice none 0 0)), none, []⟩])
 (.seq (.region false [⟨0, (some 7), .move (.const (.slice none 0 0)), none, []⟩])
 (.seq (.seq (.region false [⟨0, (some 9), .move (.tmp 2), none, []⟩, ⟨1, (some 10), .move (.const (.int .i64 0)), none, []⟩])
 (.block 0 (.loop (.seq (.region false [⟨0, (some 11), .ibin .lss .i64 (.tmp 10) (.tmp 9), none, []⟩])
 (.seq (.cond (.tmp 11) .skip (.exit 0))
 (.seq (.block 1 (.seq (.region false [⟨0, (some 12), .move (.tmp 10), none, []⟩, ⟨1, (some 8), .move (.tmp 12), none, []⟩])
 (.seq (.region false [⟨0, (some 13), .move (.tmp 0), none, []⟩, ⟨1, (some 14), .move (.tmp 8), none, []⟩, ⟨2, (some 15), .callF 66 [(.tmp 13), (.tmp 14)], none, []⟩, ⟨3, (some 16), .move (.tmp 1), none, []⟩, ⟨4, (some 17), .ibin .eql .i64 (.tmp 15) (.tmp 16), none, []⟩])
 (.cond (.tmp 17) (.region false [⟨0, (some 18), .move (.tmp 7), none, []⟩, ⟨1, (some 19), .move (.tmp 8), none, []⟩, ⟨2, (some 20), .bldS 3 1 [(.int .i64 0)] 1 [(0, (.tmp 19))], none, []⟩, ⟨3, (some 21), .append 3 1 (.tmp 18) (.tmp 20), none, []⟩, ⟨4, (some 7), .move (.tmp 21), none, []⟩]) .skip))))
 (.region false [⟨0, (some 22), .ibin .add .i64 (.tmp 10) (.const (.int .i64 1)), none, []⟩, ⟨1, (some 10), .move (.tmp 22), none, []⟩])))))))
 (.seq (.region false [⟨0, (some 23), .move (.tmp 7), none, []⟩, ⟨1, (some 6), .move (.tmp 23), none, []⟩])
 .ret)))), [.tmp 6]⟩
/- bellarmine/post.byPrice -/
def pf51 : PF := ⟨12, (.seq (.region false [⟨0, (some 3), .box 25 (.tmp 1), none, []⟩, ⟨1, (some 4), .new 61 [(.int .i64 0), .nilFunc, .nilFunc], none, []⟩])
 (.seq (.region false [⟨0, (some 5), .move (.tmp 0), none, []⟩, ⟨1, (some 6), .len (.tmp 5), none, []⟩, ⟨2, (some 7), .move (.tmp 0), none, []⟩, ⟨3, (some 8), .callF 39 [(.tmp 7)], none, []⟩, ⟨4, (some 9), .mkF (.func 40) #[(.tmp 8)] #[], none, []⟩, ⟨5, (some 10), .mkF (.func 67) #[] #[(.tmp 3)], none, []⟩, ⟨6, (some 11), .bldT [(.int .i64 0), .nilFunc, .nilFunc] [(0, 1), (1, 1), (2, 1)] [(0, (.tmp 6)), (1, (.tmp 9)), (2, (.tmp 10))], none, []⟩, ⟨7, none, .store (.tmp 4) (.tmp 11) 3, none, []⟩])
 .ret)), [.cell 4 (some 3)]⟩
/- slices.Index[[]int,int] -/
def pf52 : PF := ⟨19, (.seq (.region false [⟨0, (some 4), .move (.const (.int .i64 0)), none, []⟩])
 (.seq (.seq (.region false [⟨0, (some 6), .move (.tmp 0), none, []⟩, ⟨1, (some 7), .len (.tmp 6), none, []⟩, ⟨2, (some 8), .move (.const (.int .i64 0)), none, []⟩])
 (.block 0 (.loop (.seq (.region false [⟨0, (some 9), .ibin .lss .i64 (.tmp 8) (.tmp 7), none, []⟩])
 (.seq (.cond (.tmp 9) .skip (.exit 0))
 (.seq (.block 1 (.seq (.region false [⟨0, (some 10), .move (.tmp 8), none, []⟩, ⟨1, (some 5), .move (.tmp 10), none, []⟩])
 (.seq (.region false [⟨0, (some 11), .move (.tmp 1), none, []⟩, ⟨1, (some 12), .move (.tmp 0), none, []⟩, ⟨2, (some 13), .move (.tmp 5), none, []⟩, ⟨3, (some 14), .idxS (.tmp 12) (.tmp 13) 1, none, []⟩, ⟨4, (some 15), .load1 (.tmp 14), none, []⟩, ⟨5, (some 16), .ibin .eql .i64 (.tmp 11) (.tmp 15), none, []⟩])
 (.cond (.tmp 16) (.seq (.region false [⟨0, (some 17), .move (.tmp 5), none, []⟩, ⟨1, (some 4), .move (.tmp 17), none, []⟩])
 .ret) .skip))))
 (.region false [⟨0, (some 18), .ibin .add .i64 (.tmp 8) (.const (.int .i64 1)), none, []⟩, ⟨1, (some 8), .move (.tmp 18), none, []⟩])))))))
 (.seq (.region false [⟨0, (some 4), .move (.const (.int .i64 (-1))), none, []⟩])
 .ret))), [.tmp 4]⟩
/- math/bits.TrailingZeros32 -/
def pf53 : PF := ⟨14, (.seq (.region false [⟨0, (some 2), .move (.const (.int .i64 0)), none, []⟩])
 (.seq (.seq (.region false [⟨0, (some 3), .move (.tmp 0), none, []⟩, ⟨1, (some 4), .ibin .eql .u32 (.tmp 3) (.const (.int .u32 0)), none, []⟩])
 (.cond (.tmp 4) (.seq (.region false [⟨0, (some 2), .move (.const (.int .i64 32)), none, []⟩])
 .ret) .skip))
 (.seq (.region false [⟨0, (some 5), .move (.tmp 0), none, []⟩, ⟨1, (some 6), .move (.tmp 0), none, []⟩, ⟨2, (some 7), .plain ⟨(some 7), .unOp .neg 70 (.tmp 6), 70, (String.ofList [Char.ofNat 98, Char.ofNat 105, Char.ofNat 116, Char.ofNat 115, Char.ofNat 46, Char.ofNat 103, Char.ofNat 111, Char.ofNat 58, Char.ofNat 56, Char.ofNat 54]), #[⟨1, .data⟩], none⟩, none, []⟩, ⟨3, (some 8), .ibin .and .u32 (.tmp 5) (.tmp 7), none, []⟩, ⟨4, (some 9), .ibin .mul .u32 (.tmp 8) (.const (.int .u32 125613361)), none, []⟩, ⟨5, (some 10), .plain ⟨(some 10), .binOp .shr 70 (.tmp 9) (.const (.int .u64 27)) 29, 70, (String.ofList [Char.ofNat 98, Char.ofNat 105, Char.ofNat 116, Char.ofNat 115, Char.ofNat 46, Char.ofNat 103, Char.ofNat 111, Char.ofNat 58, Char.ofNat 56, Char.ofNat 54]), #[⟨4, .data⟩], none⟩, none, []⟩, ⟨6, (some 11), .idxA (.global 0) (.tmp 10) 32 1, none, []⟩, ⟨7, (some 12), .load1 (.tmp 11), none, []⟩, ⟨8, (some 13), .plain ⟨(some 13), .convert 5 3 (.tmp 12), 3, (String.ofList [Char.ofNat 98, Char.ofNat 105, Char.ofNat 116, Char.ofNat 115, Char.ofNat 46, Char.ofNat 103, Char.ofNat 111, Char.ofNat 58, Char.ofNat 56, Char.ofNat 54]), #[⟨7, .data⟩], none⟩, none, []⟩, ⟨9, (some 2), .move (.tmp 13), none, []⟩])
 .ret))), [.tmp 2]⟩
/- math/bits.TrailingZeros64 -/
def pf54 : PF := ⟨14, (.seq (.region false [⟨0, (some 2), .move (.const (.int .i64 0)), none, []⟩])
 (.seq (.seq (.region false [⟨0, (some 3), .move (.tmp 0), none, []⟩, ⟨1, (some 4), .ibin .eql .u64 (.tmp 3) (.const (.int .u64 0)), none, []⟩])
 (.cond (.tmp 4) (.seq (.region false [⟨0, (some 2), .move (.const (.int .i64 64)), none, []⟩])
 .ret) .skip))
 (.seq (.region false [⟨0, (some 5), .move (.tmp 0), none, []⟩, ⟨1, (some 6), .move (.tmp 0), none, []⟩, ⟨2, (some 7), .plain ⟨(some 7), .unOp .neg 72 (.tmp 6), 72, (String.ofList [Char.ofNat 98, Char.ofNat 105, Char.ofNat 116, Char.ofNat 115, Char.ofNat 46, Char.ofNat 103, Char.ofNat 111, Char.ofNat 58, Char.ofNat 49, Char.ofNat 48, Char.ofNat 53]), #[⟨1, .data⟩], none⟩, none, []⟩, ⟨3, (some 8), .ibin .and .u64 (.tmp 5) (.tmp 7), none, []⟩, ⟨4, (some 9), .ibin .mul .u64 (.tmp 8) (.const (.int .u64 285870213051353865)), none, []⟩, ⟨5, (some 10), .plain ⟨(some 10), .binOp .shr 72 (.tmp 9) (.const (.int .u64 58)) 29, 72, (String.ofList [Char.ofNat 98, Char.ofNat 105, Char.ofNat 116, Char.ofNat 115, Char.ofNat 46, Char.ofNat 103, Char.ofNat 111, Char.ofNat 58, Char.ofNat 49, Char.ofNat 48, Char.ofNat 53]), #[⟨4, .data⟩], none⟩, none, []⟩, ⟨6, (some 11), .idxA (.global 1) (.tmp 10) 64 1, none, []⟩, ⟨7, (some 12), .load1 (.tmp 11), none, []⟩, ⟨8, (some 13), .plain ⟨(some 13), .convert 5 3 (.tmp 12), 3, (String.ofList [Char.ofNat 98, Char.ofNat 105, Char.ofNat 116, Char.ofNat 115, Char.ofNat 46, Char.ofNat 103, Char.ofNat 111, Char.ofNat 58, Char.ofNat 49, Char.ofNat 48, Char.ofNat 53]), #[⟨7, .data⟩], none⟩, none, []⟩, ⟨9, (some 2), .move (.tmp 13), none, []⟩])
 .ret))), [.tmp 2]⟩
/- slices.IndexFunc[[]uint,uint] -/
def pf55 : PF := ⟨19, (.seq (.region false [⟨0, (some 4), .move (.const (.int .i64 0)), none, []⟩])
 (.seq (.seq (.region false [⟨0, (some 6), .move (.tmp 0), none, []⟩, ⟨1, (some 7), .len (.tmp 6), none, []⟩, ⟨2, (some 8), .move (.const (.int .i64 0)), none, []⟩])
 (.block 0 (.loop (.seq (.region false [⟨0, (some 9), .ibin .lss .i64 (.tmp 8) (.tmp 7), none, []⟩])
 (.seq (.cond (.tmp 9) .skip (.exit 0))
 (.seq (.block 1 (.seq (.region false [⟨0, (some 10), .move (.tmp 8), none, []⟩, ⟨1, (some 5), .move (.tmp 10), none, []⟩])
 (.seq (.region false [⟨0, (some 11), .move (.tmp 1), none, []⟩, ⟨1, (some 12), .move (.tmp 0), none, []⟩, ⟨2, (some 13), .move (.tmp 5), none, []⟩, ⟨3, (some 14), .idxS (.tmp 12) (.tmp 13) 1, none, []⟩, ⟨4, (some 15), .load1 (.tmp 14), none, []⟩, ⟨5, (some 16), .callV (.tmp 11) [(.tmp 15)], none, []⟩])
 (.cond (.tmp 16) (.seq (.region false [⟨0, (some 17), .move (.tmp 5), none, []⟩, ⟨1, (some 4), .move (.tmp 17), none, []⟩])
 .ret) .skip))))
 (.region false [⟨0, (some 18), .ibin .add .i64 (.tmp 8) (.const (.int .i64 1)), none, []⟩, ⟨1, (some 8), .move (.tmp 18), none, []⟩])))))))
 (.seq (.region false [⟨0, (some 4), .move (.const (.int .i64 (-1))), none, []⟩])
 .ret))), [.tmp 4]⟩
/- cmp.isNaN[int] -/
def pf56 : PF := ⟨6, (.seq (.region false [⟨0, (some 2), .move (.const (.bool false)), none, []⟩])
 (.seq (.region false [⟨0, (some 3), .move (.tmp 0), none, []⟩, ⟨1, (some 4), .move (.tmp 0), none, []⟩, ⟨2, (some 5), .ibin .neq .i64 (.tmp 3) (.tmp 4), none, []⟩, ⟨3, (some 2), .move (.tmp 5), none, []⟩])
 .ret)), [.tmp 2]⟩
/- bellarmine/post.isBehind -/
def pf57 : PF := ⟨16, (.seq (.region false [⟨0, (some 4), .move (.const (.bool false)), none, []⟩])
 (.seq (.seq (.region false [⟨0, (some 5), .move (.tmp 1), none, []⟩, ⟨1, (some 6), .ibin .eql .i64 (.tmp 5) (.const (.int .i64 0)), none, []⟩])
 (.cond (.tmp 6) (.seq (.region false [⟨0, (some 7), .move (.tmp 0), none, []⟩, ⟨1, (some 8), .ibin .eql .i64 (.tmp 7) (.const (.int .i64 (-1))), none, []⟩, ⟨2, (some 4), .move (.tmp 8), none, []⟩])
 .ret) .skip))
 (.seq (.region false [⟨0, (some 9), .move (.tmp 0), none, []⟩, ⟨1, (some 10), .ibin .geq .i64 (.tmp 9) (.const (.int .i64 0)), none, []⟩, ⟨2, (some 11), .move (.tmp 10), none, []⟩, ⟨3, (some 12), .move (.tmp 0), (some (11, true)), []⟩, ⟨4, (some 13), .move (.tmp 1), (some (11, true)), []⟩, ⟨5, (some 14), .ibin .lss .i64 (.tmp 12) (.tmp 13), (some (11, true)), []⟩, ⟨6, (some 15), .pick (.tmp 11) (.tmp 14) (.const (.bool false)), none, []⟩, ⟨7, (some 4), .move (.tmp 15), none, []⟩])
 .ret))), [.tmp 4]⟩
/- bellarmine/post.byNumber$1 -/
def pf58 : PF := ⟨3, (.seq (.region false [⟨0, (some 2), .move (.const (.int .i64 0)), none, []⟩])
 (.seq (.region false [⟨0, (some 2), .move (.const (.int .i64 1)), none, []⟩])
 .ret)), [.tmp 2]⟩
/- (bellarmine/post.rating).sum -/
def pf59 : PF := ⟨22, (.seq (.region false [⟨0, (some 2), .box 61 (.tmp 0), none, []⟩, ⟨1, (some 4), .move (.const (.int .i64 0)), none, []⟩])
 (.seq (.region false [⟨0, (some 5), .move (.const (.int .i64 0)), none, []⟩])
 (.seq (.seq (.region false [⟨0, (some 8), .move (.tmp 1), none, []⟩, ⟨1, (some 9), .len (.tmp 8), none, []⟩, ⟨2, (some 10), .move (.const (.int .i64 0)), none, []⟩])
 (.block 0 (.loop (.seq (.region false [⟨0, (some 11), .ibin .lss .i64 (.tmp 10) (.tmp 9), none, []⟩])
 (.seq (.cond (.tmp 11) .skip (.exit 0))
 (.seq (.block 1 (.seq (.region false [⟨0, (some 12), .idxS (.tmp 8) (.tmp 10) 1, none, []⟩, ⟨1, (some 13), .load1 (.tmp 12), none, []⟩, ⟨2, (some 7), .move (.tmp 13), none, []⟩])
 (.region false [⟨0, (some 14), .move (.tmp 5), none, []⟩, ⟨1, (some 15), .fieldAddr (.tmp 2) 2, none, []⟩, ⟨2, (some 16), .load1 (.tmp 15), none, []⟩, ⟨3, (some 17), .move (.tmp 7), none, []⟩, ⟨4, (some 18), .callV (.tmp 16) [(.tmp 17)], none, []⟩, ⟨5, (some 19), .ibin .add .i64 (.tmp 14) (.tmp 18), none, []⟩, ⟨6, (some 5), .move (.tmp 19), none, []⟩])))
 (.region false [⟨0, (some 20), .ibin .add .i64 (.tmp 10) (.const (.int .i64 1)), none, []⟩, ⟨1, (some 10), .move (.tmp 20), none, []⟩])))))))
 (.seq (.region false [⟨0, (some 21), .move (.tmp 5), none, []⟩, ⟨1, (some 4), .move (.tmp 21), none, []⟩])
 .ret)))), [.tmp 4]⟩
/- slices.Clone[[]int,int] -/
def pf60 : PF := ⟨8, (.seq (.region false [⟨0, (some 2), .move (.const (.slice none 0 0)), none, []⟩])
 (.seq (.seq (.region false [⟨0, (some 3), .move (.tmp 0), none, []⟩, ⟨1, (some 4), .nilEq false .sl (.tmp 3), none, []⟩])
 (.cond (.tmp 4) (.seq (.region false [⟨0, (some 2), .move (.const (.slice none 0 0)), none, []⟩])
 .ret) .skip))
 (.seq (.region false [⟨0, (some 5), .bldS 3 1 [] 0 [], none, []⟩, ⟨1, (some 6), .move (.tmp 0), none, []⟩, ⟨2, (some 7), .append 3 1 (.tmp 5) (.tmp 6), none, []⟩, ⟨3, (some 2), .move (.tmp 7), none, []⟩])
 .ret))), [.tmp 2]⟩
/- bellarmine/post.byDistance$1 -/
def pf61 : PF := ⟨3, (.seq (.region false [⟨0, (some 2), .move (.const (.int .i64 0)), none, []⟩])
 (.seq (.region false [⟨0, (some 2), .move (.const (.int .i64 (-1))), none, []⟩])
 .ret)), [.tmp 2]⟩
/- bellarmine/post.only -/
def pf62 : PF := ⟨5, (.seq (.region false [⟨0, (some 2), .move (.const (.int .u16 0)), none, []⟩])
 (.seq (.region false [⟨0, (some 3), .move (.tmp 0), none, []⟩, ⟨1, (some 4), .plain ⟨(some 4), .binOp .shl 68 (.const (.int .u16 1)) (.tmp 3) 3, 68, (String.ofList [Char.ofNat 104, Char.ofNat 97, Char.ofNat 110, Char.ofNat 100, Char.ofNat 115, Char.ofNat 46, Char.ofNat 103, Char.ofNat 111, Char.ofNat 58, Char.ofNat 55]), #[⟨0, .data⟩], none⟩, none, []⟩, ⟨2, (some 2), .move (.tmp 4), none, []⟩])
 .ret)), [.tmp 2]⟩
/- bellarmine/post.firsts -/
def pf63 : PF := ⟨6, (.seq (.region false [⟨0, (some 2), .move (.const (.int .u16 0)), none, []⟩])
 (.seq (.region false [⟨0, (some 3), .move (.tmp 0), none, []⟩, ⟨1, (some 4), .callF 62 [(.tmp 3)], none, []⟩, ⟨2, (some 5), .ibin .sub .u16 (.tmp 4) (.const (.int .u16 1)), none, []⟩, ⟨3, (some 2), .move (.tmp 5), none, []⟩])
 .ret)), [.tmp 2]⟩
/- (bellarmine/post.rating).rated$1 -/
def pf64 : PF := ⟨18, (.seq (.region false [⟨0, (some 2), .box 58 (.tmp 0), none, []⟩])
 (.seq (.region false [⟨0, (some 4), .fieldAddr (.tmp 1) 0, none, []⟩, ⟨1, (some 5), .load1 (.tmp 4), none, []⟩, ⟨2, (some 6), .callF 65 [(.tmp 5)], none, []⟩])
 (.block 0 (.rangeFunc (.tmp 6) [7] (.region false [⟨0, (some 3), .move (.tmp 7), none, []⟩]) (.block 1 (.seq (.region false [⟨0, (some 8), .fieldAddr (.tmp 1) 1, none, []⟩, ⟨1, (some 9), .load1 (.tmp 8), none, []⟩, ⟨2, (some 10), .move (.tmp 3), none, []⟩, ⟨3, (some 11), .callV (.tmp 9) [(.tmp 10)], none, []⟩, ⟨4, (some 12), .move (.tmp 11), none, []⟩, ⟨5, (some 13), .load1 (.tmp 2), (some (12, true)), []⟩, ⟨6, (some 14), .move (.tmp 3), (some (12, true)), []⟩, ⟨7, (some 15), .callV (.tmp 13) [(.tmp 14)], (some (12, true)), []⟩, ⟨8, (some 16), .not (.tmp 15), (some (12, true)), []⟩, ⟨9, (some 17), .pick (.tmp 12) (.tmp 16) (.const (.bool false)), none, []⟩])
 (.cond (.tmp 17) .ret .skip))))))), []⟩
/- bellarmine/post.allLists -/
def pf65 : PF := ⟨4, (.seq (.region false [⟨0, (some 1), .box 3 (.tmp 0), none, []⟩, ⟨1, (some 2), .move (.const .nilFunc), none, []⟩])
 (.seq (.region false [⟨0, (some 3), .mkF (.func 68) #[] #[(.tmp 1)], none, []⟩, ⟨1, (some 2), .move (.tmp 3), none, []⟩])
 .ret)), [.tmp 2]⟩
/- bellarmine/post.timesIn -/
def pf66 : PF := ⟨21, (.seq (.region false [⟨0, (some 4), .move (.const (.int .i64 0)), none, []⟩])
 (.seq (.region false [⟨0, (some 5), .move (.const (.int .i64 0)), none, []⟩])
 (.seq (.seq (.region false [⟨0, (some 8), .move (.tmp 0), none, []⟩, ⟨1, (some 9), .len (.tmp 8), none, []⟩, ⟨2, (some 10), .move (.const (.int .i64 0)), none, []⟩])
 (.block 0 (.loop (.seq (.region false [⟨0, (some 11), .ibin .lss .i64 (.tmp 10) (.tmp 9), none, []⟩])
 (.seq (.cond (.tmp 11) .skip (.exit 0))
 (.seq (.block 1 (.seq (.region false [⟨0, (some 12), .idxS (.tmp 8) (.tmp 10) 1, none, []⟩, ⟨1, (some 13), .load1 (.tmp 12), none, []⟩, ⟨2, (some 7), .move (.tmp 13), none, []⟩])
 (.seq (.region false [⟨0, (some 14), .move (.tmp 7), none, []⟩, ⟨1, (some 15), .move (.tmp 1), none, []⟩, ⟨2, (some 16), .callF 29 [(.tmp 14), (.tmp 15)], none, []⟩])
 (.cond (.tmp 16) (.region false [⟨0, (some 17), .move (.tmp 5), none, []⟩, ⟨1, (some 18), .ibin .add .i64 (.tmp 17) (.const (.int .i64 1)), none, []⟩, ⟨2, (some 5), .move (.tmp 18), none, []⟩]) .skip))))
 (.region false [⟨0, (some 19), .ibin .add .i64 (.tmp 10) (.const (.int .i64 1)), none, []⟩, ⟨1, (some 10), .move (.tmp 19), none, []⟩])))))))
 (.seq (.region false [⟨0, (some 20), .move (.tmp 5), none, []⟩, ⟨1, (some 4), .move (.tmp 20), none, []⟩])
 .ret)))), [.tmp 4]⟩
/- bellarmine/post.byPrice$1 -/
def pf67 : PF := ⟨8, (.seq (.region false [⟨0, (some 3), .move (.const (.int .i64 0)), none, []⟩])
 (.seq (.region false [⟨0, (some 4), .load1 (.tmp 1), none, []⟩, ⟨1, (some 5), .move (.tmp 0), none, []⟩, ⟨2, (some 6), .idxS (.tmp 4) (.tmp 5) 1, none, []⟩, ⟨3, (some 7), .load1 (.tmp 6), none, []⟩, ⟨4, (some 3), .move (.tmp 7), none, []⟩])
 .ret)), [.tmp 3]⟩
/- bellarmine/post.allLists$1 -/
def pf68 : PF := ⟨15, (.seq (.region false [⟨0, (some 4), .load1 (.tmp 1), none, []⟩, ⟨1, (some 5), .mkS 3 [(.int .i64 0)] (.const (.int .i64 0)) (.tmp 4), none, []⟩, ⟨2, (some 3), .move (.tmp 5), none, []⟩])
 (.block 0 (.loop (.seq (.seq (.region false [⟨0, (some 6), .move (.tmp 0), none, []⟩, ⟨1, (some 7), .move (.tmp 3), none, []⟩, ⟨2, (some 8), .callV (.tmp 6) [(.tmp 7)], none, []⟩])
 (.cond (.tmp 8) .skip (.exit 0)))
 (.block 1 (.seq (.region false [⟨0, (some 9), .move (.tmp 3), none, []⟩, ⟨1, (some 10), .load1 (.tmp 1), none, []⟩, ⟨2, (some 11), .callF 69 [(.tmp 9), (.tmp 10)], none, []⟩, ⟨3, (some 3), .move (.tmp 11), none, []⟩])
 (.seq (.region false [⟨0, (some 12), .move (.tmp 3), none, []⟩, ⟨1, (some 13), .len (.tmp 12), none, []⟩, ⟨2, (some 14), .ibin .eql .i64 (.tmp 13) (.const (.int .i64 0)), none, []⟩])
 (.cond (.tmp 14) .ret .skip)))))))), []⟩
/- bellarmine/post.next -/
def pf69 : PF := ⟨44, (.seq (.region false [⟨0, (some 4), .move (.const (.slice none 0 0)), none, []⟩])
 (.seq (.seq (.region false [⟨0, (some 6), .move (.tmp 0), none, []⟩, ⟨1, (some 7), .len (.tmp 6), none, []⟩, ⟨2, (some 8), .ibin .eql .i64 (.tmp 7) (.const (.int .i64 0)), none, []⟩])
 (.cond (.tmp 8) (.seq (.region false [⟨0, (some 9), .move (.tmp 0), none, []⟩, ⟨1, (some 10), .bldS 3 1 [(.int .i64 0)] 1 [(0, (.const (.int .i64 0)))], none, []⟩, ⟨2, (some 11), .append 3 1 (.tmp 9) (.tmp 10), none, []⟩, ⟨3, (some 4), .move (.tmp 11), none, []⟩])
 .ret) .skip))
 (.seq (.region false [⟨0, (some 12), .move (.tmp 0), none, []⟩, ⟨1, (some 13), .move (.tmp 0), none, []⟩, ⟨2, (some 14), .len (.tmp 13), none, []⟩, ⟨3, (some 15), .ibin .sub .i64 (.tmp 14) (.const (.int .i64 1)), none, []⟩, ⟨4, (some 16), .idxS (.tmp 12) (.tmp 15) 1, none, []⟩, ⟨5, (some 17), .load1 (.tmp 16), none, []⟩, ⟨6, (some 5), .move (.tmp 17), none, []⟩])
 (.seq (.seq (.region false [⟨0, (some 18), .move (.tmp 5), none, []⟩, ⟨1, (some 19), .ibin .add .i64 (.tmp 18) (.const (.int .i64 1)), none, []⟩, ⟨2, (some 20), .move (.tmp 1), none, []⟩, ⟨3, (some 21), .ibin .lss .i64 (.tmp 19) (.tmp 20), none, []⟩])
 (.cond (.tmp 21) (.seq (.region false [⟨0, (some 22), .move (.tmp 0), none, []⟩, ⟨1, (some 23), .move (.tmp 5), none, []⟩, ⟨2, (some 24), .ibin .add .i64 (.tmp 23) (.const (.int .i64 1)), none, []⟩, ⟨3, (some 25), .bldS 3 1 [(.int .i64 0)] 1 [(0, (.tmp 24))], none, []⟩, ⟨4, (some 26), .append 3 1 (.tmp 22) (.tmp 25), none, []⟩, ⟨5, (some 4), .move (.tmp 26), none, []⟩])
 .ret) .skip))
 (.seq (.region false [⟨0, (some 27), .move (.tmp 0), none, []⟩, ⟨1, (some 28), .move (.tmp 0), none, []⟩, ⟨2, (some 29), .len (.tmp 28), none, []⟩, ⟨3, (some 30), .ibin .sub .i64 (.tmp 29) (.const (.int .i64 1)), none, []⟩, ⟨4, (some 31), .slS (.tmp 27) 1 none (some (.tmp 30)) none, none, []⟩, ⟨5, (some 0), .move (.tmp 31), none, []⟩])
 (.seq (.seq (.region false [⟨0, (some 32), .move (.tmp 0), none, []⟩, ⟨1, (some 33), .len (.tmp 32), none, []⟩, ⟨2, (some 34), .ibin .gtr .i64 (.tmp 33) (.const (.int .i64 0)), none, []⟩])
 (.cond (.tmp 34) (.region false [⟨0, (some 35), .move (.tmp 0), none, []⟩, ⟨1, (some 36), .move (.tmp 0), none, []⟩, ⟨2, (some 37), .len (.tmp 36), none, []⟩, ⟨3, (some 38), .ibin .sub .i64 (.tmp 37) (.const (.int .i64 1)), none, []⟩, ⟨4, (some 39), .idxS (.tmp 35) (.tmp 38) 1, none, []⟩, ⟨5, (some 40), .load1 (.tmp 39), none, []⟩, ⟨6, (some 41), .ibin .add .i64 (.tmp 40) (.const (.int .i64 1)), none, []⟩, ⟨7, (some 42), .idxS (.tmp 35) (.tmp 38) 1, none, []⟩, ⟨8, none, .store (.tmp 42) (.tmp 41) 1, none, []⟩]) .skip))
 (.seq (.region false [⟨0, (some 43), .move (.tmp 0), none, []⟩, ⟨1, (some 4), .move (.tmp 43), none, []⟩])
 .ret))))))), [.tmp 4]⟩
def funcs : Tr PF := (.node none (.node none (.node (some pf3) (.node (some pf7) (.node (some pf15) (.node (some pf31) (.node (some pf63) .nil .nil) .nil) (.node (some pf47) .nil .nil)) (.node (some pf23) (.node (some pf39) .nil .nil) (.node (some pf55) .nil .nil))) (.node (some pf11) (.node none (.node (some pf35) (.node (some pf67) .nil .nil) .nil) (.node (some pf51) .nil .nil)) (.node (some pf27) .nil (.node (some pf59) .nil .nil)))) (.node none (.node (some pf9) (.node (some pf17) (.node (some pf33) (.node (some pf65) .nil .nil) .nil) (.node (some pf49) .nil .nil)) (.node (some pf25) (.node (some pf41) .nil .nil) (.node (some pf57) .nil .nil))) (.node (some pf13) (.node (some pf21) (.node (some pf37) (.node (some pf69) .nil .nil) .nil) (.node (some pf53) .nil .nil)) (.node (some pf29) (.node (some pf45) .nil .nil) (.node (some pf61) .nil .nil))))) (.node none (.node none (.node (some pf8) (.node (some pf16) (.node (some pf32) (.node (some pf64) .nil .nil) .nil) (.node (some pf48) .nil .nil)) (.node (some pf24) (.node (some pf40) .nil .nil) (.node (some pf56) .nil .nil))) (.node (some pf12) (.node (some pf20) (.node (some pf36) (.node (some pf68) .nil .nil) .nil) (.node (some pf52) .nil .nil)) (.node (some pf28) .nil (.node (some pf60) .nil .nil)))) (.node none (.node (some pf10) (.node (some pf18) (.node (some pf34) (.node (some pf66) .nil .nil) .nil) (.node (some pf50) .nil .nil)) (.node (some pf26) .nil (.node (some pf58) .nil .nil))) (.node (some pf14) (.node (some pf22) (.node (some pf38) .nil .nil) (.node (some pf54) .nil .nil)) (.node (some pf30) (.node (some pf46) .nil .nil) (.node (some pf62) .nil .nil))))))
noncomputable def C : CW := ⟨{ P := Tryd.prog, funcs := funcs }, 19⟩
end Go.Proofs.YtcfffhkabhmkmaaDoor.Ps
