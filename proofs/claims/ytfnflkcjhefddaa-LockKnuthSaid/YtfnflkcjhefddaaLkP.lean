/- The program's functions, prepared: written by program, checked below. -/
import Derived.Test.YtfnflkcjhefddaaSymMono
import Derived.Test.YtfnflkcjhefddaaGl0
import Derived.Test.YtfnflkcjhefddaaRows
namespace Go.Proofs.Ytfnflkcjhefddaa.Lk
open Go Go.Abs
set_option maxRecDepth 100000
set_option maxHeartbeats 4000000
/- bellarmine/bellarminelaw11.LockKnuth -/
def pf7 : PF := ⟨143, (.seq (.region false [⟨0, (some 1), .box 50 (.tmp 0), none, []⟩, ⟨1, (some 2), .move (.const (.bool false)), none, []⟩])
 (.seq (.region false [⟨0, (some 20), .loadN (.tmp 1) 8, none, []⟩, ⟨1, (some 21), .callF 42 [(.tmp 20), (.const (.int .i64 7))], none, []⟩, ⟨2, (some 3), .move (.tmp 21), none, []⟩])
 (.seq (.region false [⟨0, (some 22), .move (.tmp 3), none, []⟩, ⟨1, (some 23), .len (.tmp 22), none, []⟩, ⟨2, (some 4), .move (.tmp 23), none, []⟩])
 (.seq (.region false [⟨0, (some 5), .new 4 [(.bool false)], none, []⟩, ⟨1, none, .store (.tmp 5) (.const (.bool false)) 1, none, []⟩])
 (.seq (.region false [⟨0, (some 24), .move (.tmp 3), none, []⟩, ⟨1, (some 25), .mkF (.func 44) #[] #[(.tmp 5)], none, []⟩, ⟨2, (some 26), .callF 43 [(.tmp 24), (.tmp 25)], none, []⟩])
 (.seq (.region false [⟨0, (some 27), .bldA [(.int .i64 0), (.int .i64 0), (.int .i64 0)] 1 [], none, []⟩, ⟨1, (some 6), .new 53 [(.int .i64 0), (.int .i64 0), (.int .i64 0)], none, []⟩, ⟨2, none, .store (.tmp 6) (.tmp 27) 3, none, []⟩])
 (.seq (.region false [⟨0, (some 7), .move (.const (.bool false)), none, []⟩])
 (.seq (.seq (.region false [⟨0, (some 28), .move (.tmp 4), none, []⟩, ⟨1, (some 29), .move (.const (.int .i64 0)), none, []⟩])
 (.block 0 (.loop (.seq (.region false [⟨0, (some 30), .ibin .lss .i64 (.tmp 29) (.tmp 28), none, []⟩])
 (.seq (.cond (.tmp 30) .skip (.exit 0))
 (.seq (.block 1 (.seq (.region false [⟨0, (some 31), .move (.tmp 29), none, []⟩, ⟨1, (some 8), .move (.tmp 31), none, []⟩])
 (.seq (.region false [⟨0, (some 32), .move (.tmp 4), none, []⟩, ⟨1, (some 33), .move (.const (.int .i64 0)), none, []⟩])
 (.block 2 (.loop (.seq (.region false [⟨0, (some 34), .ibin .lss .i64 (.tmp 33) (.tmp 32), none, []⟩])
 (.seq (.cond (.tmp 34) .skip (.exit 2))
 (.seq (.block 3 (.seq (.region false [⟨0, (some 35), .move (.tmp 33), none, []⟩, ⟨1, (some 9), .move (.tmp 35), none, []⟩])
 (.seq (.region false [⟨0, (some 36), .move (.tmp 4), none, []⟩, ⟨1, (some 37), .move (.const (.int .i64 0)), none, []⟩])
 (.block 4 (.loop (.seq (.region false [⟨0, (some 38), .ibin .lss .i64 (.tmp 37) (.tmp 36), none, []⟩])
 (.seq (.cond (.tmp 38) .skip (.exit 4))
 (.seq (.block 5 (.seq (.region false [⟨0, (some 39), .move (.tmp 37), none, []⟩, ⟨1, (some 10), .move (.tmp 39), none, []⟩])
 (.seq (.region false [⟨0, (some 11), .move (.const (.int .i64 7)), none, []⟩])
 (.seq (.seq (.region false [⟨0, (some 40), .move (.tmp 8), none, []⟩, ⟨1, (some 41), .move (.tmp 9), none, []⟩, ⟨2, (some 42), .ibin .lss .i64 (.tmp 40) (.tmp 41), none, []⟩, ⟨3, (some 43), .move (.tmp 42), none, []⟩, ⟨4, (some 44), .move (.tmp 9), (some (43, true)), []⟩, ⟨5, (some 45), .move (.tmp 10), (some (43, true)), []⟩, ⟨6, (some 46), .ibin .lss .i64 (.tmp 44) (.tmp 45), (some (43, true)), []⟩, ⟨7, (some 47), .pick (.tmp 43) (.tmp 46) (.const (.bool false)), none, []⟩])
 (.cond (.tmp 47) (.seq (.region false [⟨0, (some 11), .move (.const (.int .i64 14)), none, []⟩])
 (.seq (.region false [⟨0, (some 48), .move (.tmp 3), none, []⟩, ⟨1, (some 49), .move (.tmp 8), none, []⟩, ⟨2, (some 50), .move (.tmp 9), none, []⟩, ⟨3, (some 51), .move (.tmp 10), none, []⟩, ⟨4, (some 52), .callF 46 [(.tmp 48), (.tmp 49), (.tmp 50), (.tmp 51)], none, []⟩])
 (.cond (.tmp 52) (.seq (.region false [⟨0, (some 11), .move (.const (.int .i64 0)), none, []⟩])
 (.seq (.region false [⟨0, (some 53), .move (.tmp 7), none, []⟩, ⟨1, (some 54), .not (.tmp 53), none, []⟩])
 (.cond (.tmp 54) (.region false [⟨0, (some 55), .move (.tmp 8), none, []⟩, ⟨1, (some 56), .move (.tmp 9), none, []⟩, ⟨2, (some 57), .move (.tmp 10), none, []⟩, ⟨3, (some 58), .bldA [(.int .i64 0), (.int .i64 0), (.int .i64 0)] 1 [(0, (.tmp 55)), (1, (.tmp 56)), (2, (.tmp 57))], none, []⟩, ⟨4, none, .store (.tmp 6) (.tmp 58) 3, none, []⟩, ⟨5, (some 7), .move (.const (.bool true)), none, []⟩]) .skip))) .skip))) .skip))
 (.seq (.region false [⟨0, (some 59), .move (.tmp 8), none, []⟩, ⟨1, (some 60), .move (.tmp 9), none, []⟩, ⟨2, (some 61), .ibin .add .i64 (.tmp 59) (.tmp 60), none, []⟩, ⟨3, (some 62), .move (.tmp 10), none, []⟩, ⟨4, (some 63), .ibin .add .i64 (.tmp 61) (.tmp 62), none, []⟩, ⟨5, (some 64), .ibin .rem .i64 (.tmp 63) (.const (.int .i64 2)), none, []⟩, ⟨6, (some 65), .ibin .eql .i64 (.tmp 64) (.const (.int .i64 0)), none, []⟩, ⟨7, (some 66), .move (.tmp 65), none, []⟩, ⟨8, (some 67), .move (.tmp 3), (some (66, true)), []⟩, ⟨9, (some 68), .move (.tmp 8), (some (66, true)), []⟩, ⟨10, (some 69), .move (.tmp 9), (some (66, true)), []⟩, ⟨11, (some 70), .move (.tmp 10), (some (66, true)), []⟩, ⟨12, (some 71), .callF 31 [(.tmp 67), (.tmp 68), (.tmp 69), (.tmp 70)], (some (66, true)), []⟩, ⟨13, (some 72), .move (.tmp 11), (some (66, true)), []⟩, ⟨14, (some 73), .ibin .neq .i64 (.tmp 71) (.tmp 72), (some (66, true)), []⟩, ⟨15, (some 74), .pick (.tmp 66) (.tmp 73) (.const (.bool false)), none, []⟩])
 (.cond (.tmp 74) (.seq (.region false [⟨0, (some 2), .move (.const (.bool false)), none, []⟩])
 .ret) .skip))))))
 (.region false [⟨0, (some 75), .ibin .add .i64 (.tmp 37) (.const (.int .i64 1)), none, []⟩, ⟨1, (some 37), .move (.tmp 75), none, []⟩])))))))))
 (.region false [⟨0, (some 76), .ibin .add .i64 (.tmp 33) (.const (.int .i64 1)), none, []⟩, ⟨1, (some 33), .move (.tmp 76), none, []⟩])))))))))
 (.region false [⟨0, (some 77), .ibin .add .i64 (.tmp 29) (.const (.int .i64 1)), none, []⟩, ⟨1, (some 29), .move (.tmp 77), none, []⟩])))))))
 (.seq (.region false [⟨0, (some 79), .move (.tmp 3), none, []⟩, ⟨1, (some 80), .callF 25 [(.tmp 79)], none, []⟩, ⟨2, (some 78), .move (.tmp 80), none, []⟩, ⟨3, (some 81), .ext (.tmp 78) 0, none, []⟩, ⟨4, (some 82), .ext (.tmp 78) 1, none, []⟩, ⟨5, (some 12), .move (.tmp 81), none, []⟩, ⟨6, (some 13), .move (.tmp 82), none, []⟩])
 (.seq (.region false [⟨0, (some 84), .move (.tmp 3), none, []⟩, ⟨1, (some 85), .callF 16 [(.tmp 84)], none, []⟩, ⟨2, (some 83), .move (.tmp 85), none, []⟩, ⟨3, (some 86), .ext (.tmp 83) 0, none, []⟩, ⟨4, (some 87), .ext (.tmp 83) 1, none, []⟩, ⟨5, (some 14), .move (.tmp 86), none, []⟩, ⟨6, (some 15), .move (.tmp 87), none, []⟩])
 (.seq (.region false [⟨0, (some 89), .move (.tmp 3), none, []⟩, ⟨1, (some 90), .callF 27 [(.tmp 89)], none, []⟩, ⟨2, (some 88), .move (.tmp 90), none, []⟩, ⟨3, (some 91), .ext (.tmp 88) 0, none, []⟩, ⟨4, (some 92), .ext (.tmp 88) 1, none, []⟩, ⟨5, (some 93), .ext (.tmp 88) 2, none, []⟩, ⟨6, (some 94), .ext (.tmp 88) 3, none, []⟩, ⟨7, (some 16), .move (.tmp 91), none, []⟩, ⟨8, (some 17), .move (.tmp 92), none, []⟩, ⟨9, (some 18), .move (.tmp 93), none, []⟩, ⟨10, (some 19), .move (.tmp 94), none, []⟩])
 (.seq (.seq (.region true [⟨0, (some 95), .move (.tmp 13), none, []⟩, ⟨1, (some 96), .ibin .neq .i64 (.tmp 95) (.const (.int .i64 0)), none, []⟩, ⟨2, (some 97), .move (.tmp 96), none, []⟩, ⟨3, (some 98), .move (.tmp 15), (some (97, false)), []⟩, ⟨4, (some 99), .ibin .neq .i64 (.tmp 98) (.const (.int .i64 0)), (some (97, false)), []⟩, ⟨5, (some 100), .pick (.tmp 97) (.const (.bool true)) (.tmp 99), none, []⟩, ⟨6, (some 101), .move (.tmp 100), none, []⟩, ⟨7, (some 102), .move (.tmp 12), (some (101, false)), []⟩, ⟨8, (some 103), .load1 (.tmp 5), (some (101, false)), []⟩, ⟨9, (some 104), .plain ⟨(some 104), .binOp .neq 4 (.tmp 102) (.tmp 103) 4, 4, (String.ofList [Char.ofNat 111, Char.ofNat 117, Char.ofNat 116, Char.ofNat 114, Char.ofNat 105, Char.ofNat 103, Char.ofNat 104, Char.ofNat 116, Char.ofNat 46, Char.ofNat 103, Char.ofNat 111, Char.ofNat 58, Char.ofNat 49, Char.ofNat 51, Char.ofNat 53]), #[⟨7, .data⟩, ⟨8, .data⟩, ⟨6, .guard⟩], (some (6, false))⟩, (some (101, false)), []⟩, ⟨10, (some 105), .pick (.tmp 101) (.const (.bool true)) (.tmp 104), none, []⟩, ⟨11, (some 106), .move (.tmp 105), none, []⟩, ⟨12, (some 107), .load1 (.tmp 5), (some (106, false)), []⟩, ⟨13, (some 108), .move (.tmp 7), (some (106, false)), []⟩, ⟨14, (some 109), .plain ⟨(some 109), .binOp .eql 4 (.tmp 107) (.tmp 108) 4, 4, (String.ofList [Char.ofNat 111, Char.ofNat 117, Char.ofNat 116, Char.ofNat 114, Char.ofNat 105, Char.ofNat 103, Char.ofNat 104, Char.ofNat 116, Char.ofNat 46, Char.ofNat 103, Char.ofNat 111, Char.ofNat 58, Char.ofNat 49, Char.ofNat 51, Char.ofNat 53]), #[⟨12, .data⟩, ⟨13, .data⟩, ⟨11, .guard⟩], (some (11, false))⟩, (some (106, false)), []⟩, ⟨15, (some 110), .pick (.tmp 106) (.const (.bool true)) (.tmp 109), none, []⟩, ⟨16, (some 111), .move (.tmp 110), none, []⟩, ⟨17, (some 112), .move (.tmp 14), (some (111, false)), []⟩, ⟨18, (some 113), .move (.tmp 3), (some (111, false)), []⟩, ⟨19, (some 114), .callF 47 [(.tmp 113)], (some (111, false)), []⟩, ⟨20, (some 115), .callF 22 [(.tmp 112), (.tmp 114)], (some (111, false)), []⟩, ⟨21, (some 116), .not (.tmp 115), (some (111, false)), []⟩, ⟨22, (some 117), .pick (.tmp 111) (.const (.bool true)) (.tmp 116), none, []⟩, ⟨23, (some 118), .move (.tmp 117), none, []⟩, ⟨24, (some 119), .move (.tmp 14), (some (118, false)), []⟩, ⟨26, (some 121), .load1 (.tmp 5), (some (118, false)), []⟩, ⟨25, (some 120), .callF 45 [(.tmp 119)], (some (118, false)), [26]⟩, ⟨27, (some 122), .plain ⟨(some 122), .binOp .neq 4 (.tmp 120) (.tmp 121) 4, 4, (String.ofList [Char.ofNat 111, Char.ofNat 117, Char.ofNat 116, Char.ofNat 114, Char.ofNat 105, Char.ofNat 103, Char.ofNat 104, Char.ofNat 116, Char.ofNat 46, Char.ofNat 103, Char.ofNat 111, Char.ofNat 58, Char.ofNat 49, Char.ofNat 51, Char.ofNat 53]), #[⟨25, .data⟩, ⟨26, .data⟩, ⟨23, .guard⟩], (some (23, false))⟩, (some (118, false)), []⟩, ⟨28, (some 123), .pick (.tmp 118) (.const (.bool true)) (.tmp 122), none, []⟩, ⟨29, (some 124), .move (.tmp 123), none, []⟩, ⟨30, (some 125), .move (.tmp 16), (some (124, false)), []⟩, ⟨31, (some 126), .move (.tmp 17), (some (124, false)), []⟩, ⟨32, (some 127), .move (.tmp 18), (some (124, false)), []⟩, ⟨33, (some 128), .bldA [(.int .i64 0), (.int .i64 0), (.int .i64 0)] 1 [(0, (.tmp 125)), (1, (.tmp 126)), (2, (.tmp 127))], (some (124, false)), []⟩, ⟨34, (some 129), .loadN (.tmp 6) 3, (some (124, false)), []⟩, ⟨35, (some 130), .plain ⟨(some 130), .binOp .neq 53 (.tmp 128) (.tmp 129) 53, 4, (String.ofList [Char.ofNat 111, Char.ofNat 117, Char.ofNat 116, Char.ofNat 114, Char.ofNat 105, Char.ofNat 103, Char.ofNat 104, Char.ofNat 116, Char.ofNat 46, Char.ofNat 103, Char.ofNat 111, Char.ofNat 58, Char.ofNat 49, Char.ofNat 51, Char.ofNat 53]), #[⟨33, .data⟩, ⟨34, .data⟩, ⟨29, .guard⟩], (some (29, false))⟩, (some (124, false)), []⟩, ⟨36, (some 131), .pick (.tmp 124) (.const (.bool true)) (.tmp 130), none, []⟩])
 (.cond (.tmp 131) (.seq (.region false [⟨0, (some 2), .move (.const (.bool false)), none, []⟩])
 .ret) .skip))
 (.seq (.seq (.region false [⟨0, (some 132), .load1 (.tmp 5), none, []⟩])
 (.cond (.tmp 132) (.seq (.region false [⟨0, (some 133), .move (.tmp 19), none, []⟩, ⟨1, (some 134), .ibin .eql .i64 (.tmp 133) (.const (.int .i64 13)), none, []⟩, ⟨2, (some 135), .move (.tmp 134), none, []⟩, ⟨3, (some 136), .callF 15 [], (some (135, true)), []⟩, ⟨4, (some 137), .pick (.tmp 135) (.tmp 136) (.const (.bool false)), none, []⟩, ⟨5, (some 2), .move (.tmp 137), none, []⟩])
 .ret) .skip))
 (.seq (.region false [⟨0, (some 138), .move (.tmp 19), none, []⟩, ⟨1, (some 139), .ibin .eql .i64 (.tmp 138) (.const (.int .i64 0)), none, []⟩, ⟨2, (some 140), .move (.tmp 139), none, []⟩, ⟨3, (some 141), .callF 15 [], (some (140, true)), []⟩, ⟨4, (some 142), .pick (.tmp 140) (.tmp 141) (.const (.bool false)), none, []⟩, ⟨5, (some 2), .move (.tmp 142), none, []⟩])
 .ret)))))))))))))), [.tmp 2]⟩
/- bellarmine/lock.Pass -/
def pf16 : PF := ⟨12, (.seq (.region false [⟨0, (some 2), .move (.const (.slice none 0 0)), none, []⟩, ⟨1, (some 3), .move (.const (.int .i64 0)), none, []⟩])
 (.seq (.seq (.region false [⟨0, (some 5), .move (.tmp 0), none, []⟩, ⟨1, (some 6), .callF 23 [(.tmp 5)], none, []⟩, ⟨2, (some 4), .move (.tmp 6), none, []⟩])
 (.seq (.region false [⟨0, (some 7), .move (.tmp 4), none, []⟩, ⟨1, (some 8), .ibin .neq .i64 (.tmp 7) (.const (.int .i64 0)), none, []⟩])
 (.cond (.tmp 8) (.seq (.region false [⟨0, (some 9), .move (.tmp 4), none, []⟩, ⟨1, (some 2), .move (.const (.slice none 0 0)), none, []⟩, ⟨2, (some 3), .move (.tmp 9), none, []⟩])
 .ret) .skip)))
 (.seq (.region false [⟨0, (some 10), .move (.tmp 0), none, []⟩, ⟨1, (some 11), .callF 61 [(.tmp 10)], none, []⟩, ⟨2, (some 2), .move (.tmp 11), none, []⟩, ⟨3, (some 3), .move (.const (.int .i64 0)), none, []⟩])
 .ret))), [.tmp 2, .tmp 3]⟩
/- bellarmine/bellarminelaw11.same -/
def pf22 : PF := ⟨26, (.seq (.region false [⟨0, (some 4), .move (.const (.bool false)), none, []⟩])
 (.seq (.seq (.region false [⟨0, (some 6), .move (.tmp 0), none, []⟩, ⟨1, (some 7), .len (.tmp 6), none, []⟩, ⟨2, (some 8), .move (.tmp 1), none, []⟩, ⟨3, (some 9), .len (.tmp 8), none, []⟩, ⟨4, (some 10), .ibin .neq .i64 (.tmp 7) (.tmp 9), none, []⟩])
 (.cond (.tmp 10) (.seq (.region false [⟨0, (some 4), .move (.const (.bool false)), none, []⟩])
 .ret) .skip))
 (.seq (.seq (.region false [⟨0, (some 5), .move (.const (.int .i64 0)), none, []⟩])
 (.block 0 (.loop (.seq (.seq (.region false [⟨0, (some 11), .move (.tmp 5), none, []⟩, ⟨1, (some 12), .move (.tmp 0), none, []⟩, ⟨2, (some 13), .len (.tmp 12), none, []⟩, ⟨3, (some 14), .ibin .lss .i64 (.tmp 11) (.tmp 13), none, []⟩])
 (.cond (.tmp 14) .skip (.exit 0)))
 (.seq (.block 1 (.seq (.region true [⟨0, (some 17), .move (.tmp 0), none, []⟩, ⟨1, (some 18), .move (.tmp 5), none, []⟩, ⟨2, (some 19), .idxS (.tmp 17) (.tmp 18) 1, none, []⟩, ⟨3, (some 20), .load1 (.tmp 19), none, []⟩, ⟨4, (some 21), .move (.tmp 1), none, []⟩, ⟨5, (some 22), .move (.tmp 5), none, []⟩, ⟨6, (some 23), .idxS (.tmp 21) (.tmp 22) 1, none, []⟩, ⟨7, (some 24), .load1 (.tmp 23), none, []⟩, ⟨8, (some 25), .ibin .neq .i64 (.tmp 20) (.tmp 24), none, []⟩])
 (.cond (.tmp 25) (.seq (.region false [⟨0, (some 4), .move (.const (.bool false)), none, []⟩])
 .ret) .skip)))
 (.region false [⟨0, (some 15), .move (.tmp 5), none, []⟩, ⟨1, (some 16), .ibin .add .i64 (.tmp 15) (.const (.int .i64 1)), none, []⟩, ⟨2, (some 5), .move (.tmp 16), none, []⟩]))))))
 (.seq (.region false [⟨0, (some 4), .move (.const (.bool true)), none, []⟩])
 .ret)))), [.tmp 4]⟩
/- bellarmine/lock.Check -/
def pf23 : PF := ⟨30, (.seq (.region false [⟨0, (some 2), .move (.const (.int .i64 0)), none, []⟩])
 (.seq (.seq (.region false [⟨0, (some 5), .move (.tmp 0), none, []⟩, ⟨1, (some 6), .len (.tmp 5), none, []⟩, ⟨2, (some 7), .ibin .lss .i64 (.tmp 6) (.const (.int .i64 1)), none, []⟩, ⟨3, (some 8), .move (.tmp 7), none, []⟩, ⟨4, (some 9), .move (.tmp 0), (some (8, false)), []⟩, ⟨5, (some 10), .len (.tmp 9), (some (8, false)), []⟩, ⟨6, (some 11), .ibin .gtr .i64 (.tmp 10) (.const (.int .i64 7)), (some (8, false)), []⟩, ⟨7, (some 12), .pick (.tmp 8) (.const (.bool true)) (.tmp 11), none, []⟩])
 (.cond (.tmp 12) (.seq (.region false [⟨0, (some 2), .move (.const (.int .i64 1)), none, []⟩])
 .ret) .skip))
 (.seq (.seq (.region false [⟨0, (some 13), .move (.tmp 0), none, []⟩, ⟨1, (some 14), .len (.tmp 13), none, []⟩, ⟨2, (some 15), .move (.const (.int .i64 0)), none, []⟩])
 (.block 0 (.loop (.seq (.region false [⟨0, (some 16), .ibin .lss .i64 (.tmp 15) (.tmp 14), none, []⟩])
 (.seq (.cond (.tmp 16) .skip (.exit 0))
 (.seq (.block 1 (.seq (.region false [⟨0, (some 17), .move (.tmp 15), none, []⟩, ⟨1, (some 18), .idxS (.tmp 13) (.tmp 15) 1, none, []⟩, ⟨2, (some 19), .load1 (.tmp 18), none, []⟩, ⟨3, (some 3), .move (.tmp 17), none, []⟩, ⟨4, (some 4), .move (.tmp 19), none, []⟩])
 (.seq (.seq (.region false [⟨0, (some 20), .move (.tmp 0), none, []⟩, ⟨1, (some 21), .move (.tmp 4), none, []⟩, ⟨2, (some 22), .callF 67 [(.tmp 20), (.tmp 21)], none, []⟩, ⟨3, (some 23), .not (.tmp 22), none, []⟩])
 (.cond (.tmp 23) (.seq (.region false [⟨0, (some 2), .move (.const (.int .i64 2)), none, []⟩])
 .ret) .skip))
 (.seq (.region false [⟨0, (some 24), .move (.tmp 0), none, []⟩, ⟨1, (some 25), .move (.tmp 3), none, []⟩, ⟨2, (some 26), .slS (.tmp 24) 1 none (some (.tmp 25)) none, none, []⟩, ⟨3, (some 27), .move (.tmp 4), none, []⟩, ⟨4, (some 28), .callF 68 [(.tmp 26), (.tmp 27)], none, []⟩])
 (.cond (.tmp 28) (.seq (.region false [⟨0, (some 2), .move (.const (.int .i64 6)), none, []⟩])
 .ret) .skip)))))
 (.region false [⟨0, (some 29), .ibin .add .i64 (.tmp 15) (.const (.int .i64 1)), none, []⟩, ⟨1, (some 15), .move (.tmp 29), none, []⟩])))))))
 (.seq (.region false [⟨0, (some 2), .move (.const (.int .i64 0)), none, []⟩])
 .ret)))), [.tmp 2]⟩
/- bellarmine/lock.Sorted -/
def pf25 : PF := ⟨17, (.seq (.region false [⟨0, (some 2), .move (.const (.bool false)), none, []⟩, ⟨1, (some 3), .move (.const (.int .i64 0)), none, []⟩])
 (.seq (.seq (.region false [⟨0, (some 6), .move (.tmp 0), none, []⟩, ⟨1, (some 7), .callF 23 [(.tmp 6)], none, []⟩, ⟨2, (some 4), .move (.tmp 7), none, []⟩])
 (.seq (.region false [⟨0, (some 8), .move (.tmp 4), none, []⟩, ⟨1, (some 9), .ibin .neq .i64 (.tmp 8) (.const (.int .i64 0)), none, []⟩])
 (.cond (.tmp 9) (.seq (.region false [⟨0, (some 10), .move (.tmp 4), none, []⟩, ⟨1, (some 2), .move (.const (.bool false)), none, []⟩, ⟨2, (some 3), .move (.tmp 10), none, []⟩])
 .ret) .skip)))
 (.seq (.region false [⟨0, (some 11), .move (.tmp 0), none, []⟩, ⟨1, (some 12), .len (.tmp 11), none, []⟩, ⟨2, (some 13), .mkS 3 [(.int .i64 0)] (.tmp 12) (.tmp 12), none, []⟩, ⟨3, (some 5), .move (.tmp 13), none, []⟩])
 (.seq (.region false [⟨0, (some 14), .move (.tmp 0), none, []⟩, ⟨1, (some 15), .move (.tmp 5), none, []⟩, ⟨2, (some 16), .callF 71 [(.tmp 14), (.tmp 15)], none, []⟩, ⟨3, (some 2), .move (.tmp 16), none, []⟩, ⟨4, (some 3), .move (.const (.int .i64 0)), none, []⟩])
 .ret)))), [.tmp 2, .tmp 3]⟩
/- bellarmine/lock.Why -/
def pf27 : PF := ⟨42, (.seq (.region false [⟨0, (some 2), .move (.const (.int .i64 0)), none, []⟩, ⟨1, (some 3), .move (.const (.int .i64 0)), none, []⟩, ⟨2, (some 4), .move (.const (.int .i64 0)), none, []⟩, ⟨3, (some 5), .move (.const (.int .i64 0)), none, []⟩])
 (.seq (.seq (.region false [⟨0, (some 7), .move (.tmp 0), none, []⟩, ⟨1, (some 8), .callF 23 [(.tmp 7)], none, []⟩, ⟨2, (some 6), .move (.tmp 8), none, []⟩])
 (.seq (.region false [⟨0, (some 9), .move (.tmp 6), none, []⟩, ⟨1, (some 10), .ibin .neq .i64 (.tmp 9) (.const (.int .i64 0)), none, []⟩])
 (.cond (.tmp 10) (.seq (.region false [⟨0, (some 11), .move (.tmp 6), none, []⟩, ⟨1, (some 2), .move (.const (.int .i64 0)), none, []⟩, ⟨2, (some 3), .move (.const (.int .i64 0)), none, []⟩, ⟨3, (some 4), .move (.const (.int .i64 0)), none, []⟩, ⟨4, (some 5), .move (.tmp 11), none, []⟩])
 .ret) .skip)))
 (.seq (.seq (.region false [⟨0, (some 12), .move (.tmp 0), none, []⟩, ⟨1, (some 13), .len (.tmp 12), none, []⟩, ⟨2, (some 14), .move (.const (.int .i64 0)), none, []⟩])
 (.block 0 (.loop (.seq (.region false [⟨0, (some 15), .ibin .lss .i64 (.tmp 14) (.tmp 13), none, []⟩])
 (.seq (.cond (.tmp 15) .skip (.exit 0))
 (.seq (.block 1 (.seq (.region false [⟨0, (some 16), .move (.tmp 14), none, []⟩, ⟨1, (some 2), .move (.tmp 16), none, []⟩])
 (.seq (.region false [⟨0, (some 17), .move (.tmp 2), none, []⟩, ⟨1, (some 18), .ibin .add .i64 (.tmp 17) (.const (.int .i64 1)), none, []⟩, ⟨2, (some 3), .move (.tmp 18), none, []⟩])
 (.block 2 (.loop (.seq (.seq (.region false [⟨0, (some 19), .move (.tmp 3), none, []⟩, ⟨1, (some 20), .move (.tmp 0), none, []⟩, ⟨2, (some 21), .len (.tmp 20), none, []⟩, ⟨3, (some 22), .ibin .lss .i64 (.tmp 19) (.tmp 21), none, []⟩])
 (.cond (.tmp 22) .skip (.exit 2)))
 (.seq (.block 3 (.seq (.region false [⟨0, (some 25), .move (.tmp 3), none, []⟩, ⟨1, (some 26), .ibin .add .i64 (.tmp 25) (.const (.int .i64 1)), none, []⟩, ⟨2, (some 4), .move (.tmp 26), none, []⟩])
 (.block 4 (.loop (.seq (.seq (.region false [⟨0, (some 27), .move (.tmp 4), none, []⟩, ⟨1, (some 28), .move (.tmp 0), none, []⟩, ⟨2, (some 29), .len (.tmp 28), none, []⟩, ⟨3, (some 30), .ibin .lss .i64 (.tmp 27) (.tmp 29), none, []⟩])
 (.cond (.tmp 30) .skip (.exit 4)))
 (.seq (.block 5 (.seq (.region false [⟨0, (some 33), .move (.tmp 0), none, []⟩, ⟨1, (some 34), .move (.tmp 2), none, []⟩, ⟨2, (some 35), .move (.tmp 3), none, []⟩, ⟨3, (some 36), .move (.tmp 4), none, []⟩, ⟨4, (some 37), .callF 73 [(.tmp 33), (.tmp 34), (.tmp 35), (.tmp 36)], none, []⟩])
 (.cond (.tmp 37) (.seq (.region false [⟨0, (some 38), .move (.tmp 2), none, []⟩, ⟨1, (some 39), .move (.tmp 3), none, []⟩, ⟨2, (some 40), .move (.tmp 4), none, []⟩, ⟨3, (some 2), .move (.tmp 38), none, []⟩, ⟨4, (some 3), .move (.tmp 39), none, []⟩, ⟨5, (some 4), .move (.tmp 40), none, []⟩, ⟨6, (some 5), .move (.const (.int .i64 0)), none, []⟩])
 .ret) .skip)))
 (.region false [⟨0, (some 31), .move (.tmp 4), none, []⟩, ⟨1, (some 32), .ibin .add .i64 (.tmp 31) (.const (.int .i64 1)), none, []⟩, ⟨2, (some 4), .move (.tmp 32), none, []⟩])))))))
 (.region false [⟨0, (some 23), .move (.tmp 3), none, []⟩, ⟨1, (some 24), .ibin .add .i64 (.tmp 23) (.const (.int .i64 1)), none, []⟩, ⟨2, (some 3), .move (.tmp 24), none, []⟩]))))))))
 (.region false [⟨0, (some 41), .ibin .add .i64 (.tmp 14) (.const (.int .i64 1)), none, []⟩, ⟨1, (some 14), .move (.tmp 41), none, []⟩])))))))
 (.seq (.region false [⟨0, (some 2), .move (.const (.int .i64 0)), none, []⟩, ⟨1, (some 3), .move (.const (.int .i64 0)), none, []⟩, ⟨2, (some 4), .move (.const (.int .i64 0)), none, []⟩, ⟨3, (some 5), .move (.const (.int .i64 13)), none, []⟩])
 .ret)))), [.tmp 2, .tmp 3, .tmp 4, .tmp 5]⟩
/- bellarmine/lock.Proves -/
def pf31 : PF := ⟨45, (.seq (.region false [⟨0, (some 8), .move (.const (.int .i64 0)), none, []⟩])
 (.seq (.seq (.region false [⟨0, (some 10), .move (.tmp 0), none, []⟩, ⟨1, (some 11), .callF 23 [(.tmp 10)], none, []⟩, ⟨2, (some 9), .move (.tmp 11), none, []⟩])
 (.seq (.region false [⟨0, (some 12), .move (.tmp 9), none, []⟩, ⟨1, (some 13), .ibin .neq .i64 (.tmp 12) (.const (.int .i64 0)), none, []⟩])
 (.cond (.tmp 13) (.seq (.region false [⟨0, (some 14), .move (.tmp 9), none, []⟩, ⟨1, (some 8), .move (.tmp 14), none, []⟩])
 .ret) .skip)))
 (.seq (.seq (.region false [⟨0, (some 15), .move (.tmp 0), none, []⟩, ⟨1, (some 16), .move (.tmp 1), none, []⟩, ⟨2, (some 17), .callF 67 [(.tmp 15), (.tmp 16)], none, []⟩, ⟨3, (some 18), .not (.tmp 17), none, []⟩, ⟨4, (some 19), .move (.tmp 18), none, []⟩, ⟨5, (some 20), .move (.tmp 0), (some (19, false)), []⟩, ⟨6, (some 21), .move (.tmp 2), (some (19, false)), []⟩, ⟨7, (some 22), .callF 67 [(.tmp 20), (.tmp 21)], (some (19, false)), []⟩, ⟨8, (some 23), .not (.tmp 22), (some (19, false)), []⟩, ⟨9, (some 24), .pick (.tmp 19) (.const (.bool true)) (.tmp 23), none, []⟩, ⟨10, (some 25), .move (.tmp 24), none, []⟩, ⟨11, (some 26), .move (.tmp 0), (some (25, false)), []⟩, ⟨12, (some 27), .move (.tmp 3), (some (25, false)), []⟩, ⟨13, (some 28), .callF 67 [(.tmp 26), (.tmp 27)], (some (25, false)), []⟩, ⟨14, (some 29), .not (.tmp 28), (some (25, false)), []⟩, ⟨15, (some 30), .pick (.tmp 25) (.const (.bool true)) (.tmp 29), none, []⟩])
 (.cond (.tmp 30) (.seq (.region false [⟨0, (some 8), .move (.const (.int .i64 2)), none, []⟩])
 .ret) .skip))
 (.seq (.seq (.region false [⟨0, (some 31), .move (.tmp 1), none, []⟩, ⟨1, (some 32), .move (.tmp 2), none, []⟩, ⟨2, (some 33), .ibin .geq .i64 (.tmp 31) (.tmp 32), none, []⟩, ⟨3, (some 34), .move (.tmp 33), none, []⟩, ⟨4, (some 35), .move (.tmp 2), (some (34, false)), []⟩, ⟨5, (some 36), .move (.tmp 3), (some (34, false)), []⟩, ⟨6, (some 37), .ibin .geq .i64 (.tmp 35) (.tmp 36), (some (34, false)), []⟩, ⟨7, (some 38), .pick (.tmp 34) (.const (.bool true)) (.tmp 37), none, []⟩])
 (.cond (.tmp 38) (.seq (.region false [⟨0, (some 8), .move (.const (.int .i64 7)), none, []⟩])
 .ret) .skip))
 (.seq (.seq (.region false [⟨0, (some 39), .move (.tmp 0), none, []⟩, ⟨1, (some 40), .move (.tmp 1), none, []⟩, ⟨2, (some 41), .move (.tmp 2), none, []⟩, ⟨3, (some 42), .move (.tmp 3), none, []⟩, ⟨4, (some 43), .callF 73 [(.tmp 39), (.tmp 40), (.tmp 41), (.tmp 42)], none, []⟩, ⟨5, (some 44), .not (.tmp 43), none, []⟩])
 (.cond (.tmp 44) (.seq (.region false [⟨0, (some 8), .move (.const (.int .i64 14)), none, []⟩])
 .ret) .skip))
 (.seq (.region false [⟨0, (some 8), .move (.const (.int .i64 0)), none, []⟩])
 .ret)))))), [.tmp 8]⟩
/- bellarmine/lock.Two -/
def pf39 : PF := ⟨19, (.seq (.region false [⟨0, (some 1), .box 22 (.tmp 0), none, []⟩, ⟨1, (some 2), .new 22 [(.slice none 0 0)], none, []⟩, ⟨2, (some 3), .new 24 [(.int .i64 0)], none, []⟩])
 (.seq (.seq (.region false [⟨0, (some 6), .load1 (.tmp 1), none, []⟩, ⟨1, (some 7), .callF 23 [(.tmp 6)], none, []⟩, ⟨2, (some 4), .move (.tmp 7), none, []⟩])
 (.seq (.region false [⟨0, (some 8), .move (.tmp 4), none, []⟩, ⟨1, (some 9), .ibin .neq .i64 (.tmp 8) (.const (.int .i64 0)), none, []⟩])
 (.cond (.tmp 9) (.seq (.region false [⟨0, (some 10), .move (.tmp 4), none, []⟩, ⟨1, none, .store (.tmp 2) (.const (.slice none 0 0)) 1, none, []⟩, ⟨2, none, .store (.tmp 3) (.tmp 10) 1, none, []⟩])
 .ret) .skip)))
 (.seq (.seq (.region false [⟨0, (some 11), .load1 (.tmp 1), none, []⟩, ⟨1, (some 12), .len (.tmp 11), none, []⟩, ⟨2, (some 13), .callF 77 [(.tmp 12), (.const (.int .i64 2)), (.func 85)], none, []⟩])
 (.block 0 (.rangeFunc (.tmp 13) [14] (.region false [⟨0, (some 5), .move (.tmp 14), none, []⟩]) (.block 1 (.seq (.region false [⟨0, (some 15), .load1 (.tmp 1), none, []⟩, ⟨1, (some 16), .move (.tmp 5), none, []⟩, ⟨2, (some 17), .callF 71 [(.tmp 15), (.tmp 16)], none, []⟩])
 (.cond (.tmp 17) (.seq (.region false [⟨0, (some 18), .move (.tmp 5), none, []⟩, ⟨1, none, .store (.tmp 2) (.tmp 18) 1, none, []⟩, ⟨2, none, .store (.tmp 3) (.const (.int .i64 0)) 1, none, []⟩])
 .ret) .skip))))))
 (.seq (.region false [⟨0, none, .store (.tmp 2) (.const (.slice none 0 0)) 1, none, []⟩, ⟨1, none, .store (.tmp 3) (.const (.int .i64 12)) 1, none, []⟩])
 .ret)))), [.cell 2 none, .cell 3 none]⟩
/- (bellarmine/bellarminelaw11.Train).made -/
def pf42 : PF := ⟨52, (.seq (.region false [⟨0, (some 2), .box 50 (.tmp 0), none, []⟩, ⟨1, (some 4), .move (.const (.slice none 0 0)), none, []⟩])
 (.seq (.region false [⟨0, (some 11), .fieldAddr (.tmp 2) 0, none, []⟩, ⟨1, (some 12), .load1 (.tmp 11), none, []⟩, ⟨2, (some 13), .plain ⟨(some 13), .convert 5 3 (.tmp 12), 3, (String.ofList [Char.ofNat 111, Char.ofNat 117, Char.ofNat 116, Char.ofNat 114, Char.ofNat 105, Char.ofNat 103, Char.ofNat 104, Char.ofNat 116, Char.ofNat 46, Char.ofNat 103, Char.ofNat 111, Char.ofNat 58, Char.ofNat 50, Char.ofNat 48]), #[⟨1, .data⟩], none⟩, none, []⟩, ⟨3, (some 14), .move (.tmp 1), none, []⟩, ⟨4, (some 15), .ibin .rem .i64 (.tmp 13) (.tmp 14), none, []⟩, ⟨5, (some 16), .ibin .add .i64 (.const (.int .i64 1)) (.tmp 15), none, []⟩, ⟨6, (some 5), .move (.tmp 16), none, []⟩])
 (.seq (.region false [⟨0, (some 6), .move (.const (.slice none 0 0)), none, []⟩, ⟨1, (some 7), .move (.const (.slice none 0 0)), none, []⟩])
 (.seq (.seq (.region false [⟨0, (some 17), .move (.tmp 5), none, []⟩, ⟨1, (some 18), .move (.const (.int .i64 0)), none, []⟩])
 (.block 0 (.loop (.seq (.region false [⟨0, (some 19), .ibin .lss .i64 (.tmp 18) (.tmp 17), none, []⟩])
 (.seq (.cond (.tmp 19) .skip (.exit 0))
 (.seq (.block 1 (.seq (.region false [⟨0, (some 20), .move (.tmp 18), none, []⟩, ⟨1, (some 8), .move (.tmp 20), none, []⟩])
 (.region false [⟨0, (some 21), .move (.tmp 6), none, []⟩, ⟨1, (some 22), .move (.tmp 8), none, []⟩, ⟨2, (some 23), .bldS 3 1 [(.int .i64 0)] 1 [(0, (.tmp 22))], none, []⟩, ⟨3, (some 24), .append 3 1 (.tmp 21) (.tmp 23), none, []⟩, ⟨4, (some 6), .move (.tmp 24), none, []⟩])))
 (.region false [⟨0, (some 25), .ibin .add .i64 (.tmp 18) (.const (.int .i64 1)), none, []⟩, ⟨1, (some 18), .move (.tmp 25), none, []⟩])))))))
 (.seq (.seq (.region false [⟨0, (some 26), .move (.tmp 5), none, []⟩, ⟨1, (some 27), .move (.const (.int .i64 0)), none, []⟩])
 (.block 2 (.loop (.seq (.region false [⟨0, (some 28), .ibin .lss .i64 (.tmp 27) (.tmp 26), none, []⟩])
 (.seq (.cond (.tmp 28) .skip (.exit 2))
 (.seq (.block 3 (.seq (.region false [⟨0, (some 29), .move (.tmp 27), none, []⟩, ⟨1, (some 9), .move (.tmp 29), none, []⟩])
 (.seq (.region false [⟨0, (some 30), .move (.tmp 9), none, []⟩, ⟨1, (some 31), .fieldAddr (.tmp 2) 1, none, []⟩, ⟨2, (some 32), .idxA (.tmp 31) (.tmp 30) 7 1, none, []⟩, ⟨3, (some 33), .load1 (.tmp 32), none, []⟩, ⟨4, (some 34), .plain ⟨(some 34), .convert 5 3 (.tmp 33), 3, (String.ofList [Char.ofNat 111, Char.ofNat 117, Char.ofNat 116, Char.ofNat 114, Char.ofNat 105, Char.ofNat 103, Char.ofNat 104, Char.ofNat 116, Char.ofNat 46, Char.ofNat 103, Char.ofNat 111, Char.ofNat 58, Char.ofNat 50, Char.ofNat 54]), #[⟨3, .data⟩], none⟩, none, []⟩, ⟨5, (some 35), .move (.tmp 6), none, []⟩, ⟨6, (some 36), .len (.tmp 35), none, []⟩, ⟨7, (some 37), .ibin .rem .i64 (.tmp 34) (.tmp 36), none, []⟩, ⟨8, (some 10), .move (.tmp 37), none, []⟩])
 (.seq (.region false [⟨0, (some 38), .move (.tmp 7), none, []⟩, ⟨1, (some 39), .move (.tmp 6), none, []⟩, ⟨2, (some 40), .move (.tmp 10), none, []⟩, ⟨3, (some 41), .idxS (.tmp 39) (.tmp 40) 1, none, []⟩, ⟨4, (some 42), .load1 (.tmp 41), none, []⟩, ⟨5, (some 43), .bldS 3 1 [(.int .i64 0)] 1 [(0, (.tmp 42))], none, []⟩, ⟨6, (some 44), .append 3 1 (.tmp 38) (.tmp 43), none, []⟩, ⟨7, (some 7), .move (.tmp 44), none, []⟩])
 (.region false [⟨0, (some 45), .move (.tmp 6), none, []⟩, ⟨1, (some 46), .move (.tmp 10), none, []⟩, ⟨2, (some 47), .move (.tmp 10), none, []⟩, ⟨3, (some 48), .ibin .add .i64 (.tmp 47) (.const (.int .i64 1)), none, []⟩, ⟨4, (some 49), .callF 87 [(.tmp 45), (.tmp 46), (.tmp 48)], none, []⟩, ⟨5, (some 6), .move (.tmp 49), none, []⟩])))))
 (.region false [⟨0, (some 50), .ibin .add .i64 (.tmp 27) (.const (.int .i64 1)), none, []⟩, ⟨1, (some 27), .move (.tmp 50), none, []⟩])))))))
 (.seq (.region false [⟨0, (some 51), .move (.tmp 7), none, []⟩, ⟨1, (some 4), .move (.tmp 51), none, []⟩])
 .ret)))))), [.tmp 4]⟩
/- bellarmine/bellarminelaw11.reach -/
def pf43 : PF := ⟨8, (.seq (.region false [⟨0, (some 2), .box 22 (.tmp 0), none, []⟩, ⟨1, (some 3), .box 32 (.tmp 1), none, []⟩])
 (.seq (.region false [⟨0, (some 4), .new 97 [.nilFunc], none, []⟩])
 (.seq (.region false [⟨0, (some 5), .mkF (.func 88) #[] #[(.tmp 2), (.tmp 3), (.tmp 4)], none, []⟩, ⟨1, none, .store (.tmp 4) (.tmp 5) 1, none, []⟩])
 (.region false [⟨0, (some 6), .load1 (.tmp 4), none, []⟩, ⟨1, (some 7), .callV (.tmp 6) [(.const (.int .i64 0)), (.const (.slice none 0 0)), (.const (.slice none 0 0)), (.const (.string ⟨#[]⟩))], none, []⟩])))), []⟩
/- bellarmine/bellarminelaw11.LockKnuth$1 -/
def pf44 : PF := ⟨10, (.seq (.region false [⟨0, (some 5), .move (.const (.bool false)), none, []⟩])
 (.seq (.region false [⟨0, (some 6), .move (.tmp 0), none, []⟩, ⟨1, (some 7), .callF 45 [(.tmp 6)], none, []⟩, ⟨2, none, .store (.tmp 2) (.tmp 7) 1, none, []⟩])
 (.seq (.region false [⟨0, (some 8), .load1 (.tmp 2), none, []⟩, ⟨1, (some 9), .not (.tmp 8), none, []⟩, ⟨2, (some 5), .move (.tmp 9), none, []⟩])
 .ret))), [.tmp 5]⟩
/- slices.IsSorted[[]int,int] -/
def pf45 : PF := ⟨21, (.seq (.region false [⟨0, (some 2), .move (.const (.bool false)), none, []⟩])
 (.seq (.seq (.region false [⟨0, (some 4), .move (.tmp 0), none, []⟩, ⟨1, (some 5), .len (.tmp 4), none, []⟩, ⟨2, (some 6), .ibin .sub .i64 (.tmp 5) (.const (.int .i64 1)), none, []⟩, ⟨3, (some 3), .move (.tmp 6), none, []⟩])
 (.block 0 (.loop (.seq (.seq (.region false [⟨0, (some 7), .move (.tmp 3), none, []⟩, ⟨1, (some 8), .ibin .gtr .i64 (.tmp 7) (.const (.int .i64 0)), none, []⟩])
 (.cond (.tmp 8) .skip (.exit 0)))
 (.seq (.block 1 (.seq (.region true [⟨0, (some 11), .move (.tmp 0), none, []⟩, ⟨1, (some 12), .move (.tmp 3), none, []⟩, ⟨2, (some 13), .idxS (.tmp 11) (.tmp 12) 1, none, []⟩, ⟨3, (some 14), .load1 (.tmp 13), none, []⟩, ⟨4, (some 15), .move (.tmp 0), none, []⟩, ⟨5, (some 16), .move (.tmp 3), none, []⟩, ⟨6, (some 17), .ibin .sub .i64 (.tmp 16) (.const (.int .i64 1)), none, []⟩, ⟨7, (some 18), .idxS (.tmp 15) (.tmp 17) 1, none, []⟩, ⟨8, (some 19), .load1 (.tmp 18), none, []⟩, ⟨9, (some 20), .callF 89 [(.tmp 14), (.tmp 19)], none, []⟩])
 (.cond (.tmp 20) (.seq (.region false [⟨0, (some 2), .move (.const (.bool false)), none, []⟩])
 .ret) .skip)))
 (.region false [⟨0, (some 9), .move (.tmp 3), none, []⟩, ⟨1, (some 10), .ibin .sub .i64 (.tmp 9) (.const (.int .i64 1)), none, []⟩, ⟨2, (some 3), .move (.tmp 10), none, []⟩]))))))
 (.seq (.region false [⟨0, (some 2), .move (.const (.bool true)), none, []⟩])
 .ret))), [.tmp 2]⟩
/- bellarmine/bellarminelaw11.bars -/
def pf46 : PF := ⟨29, (.seq (.region false [⟨0, (some 8), .move (.const (.bool false)), none, []⟩])
 (.seq (.region true [⟨0, (some 9), .move (.tmp 0), none, []⟩, ⟨1, (some 10), .move (.tmp 3), none, []⟩, ⟨2, (some 11), .idxS (.tmp 9) (.tmp 10) 1, none, []⟩, ⟨3, (some 12), .load1 (.tmp 11), none, []⟩, ⟨4, (some 13), .move (.tmp 0), none, []⟩, ⟨5, (some 14), .move (.tmp 1), none, []⟩, ⟨6, (some 15), .idxS (.tmp 13) (.tmp 14) 1, none, []⟩, ⟨7, (some 16), .load1 (.tmp 15), none, []⟩, ⟨8, (some 17), .ibin .lss .i64 (.tmp 12) (.tmp 16), none, []⟩, ⟨9, (some 18), .move (.tmp 17), none, []⟩, ⟨10, (some 19), .move (.tmp 0), (some (18, true)), []⟩, ⟨11, (some 20), .move (.tmp 1), (some (18, true)), []⟩, ⟨12, (some 21), .idxS (.tmp 19) (.tmp 20) 1, (some (18, true)), []⟩, ⟨13, (some 22), .load1 (.tmp 21), (some (18, true)), []⟩, ⟨14, (some 23), .move (.tmp 0), (some (18, true)), []⟩, ⟨15, (some 24), .move (.tmp 2), (some (18, true)), []⟩, ⟨16, (some 25), .idxS (.tmp 23) (.tmp 24) 1, (some (18, true)), []⟩, ⟨17, (some 26), .load1 (.tmp 25), (some (18, true)), []⟩, ⟨18, (some 27), .ibin .lss .i64 (.tmp 22) (.tmp 26), (some (18, true)), []⟩, ⟨19, (some 28), .pick (.tmp 18) (.tmp 27) (.const (.bool false)), none, []⟩, ⟨20, (some 8), .move (.tmp 28), none, []⟩])
 .ret)), [.tmp 8]⟩
/- bellarmine/bellarminelaw11.pass -/
def pf47 : PF := ⟨27, (.seq (.region false [⟨0, (some 2), .move (.const (.slice none 0 0)), none, []⟩])
 (.seq (.seq (.region false [⟨0, (some 4), .move (.tmp 0), none, []⟩, ⟨1, (some 5), .len (.tmp 4), none, []⟩, ⟨2, (some 6), .ibin .eql .i64 (.tmp 5) (.const (.int .i64 0)), none, []⟩])
 (.cond (.tmp 6) (.seq (.region false [⟨0, (some 2), .move (.const (.slice none 0 0)), none, []⟩])
 .ret) .skip))
 (.seq (.region false [⟨0, (some 7), .move (.tmp 0), none, []⟩, ⟨1, (some 8), .move (.tmp 0), none, []⟩, ⟨2, (some 9), .callF 90 [(.tmp 8)], none, []⟩, ⟨3, (some 10), .callF 52 [(.tmp 7), (.tmp 9)], none, []⟩, ⟨4, (some 3), .move (.tmp 10), none, []⟩])
 (.seq (.region true [⟨0, (some 11), .move (.tmp 0), none, []⟩, ⟨1, (some 12), .move (.tmp 3), none, []⟩, ⟨2, (some 13), .slS (.tmp 11) 1 none (some (.tmp 12)) none, none, []⟩, ⟨4, (some 15), .move (.tmp 0), none, []⟩, ⟨5, (some 16), .move (.tmp 3), none, []⟩, ⟨6, (some 17), .ibin .add .i64 (.tmp 16) (.const (.int .i64 1)), none, []⟩, ⟨7, (some 18), .slS (.tmp 15) 1 (some (.tmp 17)) none none, none, []⟩, ⟨10, (some 21), .move (.tmp 0), none, []⟩, ⟨11, (some 22), .move (.tmp 3), none, []⟩, ⟨12, (some 23), .idxS (.tmp 21) (.tmp 22) 1, none, []⟩, ⟨13, (some 24), .load1 (.tmp 23), none, []⟩, ⟨3, (some 14), .callF 47 [(.tmp 13)], none, [13]⟩, ⟨8, (some 19), .callF 47 [(.tmp 18)], none, [13]⟩, ⟨9, (some 20), .append 3 1 (.tmp 14) (.tmp 19), none, [13]⟩, ⟨14, (some 25), .bldS 3 1 [(.int .i64 0)] 1 [(0, (.tmp 24))], none, []⟩, ⟨15, (some 26), .append 3 1 (.tmp 20) (.tmp 25), none, []⟩, ⟨16, (some 2), .move (.tmp 26), none, []⟩])
 .ret)))), [.tmp 2]⟩
/- slices.Index[[]int,int] -/
def pf52 : PF := ⟨19, (.seq (.region false [⟨0, (some 4), .move (.const (.int .i64 0)), none, []⟩])
 (.seq (.seq (.region false [⟨0, (some 6), .move (.tmp 0), none, []⟩, ⟨1, (some 7), .len (.tmp 6), none, []⟩, ⟨2, (some 8), .move (.const (.int .i64 0)), none, []⟩])
 (.block 0 (.loop (.seq (.region false [⟨0, (some 9), .ibin .lss .i64 (.tmp 8) (.tmp 7), none, []⟩])
 (.seq (.cond (.tmp 9) .skip (.exit 0))
 (.seq (.block 1 (.seq (.region false [⟨0, (some 10), .move (.tmp 8), none, []⟩, ⟨1, (some 5), .move (.tmp 10), none, []⟩])
 (.seq (.region false [⟨0, (some 11), .move (.tmp 1), none, []⟩, ⟨1, (some 12), .move (.tmp 0), none, []⟩, ⟨2, (some 13), .move (.tmp 5), none, []⟩, ⟨3, (some 14), .idxS (.tmp 12) (.tmp 13) 1, none, []⟩, ⟨4, (some 15), .load1 (.tmp 14), none, []⟩, ⟨5, (some 16), .ibin .eql .i64 (.tmp 11) (.tmp 15), none, []⟩])
 (.cond (.tmp 16) (.seq (.region false [⟨0, (some 17), .move (.tmp 5), none, []⟩, ⟨1, (some 4), .move (.tmp 17), none, []⟩])
 .ret) .skip))))
 (.region false [⟨0, (some 18), .ibin .add .i64 (.tmp 8) (.const (.int .i64 1)), none, []⟩, ⟨1, (some 8), .move (.tmp 18), none, []⟩])))))))
 (.seq (.region false [⟨0, (some 4), .move (.const (.int .i64 (-1))), none, []⟩])
 .ret))), [.tmp 4]⟩
/- bellarmine/lock.passed -/
def pf61 : PF := ⟨8, (.seq (.region false [⟨0, (some 2), .move (.const (.slice none 0 0)), none, []⟩])
 (.seq (.region false [⟨0, (some 3), .new 22 [(.slice none 0 0)], none, []⟩])
 (.seq (.region false [⟨0, (some 4), .move (.tmp 0), none, []⟩, ⟨1, (some 5), .callF 66 [(.tmp 3)], none, []⟩, ⟨2, (some 6), .callF 63 [(.tmp 4), (.tmp 5)], none, []⟩])
 (.seq (.region false [⟨0, (some 7), .load1 (.tmp 3), none, []⟩, ⟨1, (some 2), .move (.tmp 7), none, []⟩])
 .ret)))), [.tmp 2]⟩
/- bellarmine/lock.pass -/
def pf63 : PF := ⟨34, (.seq (.region false [⟨0, (some 4), .new 103 [(.slice none 0 0)], none, []⟩])
 (.seq (.seq (.region false [⟨0, (some 7), .move (.tmp 0), none, []⟩, ⟨1, (some 8), .len (.tmp 7), none, []⟩, ⟨2, (some 9), .move (.const (.int .i64 0)), none, []⟩])
 (.block 0 (.loop (.seq (.region false [⟨0, (some 10), .ibin .lss .i64 (.tmp 9) (.tmp 8), none, []⟩])
 (.seq (.cond (.tmp 10) .skip (.exit 0))
 (.seq (.block 1 (.seq (.region false [⟨0, (some 11), .idxS (.tmp 7) (.tmp 9) 1, none, []⟩, ⟨1, (some 12), .load1 (.tmp 11), none, []⟩, ⟨2, (some 6), .move (.tmp 12), none, []⟩])
 (.seq (.block 2 (.loop (.seq (.seq (.region false [⟨0, (some 13), .callF 95 [(.tmp 4)], none, []⟩, ⟨1, (some 14), .not (.tmp 13), none, []⟩, ⟨2, (some 15), .move (.tmp 14), none, []⟩, ⟨3, (some 16), .callF 96 [(.tmp 4)], (some (15, true)), []⟩, ⟨4, (some 17), .move (.tmp 6), (some (15, true)), []⟩, ⟨5, (some 18), .ibin .lss .i64 (.tmp 16) (.tmp 17), (some (15, true)), []⟩, ⟨6, (some 19), .pick (.tmp 15) (.tmp 18) (.const (.bool false)), none, []⟩])
 (.cond (.tmp 19) .skip (.exit 2)))
 (.block 3 (.region false [⟨0, (some 20), .move (.tmp 1), none, []⟩, ⟨1, (some 21), .callF 97 [(.tmp 4)], none, []⟩, ⟨2, (some 22), .callV (.tmp 20) [(.const (.int .u8 111)), (.tmp 21)], none, []⟩])))))
 (.seq (.region false [⟨0, (some 23), .move (.tmp 6), none, []⟩, ⟨1, (some 24), .callF 98 [(.tmp 4), (.tmp 23)], none, []⟩])
 (.region false [⟨0, (some 25), .move (.tmp 1), none, []⟩, ⟨1, (some 26), .move (.tmp 6), none, []⟩, ⟨2, (some 27), .callV (.tmp 25) [(.const (.int .u8 105)), (.tmp 26)], none, []⟩])))))
 (.region false [⟨0, (some 28), .ibin .add .i64 (.tmp 9) (.const (.int .i64 1)), none, []⟩, ⟨1, (some 9), .move (.tmp 28), none, []⟩])))))))
 (.block 4 (.loop (.seq (.seq (.region false [⟨0, (some 29), .callF 95 [(.tmp 4)], none, []⟩, ⟨1, (some 30), .not (.tmp 29), none, []⟩])
 (.cond (.tmp 30) .skip (.exit 4)))
 (.block 5 (.region false [⟨0, (some 31), .move (.tmp 1), none, []⟩, ⟨1, (some 32), .callF 97 [(.tmp 4)], none, []⟩, ⟨2, (some 33), .callV (.tmp 31) [(.const (.int .u8 111)), (.tmp 32)], none, []⟩]))))))), []⟩
/- bellarmine/lock.leavers -/
def pf66 : PF := ⟨4, (.seq (.region false [⟨0, (some 1), .box 82 (.tmp 0), none, []⟩, ⟨1, (some 2), .move (.const .nilFunc), none, []⟩])
 (.seq (.region false [⟨0, (some 3), .mkF (.func 100) #[] #[(.tmp 1)], none, []⟩, ⟨1, (some 2), .move (.tmp 3), none, []⟩])
 .ret)), [.tmp 2]⟩
/- bellarmine/lock.isPlace -/
def pf67 : PF := ⟨13, (.seq (.region false [⟨0, (some 4), .move (.const (.bool false)), none, []⟩])
 (.seq (.region false [⟨0, (some 5), .move (.tmp 1), none, []⟩, ⟨1, (some 6), .ibin .geq .i64 (.tmp 5) (.const (.int .i64 0)), none, []⟩, ⟨2, (some 7), .move (.tmp 6), none, []⟩, ⟨3, (some 8), .move (.tmp 1), (some (7, true)), []⟩, ⟨4, (some 9), .move (.tmp 0), (some (7, true)), []⟩, ⟨5, (some 10), .len (.tmp 9), (some (7, true)), []⟩, ⟨6, (some 11), .ibin .lss .i64 (.tmp 8) (.tmp 10), (some (7, true)), []⟩, ⟨7, (some 12), .pick (.tmp 7) (.tmp 11) (.const (.bool false)), none, []⟩, ⟨8, (some 4), .move (.tmp 12), none, []⟩])
 .ret)), [.tmp 4]⟩
/- slices.Contains[[]int,int] -/
def pf68 : PF := ⟨9, (.seq (.region false [⟨0, (some 4), .move (.const (.bool false)), none, []⟩])
 (.seq (.region false [⟨0, (some 5), .move (.tmp 0), none, []⟩, ⟨1, (some 6), .move (.tmp 1), none, []⟩, ⟨2, (some 7), .callF 52 [(.tmp 5), (.tmp 6)], none, []⟩, ⟨3, (some 8), .ibin .geq .i64 (.tmp 7) (.const (.int .i64 0)), none, []⟩, ⟨4, (some 4), .move (.tmp 8), none, []⟩])
 .ret)), [.tmp 4]⟩
/- bellarmine/lock.canAscend -/
def pf71 : PF := ⟨11, (.seq (.region false [⟨0, (some 4), .move (.const (.bool false)), none, []⟩])
 (.seq (.region false [⟨0, (some 5), .move (.tmp 0), none, []⟩, ⟨1, (some 6), .move (.tmp 0), none, []⟩, ⟨2, (some 7), .len (.tmp 6), none, []⟩, ⟨3, (some 8), .callF 81 [(.tmp 7)], none, []⟩, ⟨4, (some 9), .move (.tmp 1), none, []⟩, ⟨5, (some 10), .callF 80 [(.tmp 5), (.tmp 8), (.tmp 9), (.func 101)], none, []⟩, ⟨6, (some 4), .move (.tmp 10), none, []⟩])
 .ret)), [.tmp 4]⟩
/- bellarmine/lock.bar -/
def pf73 : PF := ⟨29, (.seq (.region false [⟨0, (some 8), .move (.const (.bool false)), none, []⟩])
 (.seq (.region true [⟨0, (some 9), .move (.tmp 0), none, []⟩, ⟨1, (some 10), .move (.tmp 3), none, []⟩, ⟨2, (some 11), .idxS (.tmp 9) (.tmp 10) 1, none, []⟩, ⟨3, (some 12), .load1 (.tmp 11), none, []⟩, ⟨4, (some 13), .move (.tmp 0), none, []⟩, ⟨5, (some 14), .move (.tmp 1), none, []⟩, ⟨6, (some 15), .idxS (.tmp 13) (.tmp 14) 1, none, []⟩, ⟨7, (some 16), .load1 (.tmp 15), none, []⟩, ⟨8, (some 17), .ibin .lss .i64 (.tmp 12) (.tmp 16), none, []⟩, ⟨9, (some 18), .move (.tmp 17), none, []⟩, ⟨10, (some 19), .move (.tmp 0), (some (18, true)), []⟩, ⟨11, (some 20), .move (.tmp 1), (some (18, true)), []⟩, ⟨12, (some 21), .idxS (.tmp 19) (.tmp 20) 1, (some (18, true)), []⟩, ⟨13, (some 22), .load1 (.tmp 21), (some (18, true)), []⟩, ⟨14, (some 23), .move (.tmp 0), (some (18, true)), []⟩, ⟨15, (some 24), .move (.tmp 2), (some (18, true)), []⟩, ⟨16, (some 25), .idxS (.tmp 23) (.tmp 24) 1, (some (18, true)), []⟩, ⟨17, (some 26), .load1 (.tmp 25), (some (18, true)), []⟩, ⟨18, (some 27), .ibin .lss .i64 (.tmp 22) (.tmp 26), (some (18, true)), []⟩, ⟨19, (some 28), .pick (.tmp 18) (.tmp 27) (.const (.bool false)), none, []⟩, ⟨20, (some 8), .move (.tmp 28), none, []⟩])
 .ret)), [.tmp 8]⟩
/- bellarmine/lock.lists -/
def pf77 : PF := ⟨8, (.seq (.region false [⟨0, (some 3), .box 3 (.tmp 0), none, []⟩, ⟨1, (some 4), .box 3 (.tmp 1), none, []⟩, ⟨2, (some 5), .box 83 (.tmp 2), none, []⟩, ⟨3, (some 6), .move (.const .nilFunc), none, []⟩])
 (.seq (.region false [⟨0, (some 7), .mkF (.func 103) #[] #[(.tmp 3), (.tmp 4), (.tmp 5)], none, []⟩, ⟨1, (some 6), .move (.tmp 7), none, []⟩])
 .ret)), [.tmp 6]⟩
/- bellarmine/lock.fetch -/
def pf80 : PF := ⟨50, (.seq (.region false [⟨0, (some 8), .move (.const (.bool false)), none, []⟩])
 (.seq (.region false [⟨0, (some 9), .new 109 [(.slice none 0 0), (.slice none 0 0)], none, []⟩])
 (.seq (.seq (.region false [⟨0, (some 12), .move (.tmp 0), none, []⟩, ⟨1, (some 13), .len (.tmp 12), none, []⟩, ⟨2, (some 14), .move (.const (.int .i64 0)), none, []⟩])
 (.block 0 (.loop (.seq (.region false [⟨0, (some 15), .ibin .lss .i64 (.tmp 14) (.tmp 13), none, []⟩])
 (.seq (.cond (.tmp 15) .skip (.exit 0))
 (.seq (.block 1 (.seq (.region false [⟨0, (some 16), .move (.tmp 14), none, []⟩, ⟨1, (some 17), .idxS (.tmp 12) (.tmp 14) 1, none, []⟩, ⟨2, (some 18), .load1 (.tmp 17), none, []⟩, ⟨3, (some 10), .move (.tmp 16), none, []⟩, ⟨4, (some 11), .move (.tmp 18), none, []⟩])
 (.seq (.region false [⟨0, (some 19), .move (.tmp 2), none, []⟩, ⟨1, (some 20), .move (.tmp 10), none, []⟩, ⟨2, (some 21), .idxS (.tmp 19) (.tmp 20) 1, none, []⟩, ⟨3, (some 22), .load1 (.tmp 21), none, []⟩, ⟨4, (some 23), .idxA (.tmp 9) (.tmp 22) 2 1, none, []⟩, ⟨5, (some 24), .move (.tmp 11), none, []⟩, ⟨6, (some 25), .callF 98 [(.tmp 23), (.tmp 24)], none, []⟩])
 (.seq (.region false [⟨0, (some 26), .move (.tmp 3), none, []⟩, ⟨1, (some 27), .move (.tmp 11), none, []⟩, ⟨2, (some 28), .callV (.tmp 26) [(.const (.int .u8 105)), (.tmp 27)], none, []⟩])
 (.block 2 (.loop (.seq (.seq (.region true [⟨0, (some 29), .move (.tmp 1), none, []⟩, ⟨1, (some 30), .len (.tmp 29), none, []⟩, ⟨2, (some 31), .ibin .gtr .i64 (.tmp 30) (.const (.int .i64 0)), none, []⟩, ⟨3, (some 32), .move (.tmp 31), none, []⟩, ⟨4, (some 33), .slA (.tmp 9) 2 1 none none none, (some (32, true)), []⟩, ⟨5, (some 34), .move (.tmp 1), (some (32, true)), []⟩, ⟨6, (some 35), .idxS (.tmp 34) (.const (.int .i64 0)) 1, (some (32, true)), []⟩, ⟨7, (some 36), .load1 (.tmp 35), (some (32, true)), []⟩, ⟨8, (some 37), .callF 108 [(.tmp 33), (.tmp 36)], (some (32, true)), []⟩, ⟨9, (some 38), .pick (.tmp 32) (.tmp 37) (.const (.bool false)), none, []⟩])
 (.cond (.tmp 38) .skip (.exit 2)))
 (.block 3 (.seq (.region false [⟨0, (some 39), .move (.tmp 3), none, []⟩, ⟨1, (some 40), .move (.tmp 1), none, []⟩, ⟨2, (some 41), .idxS (.tmp 40) (.const (.int .i64 0)) 1, none, []⟩, ⟨3, (some 42), .load1 (.tmp 41), none, []⟩, ⟨4, (some 43), .callV (.tmp 39) [(.const (.int .u8 111)), (.tmp 42)], none, []⟩])
 (.region false [⟨0, (some 44), .move (.tmp 1), none, []⟩, ⟨1, (some 45), .slS (.tmp 44) 1 (some (.const (.int .i64 1))) none none, none, []⟩, ⟨2, (some 1), .move (.tmp 45), none, []⟩]))))))))))
 (.region false [⟨0, (some 46), .ibin .add .i64 (.tmp 14) (.const (.int .i64 1)), none, []⟩, ⟨1, (some 14), .move (.tmp 46), none, []⟩])))))))
 (.seq (.region false [⟨0, (some 47), .move (.tmp 1), none, []⟩, ⟨1, (some 48), .len (.tmp 47), none, []⟩, ⟨2, (some 49), .ibin .eql .i64 (.tmp 48) (.const (.int .i64 0)), none, []⟩, ⟨3, (some 8), .move (.tmp 49), none, []⟩])
 .ret)))), [.tmp 8]⟩
/- bellarmine/lock.upTo -/
def pf81 : PF := ⟨15, (.seq (.region false [⟨0, (some 2), .move (.const (.slice none 0 0)), none, []⟩])
 (.seq (.region false [⟨0, (some 3), .move (.const (.slice none 0 0)), none, []⟩])
 (.seq (.seq (.region false [⟨0, (some 5), .move (.tmp 0), none, []⟩, ⟨1, (some 6), .move (.const (.int .i64 0)), none, []⟩])
 (.block 0 (.loop (.seq (.region false [⟨0, (some 7), .ibin .lss .i64 (.tmp 6) (.tmp 5), none, []⟩])
 (.seq (.cond (.tmp 7) .skip (.exit 0))
 (.seq (.block 1 (.seq (.region false [⟨0, (some 8), .move (.tmp 6), none, []⟩, ⟨1, (some 4), .move (.tmp 8), none, []⟩])
 (.region false [⟨0, (some 9), .move (.tmp 3), none, []⟩, ⟨1, (some 10), .move (.tmp 4), none, []⟩, ⟨2, (some 11), .bldS 3 1 [(.int .i64 0)] 1 [(0, (.tmp 10))], none, []⟩, ⟨3, (some 12), .append 3 1 (.tmp 9) (.tmp 11), none, []⟩, ⟨4, (some 3), .move (.tmp 12), none, []⟩])))
 (.region false [⟨0, (some 13), .ibin .add .i64 (.tmp 6) (.const (.int .i64 1)), none, []⟩, ⟨1, (some 6), .move (.tmp 13), none, []⟩])))))))
 (.seq (.region false [⟨0, (some 14), .move (.tmp 3), none, []⟩, ⟨1, (some 2), .move (.tmp 14), none, []⟩])
 .ret)))), [.tmp 2]⟩
/- bellarmine/lock.isAny -/
def pf85 : PF := ⟨5, (.seq (.region false [⟨0, (some 4), .move (.const (.bool false)), none, []⟩])
 (.seq (.region false [⟨0, (some 4), .move (.const (.bool true)), none, []⟩])
 .ret)), [.tmp 4]⟩
/- slices.Delete[[]int,int] -/
def pf87 : PF := ⟨33, (.seq (.region false [⟨0, (some 6), .move (.const (.slice none 0 0)), none, []⟩])
 (.seq (.region false [⟨0, (some 8), .move (.tmp 0), none, []⟩, ⟨1, (some 9), .move (.tmp 1), none, []⟩, ⟨2, (some 10), .move (.tmp 2), none, []⟩, ⟨3, (some 11), .move (.tmp 0), none, []⟩, ⟨4, (some 12), .len (.tmp 11), none, []⟩, ⟨5, (some 13), .slS (.tmp 8) 1 (some (.tmp 9)) (some (.tmp 10)) (some (.tmp 12)), none, []⟩])
 (.seq (.seq (.region false [⟨0, (some 14), .move (.tmp 1), none, []⟩, ⟨1, (some 15), .move (.tmp 2), none, []⟩, ⟨2, (some 16), .ibin .eql .i64 (.tmp 14) (.tmp 15), none, []⟩])
 (.cond (.tmp 16) (.seq (.region false [⟨0, (some 17), .move (.tmp 0), none, []⟩, ⟨1, (some 6), .move (.tmp 17), none, []⟩])
 .ret) .skip))
 (.seq (.region false [⟨0, (some 18), .move (.tmp 0), none, []⟩, ⟨1, (some 19), .len (.tmp 18), none, []⟩, ⟨2, (some 7), .move (.tmp 19), none, []⟩])
 (.seq (.region true [⟨0, (some 20), .move (.tmp 0), none, []⟩, ⟨1, (some 21), .move (.tmp 1), none, []⟩, ⟨2, (some 22), .slS (.tmp 20) 1 none (some (.tmp 21)) none, none, []⟩, ⟨3, (some 23), .move (.tmp 0), none, []⟩, ⟨4, (some 24), .move (.tmp 2), none, []⟩, ⟨5, (some 25), .slS (.tmp 23) 1 (some (.tmp 24)) none none, none, []⟩, ⟨6, (some 26), .append 3 1 (.tmp 22) (.tmp 25), none, []⟩, ⟨7, (some 0), .move (.tmp 26), none, []⟩])
 (.seq (.region false [⟨0, (some 27), .move (.tmp 0), none, []⟩, ⟨1, (some 28), .move (.tmp 0), none, []⟩, ⟨2, (some 29), .len (.tmp 28), none, []⟩, ⟨3, (some 30), .move (.tmp 7), none, []⟩, ⟨4, (some 31), .slS (.tmp 27) 1 (some (.tmp 29)) (some (.tmp 30)) none, none, []⟩, ⟨5, none, .clr 1 [(.int .i64 0)] (.tmp 31), none, []⟩])
 (.seq (.region false [⟨0, (some 32), .move (.tmp 0), none, []⟩, ⟨1, (some 6), .move (.tmp 32), none, []⟩])
 .ret))))))), [.tmp 6]⟩
/- bellarmine/bellarminelaw11.reach$1 -/
def pf88 : PF := ⟨74, (.seq (.region false [⟨0, (some 11), .move (.const (.bool false)), none, []⟩])
 (.seq (.seq (.region false [⟨0, (some 13), .move (.tmp 2), none, []⟩, ⟨1, (some 14), .len (.tmp 13), none, []⟩, ⟨2, (some 15), .load1 (.tmp 4), none, []⟩, ⟨3, (some 16), .len (.tmp 15), none, []⟩, ⟨4, (some 17), .ibin .eql .i64 (.tmp 14) (.tmp 16), none, []⟩])
 (.cond (.tmp 17) (.seq (.region false [⟨0, (some 18), .load1 (.tmp 5), none, []⟩, ⟨1, (some 19), .move (.tmp 2), none, []⟩, ⟨2, (some 20), .move (.tmp 3), none, []⟩, ⟨3, (some 21), .callV (.tmp 18) [(.tmp 19), (.tmp 20)], none, []⟩, ⟨4, (some 11), .move (.tmp 21), none, []⟩])
 .ret) .skip))
 (.seq (.seq (.region true [⟨0, (some 22), .move (.tmp 0), none, []⟩, ⟨1, (some 23), .load1 (.tmp 4), none, []⟩, ⟨2, (some 24), .len (.tmp 23), none, []⟩, ⟨3, (some 25), .ibin .lss .i64 (.tmp 22) (.tmp 24), none, []⟩, ⟨4, (some 26), .move (.tmp 25), none, []⟩, ⟨5, (some 27), .load1 (.tmp 6), (some (26, true)), []⟩, ⟨6, (some 28), .move (.tmp 0), (some (26, true)), []⟩, ⟨7, (some 29), .ibin .add .i64 (.tmp 28) (.const (.int .i64 1)), (some (26, true)), []⟩, ⟨8, (some 30), .move (.tmp 1), (some (26, true)), []⟩, ⟨9, (some 31), .move (.tmp 1), (some (26, true)), []⟩, ⟨10, (some 32), .len (.tmp 31), (some (26, true)), []⟩, ⟨11, (some 33), .move (.tmp 1), (some (26, true)), []⟩, ⟨12, (some 34), .len (.tmp 33), (some (26, true)), []⟩, ⟨13, (some 35), .slS (.tmp 30) 1 none (some (.tmp 32)) (some (.tmp 34)), (some (26, true)), []⟩, ⟨14, (some 36), .load1 (.tmp 4), (some (26, true)), []⟩, ⟨15, (some 37), .move (.tmp 0), (some (26, true)), []⟩, ⟨16, (some 38), .idxS (.tmp 36) (.tmp 37) 1, (some (26, true)), []⟩, ⟨17, (some 39), .load1 (.tmp 38), (some (26, true)), []⟩, ⟨20, (some 42), .move (.tmp 2), (some (26, true)), []⟩, ⟨21, (some 43), .move (.tmp 3), (some (26, true)), []⟩, ⟨22, (some 44), .plain ⟨(some 44), .binOp .add 9 (.tmp 43) (.const (.string ⟨#[105]⟩)) 9, 9, (String.ofList [Char.ofNat 111, Char.ofNat 117, Char.ofNat 116, Char.ofNat 114, Char.ofNat 105, Char.ofNat 103, Char.ofNat 104, Char.ofNat 116, Char.ofNat 46, Char.ofNat 103, Char.ofNat 111, Char.ofNat 58, Char.ofNat 57, Char.ofNat 49]), #[⟨21, .data⟩, ⟨4, .guard⟩], (some (4, true))⟩, (some (26, true)), []⟩, ⟨18, (some 40), .bldS 3 1 [(.int .i64 0)] 1 [(0, (.tmp 39))], (some (26, true)), [5]⟩, ⟨19, (some 41), .append 3 1 (.tmp 35) (.tmp 40), (some (26, true)), [5]⟩, ⟨23, (some 45), .callV (.tmp 27) [(.tmp 29), (.tmp 41), (.tmp 42), (.tmp 44)], (some (26, true)), []⟩, ⟨24, (some 46), .not (.tmp 45), (some (26, true)), []⟩, ⟨25, (some 47), .pick (.tmp 26) (.tmp 46) (.const (.bool false)), none, []⟩])
 (.cond (.tmp 47) (.seq (.region false [⟨0, (some 11), .move (.const (.bool false)), none, []⟩])
 .ret) .skip))
 (.seq (.seq (.region false [⟨0, (some 48), .move (.tmp 1), none, []⟩, ⟨1, (some 49), .len (.tmp 48), none, []⟩, ⟨2, (some 12), .move (.tmp 49), none, []⟩])
 (.seq (.region false [⟨0, (some 50), .move (.tmp 12), none, []⟩, ⟨1, (some 51), .ibin .gtr .i64 (.tmp 50) (.const (.int .i64 0)), none, []⟩])
 (.cond (.tmp 51) (.seq (.region true [⟨0, (some 52), .load1 (.tmp 6), none, []⟩, ⟨1, (some 53), .move (.tmp 0), none, []⟩, ⟨2, (some 54), .move (.tmp 1), none, []⟩, ⟨3, (some 55), .move (.tmp 12), none, []⟩, ⟨4, (some 56), .ibin .sub .i64 (.tmp 55) (.const (.int .i64 1)), none, []⟩, ⟨5, (some 57), .slS (.tmp 54) 1 none (some (.tmp 56)) none, none, []⟩, ⟨6, (some 58), .move (.tmp 2), none, []⟩, ⟨7, (some 59), .move (.tmp 2), none, []⟩, ⟨8, (some 60), .len (.tmp 59), none, []⟩, ⟨9, (some 61), .move (.tmp 2), none, []⟩, ⟨10, (some 62), .len (.tmp 61), none, []⟩, ⟨11, (some 63), .slS (.tmp 58) 1 none (some (.tmp 60)) (some (.tmp 62)), none, []⟩, ⟨12, (some 64), .move (.tmp 1), none, []⟩, ⟨13, (some 65), .move (.tmp 12), none, []⟩, ⟨14, (some 66), .ibin .sub .i64 (.tmp 65) (.const (.int .i64 1)), none, []⟩, ⟨15, (some 67), .idxS (.tmp 64) (.tmp 66) 1, none, []⟩, ⟨16, (some 68), .load1 (.tmp 67), none, []⟩, ⟨19, (some 71), .move (.tmp 3), none, []⟩, ⟨20, (some 72), .plain ⟨(some 72), .binOp .add 9 (.tmp 71) (.const (.string ⟨#[111]⟩)) 9, 9, (String.ofList [Char.ofNat 111, Char.ofNat 117, Char.ofNat 116, Char.ofNat 114, Char.ofNat 105, Char.ofNat 103, Char.ofNat 104, Char.ofNat 116, Char.ofNat 46, Char.ofNat 103, Char.ofNat 111, Char.ofNat 58, Char.ofNat 57, Char.ofNat 53]), #[⟨19, .data⟩], none⟩, none, []⟩, ⟨17, (some 69), .bldS 3 1 [(.int .i64 0)] 1 [(0, (.tmp 68))], none, [0]⟩, ⟨18, (some 70), .append 3 1 (.tmp 63) (.tmp 69), none, [0]⟩, ⟨21, (some 73), .callV (.tmp 52) [(.tmp 53), (.tmp 57), (.tmp 70), (.tmp 72)], none, []⟩, ⟨22, (some 11), .move (.tmp 73), none, []⟩])
 .ret) .skip)))
 (.seq (.region false [⟨0, (some 11), .move (.const (.bool true)), none, []⟩])
 .ret))))), [.tmp 11]⟩
/- cmp.Less[int] -/
def pf89 : PF := ⟨17, (.seq (.region false [⟨0, (some 4), .move (.const (.bool false)), none, []⟩])
 (.seq (.region false [⟨0, (some 5), .move (.tmp 0), none, []⟩, ⟨1, (some 6), .callF 109 [(.tmp 5)], none, []⟩, ⟨2, (some 7), .move (.tmp 6), none, []⟩, ⟨3, (some 8), .move (.tmp 1), (some (7, true)), []⟩, ⟨4, (some 9), .callF 109 [(.tmp 8)], (some (7, true)), []⟩, ⟨5, (some 10), .not (.tmp 9), (some (7, true)), []⟩, ⟨6, (some 11), .pick (.tmp 7) (.tmp 10) (.const (.bool false)), none, []⟩, ⟨7, (some 12), .move (.tmp 11), none, []⟩, ⟨8, (some 13), .move (.tmp 0), (some (12, false)), []⟩, ⟨9, (some 14), .move (.tmp 1), (some (12, false)), []⟩, ⟨10, (some 15), .ibin .lss .i64 (.tmp 13) (.tmp 14), (some (12, false)), []⟩, ⟨11, (some 16), .pick (.tmp 12) (.const (.bool true)) (.tmp 15), none, []⟩, ⟨12, (some 4), .move (.tmp 16), none, []⟩])
 .ret)), [.tmp 4]⟩
/- slices.Max[[]int,int] -/
def pf90 : PF := ⟨25, (.seq (.region false [⟨0, (some 2), .move (.const (.int .i64 0)), none, []⟩])
 (.seq (.seq (.region false [⟨0, (some 5), .move (.tmp 0), none, []⟩, ⟨1, (some 6), .len (.tmp 5), none, []⟩, ⟨2, (some 7), .ibin .lss .i64 (.tmp 6) (.const (.int .i64 1)), none, []⟩])
 (.cond (.tmp 7) (.region false [⟨0, (some 8), .mkI 9 (.const (.string ⟨#[115, 108, 105, 99, 101, 115, 46, 77, 97, 120, 58, 32, 101, 109, 112, 116, 121, 32, 108, 105, 115, 116]⟩)), none, []⟩, ⟨1, none, .never, none, []⟩]) .skip))
 (.seq (.region false [⟨0, (some 9), .move (.tmp 0), none, []⟩, ⟨1, (some 10), .idxS (.tmp 9) (.const (.int .i64 0)) 1, none, []⟩, ⟨2, (some 11), .load1 (.tmp 10), none, []⟩, ⟨3, (some 3), .move (.tmp 11), none, []⟩])
 (.seq (.seq (.region false [⟨0, (some 4), .move (.const (.int .i64 1)), none, []⟩])
 (.block 0 (.loop (.seq (.seq (.region false [⟨0, (some 12), .move (.tmp 4), none, []⟩, ⟨1, (some 13), .move (.tmp 0), none, []⟩, ⟨2, (some 14), .len (.tmp 13), none, []⟩, ⟨3, (some 15), .ibin .lss .i64 (.tmp 12) (.tmp 14), none, []⟩])
 (.cond (.tmp 15) .skip (.exit 0)))
 (.seq (.block 1 (.region false [⟨0, (some 18), .move (.tmp 3), none, []⟩, ⟨1, (some 19), .move (.tmp 0), none, []⟩, ⟨2, (some 20), .move (.tmp 4), none, []⟩, ⟨3, (some 21), .idxS (.tmp 19) (.tmp 20) 1, none, []⟩, ⟨4, (some 22), .load1 (.tmp 21), none, []⟩, ⟨5, (some 23), .plain ⟨(some 23), .call ⟨.builtin .max, #[(.tmp 18), (.tmp 22)], #[3, 3]⟩, 3, (String.ofList [Char.ofNat 115, Char.ofNat 111, Char.ofNat 114, Char.ofNat 116, Char.ofNat 46, Char.ofNat 103, Char.ofNat 111, Char.ofNat 58, Char.ofNat 49, Char.ofNat 48, Char.ofNat 49]), #[⟨0, .data⟩, ⟨4, .data⟩], none⟩, none, []⟩, ⟨6, (some 3), .move (.tmp 23), none, []⟩]))
 (.region false [⟨0, (some 16), .move (.tmp 4), none, []⟩, ⟨1, (some 17), .ibin .add .i64 (.tmp 16) (.const (.int .i64 1)), none, []⟩, ⟨2, (some 4), .move (.tmp 17), none, []⟩]))))))
 (.seq (.region false [⟨0, (some 24), .move (.tmp 3), none, []⟩, ⟨1, (some 2), .move (.tmp 24), none, []⟩])
 .ret))))), [.tmp 2]⟩
/- (*bellarmine/lock.basin[int]).isEmpty -/
def pf95 : PF := ⟨9, (.seq (.region false [⟨0, (some 2), .move (.const (.bool false)), none, []⟩])
 (.seq (.region false [⟨0, (some 3), .move (.tmp 0), none, []⟩, ⟨1, (some 4), .nilCheck (.tmp 3), none, []⟩, ⟨2, (some 5), .fieldAddr (.tmp 4) 0, none, []⟩, ⟨3, (some 6), .load1 (.tmp 5), none, []⟩, ⟨4, (some 7), .len (.tmp 6), none, []⟩, ⟨5, (some 8), .ibin .eql .i64 (.tmp 7) (.const (.int .i64 0)), none, []⟩, ⟨6, (some 2), .move (.tmp 8), none, []⟩])
 .ret)), [.tmp 2]⟩
/- (*bellarmine/lock.basin[int]).last -/
def pf96 : PF := ⟨15, (.seq (.region false [⟨0, (some 2), .move (.const (.int .i64 0)), none, []⟩])
 (.seq (.region true [⟨0, (some 3), .move (.tmp 0), none, []⟩, ⟨1, (some 4), .nilCheck (.tmp 3), none, []⟩, ⟨2, (some 5), .fieldAddr (.tmp 4) 0, none, []⟩, ⟨3, (some 6), .load1 (.tmp 5), none, []⟩, ⟨4, (some 7), .move (.tmp 0), none, []⟩, ⟨5, (some 8), .nilCheck (.tmp 7), none, []⟩, ⟨6, (some 9), .fieldAddr (.tmp 8) 0, none, []⟩, ⟨7, (some 10), .load1 (.tmp 9), none, []⟩, ⟨8, (some 11), .len (.tmp 10), none, []⟩, ⟨9, (some 12), .ibin .sub .i64 (.tmp 11) (.const (.int .i64 1)), none, []⟩, ⟨10, (some 13), .idxS (.tmp 6) (.tmp 12) 1, none, []⟩, ⟨11, (some 14), .load1 (.tmp 13), none, []⟩, ⟨12, (some 2), .move (.tmp 14), none, []⟩])
 .ret)), [.tmp 2]⟩
/- (*bellarmine/lock.basin[int]).take -/
def pf97 : PF := ⟨21, (.seq (.region false [⟨0, (some 2), .move (.const (.int .i64 0)), none, []⟩])
 (.seq (.region false [⟨0, (some 4), .move (.tmp 0), none, []⟩, ⟨1, (some 5), .callF 96 [(.tmp 4)], none, []⟩, ⟨2, (some 3), .move (.tmp 5), none, []⟩])
 (.seq (.region true [⟨0, (some 6), .move (.tmp 0), none, []⟩, ⟨1, (some 7), .move (.tmp 0), none, []⟩, ⟨2, (some 8), .nilCheck (.tmp 7), none, []⟩, ⟨3, (some 9), .fieldAddr (.tmp 8) 0, none, []⟩, ⟨4, (some 10), .load1 (.tmp 9), none, []⟩, ⟨5, (some 11), .move (.tmp 0), none, []⟩, ⟨6, (some 12), .nilCheck (.tmp 11), none, []⟩, ⟨7, (some 13), .fieldAddr (.tmp 12) 0, none, []⟩, ⟨8, (some 14), .load1 (.tmp 13), none, []⟩, ⟨9, (some 15), .len (.tmp 14), none, []⟩, ⟨10, (some 16), .ibin .sub .i64 (.tmp 15) (.const (.int .i64 1)), none, []⟩, ⟨11, (some 17), .slS (.tmp 10) 1 none (some (.tmp 16)) none, none, []⟩, ⟨12, (some 18), .nilCheck (.tmp 6), none, []⟩, ⟨13, (some 19), .fieldAddr (.tmp 18) 0, none, []⟩, ⟨14, none, .store (.tmp 19) (.tmp 17) 1, none, []⟩])
 (.seq (.region false [⟨0, (some 20), .move (.tmp 3), none, []⟩, ⟨1, (some 2), .move (.tmp 20), none, []⟩])
 .ret)))), [.tmp 2]⟩
/- (*bellarmine/lock.basin[int]).bring -/
def pf98 : PF := ⟨14, (.region false [⟨0, (some 4), .move (.tmp 0), none, []⟩, ⟨1, (some 5), .move (.tmp 0), none, []⟩, ⟨2, (some 6), .nilCheck (.tmp 5), none, []⟩, ⟨3, (some 7), .fieldAddr (.tmp 6) 0, none, []⟩, ⟨4, (some 8), .load1 (.tmp 7), none, []⟩, ⟨5, (some 9), .move (.tmp 1), none, []⟩, ⟨6, (some 10), .bldS 3 1 [(.int .i64 0)] 1 [(0, (.tmp 9))], none, []⟩, ⟨7, (some 11), .append 3 1 (.tmp 8) (.tmp 10), none, []⟩, ⟨8, (some 12), .nilCheck (.tmp 4), none, []⟩, ⟨9, (some 13), .fieldAddr (.tmp 12) 0, none, []⟩, ⟨10, none, .store (.tmp 13) (.tmp 11) 1, none, []⟩]), []⟩
/- bellarmine/lock.leavers$1 -/
def pf100 : PF := ⟨15, (.seq (.region false [⟨0, (some 5), .move (.tmp 0), none, []⟩, ⟨1, (some 6), .ibin .eql .u8 (.tmp 5) (.const (.int .u8 111)), none, []⟩])
 (.cond (.tmp 6) (.region true [⟨0, (some 7), .load1 (.tmp 2), none, []⟩, ⟨1, (some 8), .load1 (.tmp 2), none, []⟩, ⟨2, (some 9), .nilCheck (.tmp 8), none, []⟩, ⟨3, (some 10), .load1 (.tmp 9), none, []⟩, ⟨4, (some 11), .move (.tmp 1), none, []⟩, ⟨5, (some 12), .bldS 3 1 [(.int .i64 0)] 1 [(0, (.tmp 11))], none, [0, 1, 3]⟩, ⟨6, (some 13), .append 3 1 (.tmp 10) (.tmp 12), none, [0]⟩, ⟨7, (some 14), .nilCheck (.tmp 7), none, []⟩, ⟨8, none, .store (.tmp 14) (.tmp 13) 1, none, []⟩]) .skip)), []⟩
/- bellarmine/lock.canAscend$1 -/
def pf101 : PF := ⟨4, .skip, []⟩
/- bellarmine/lock.lists$1 -/
def pf103 : PF := ⟨36, (.seq (.region false [⟨0, (some 5), .new 108 [(.slice none 0 0)], none, []⟩])
 (.seq (.region false [⟨0, (some 8), .callF 104 [(.tmp 5), (.const (.slice none 0 0))], none, []⟩])
 (.block 0 (.loop (.seq (.seq (.region false [⟨0, (some 9), .callF 105 [(.tmp 5)], none, []⟩, ⟨1, (some 10), .not (.tmp 9), none, []⟩])
 (.cond (.tmp 10) .skip (.exit 0)))
 (.block 1 (.seq (.region false [⟨0, (some 11), .callF 106 [(.tmp 5)], none, []⟩, ⟨1, (some 6), .move (.tmp 11), none, []⟩])
 (.seq (.seq (.region false [⟨0, (some 12), .move (.tmp 6), none, []⟩, ⟨1, (some 13), .len (.tmp 12), none, []⟩, ⟨2, (some 14), .load1 (.tmp 1), none, []⟩, ⟨3, (some 15), .ibin .eql .i64 (.tmp 13) (.tmp 14), none, []⟩])
 (.cond (.tmp 15) (.seq (.seq (.region false [⟨0, (some 16), .move (.tmp 0), none, []⟩, ⟨1, (some 17), .move (.tmp 6), none, []⟩, ⟨2, (some 18), .callV (.tmp 16) [(.tmp 17)], none, []⟩, ⟨3, (some 19), .not (.tmp 18), none, []⟩])
 (.cond (.tmp 19) .ret .skip))
 (.exit 1)) .skip))
 (.seq (.region false [⟨0, (some 20), .load1 (.tmp 2), none, []⟩, ⟨1, (some 21), .ibin .sub .i64 (.tmp 20) (.const (.int .i64 1)), none, []⟩, ⟨2, (some 7), .move (.tmp 21), none, []⟩])
 (.block 2 (.loop (.seq (.seq (.region false [⟨0, (some 22), .move (.tmp 7), none, []⟩, ⟨1, (some 23), .ibin .geq .i64 (.tmp 22) (.const (.int .i64 0)), none, []⟩])
 (.cond (.tmp 23) .skip (.exit 2)))
 (.seq (.block 3 (.seq (.region false [⟨0, (some 26), .load1 (.tmp 3), none, []⟩, ⟨1, (some 27), .move (.tmp 6), none, []⟩, ⟨2, (some 28), .move (.tmp 7), none, []⟩, ⟨3, (some 29), .callV (.tmp 26) [(.tmp 27), (.tmp 28)], none, []⟩])
 (.cond (.tmp 29) (.region false [⟨0, (some 30), .move (.tmp 6), none, []⟩, ⟨1, (some 31), .callF 107 [(.tmp 30)], none, []⟩, ⟨2, (some 32), .move (.tmp 7), none, []⟩, ⟨3, (some 33), .bldS 3 1 [(.int .i64 0)] 1 [(0, (.tmp 32))], none, []⟩, ⟨4, (some 34), .append 3 1 (.tmp 31) (.tmp 33), none, []⟩, ⟨5, (some 35), .callF 104 [(.tmp 5), (.tmp 34)], none, []⟩]) .skip)))
 (.region false [⟨0, (some 24), .move (.tmp 7), none, []⟩, ⟨1, (some 25), .ibin .sub .i64 (.tmp 24) (.const (.int .i64 1)), none, []⟩, ⟨2, (some 7), .move (.tmp 25), none, []⟩])))))))))))))), []⟩
/- (*bellarmine/lock.basin[[]int]).bring -/
def pf104 : PF := ⟨14, (.region false [⟨0, (some 4), .move (.tmp 0), none, []⟩, ⟨1, (some 5), .move (.tmp 0), none, []⟩, ⟨2, (some 6), .nilCheck (.tmp 5), none, []⟩, ⟨3, (some 7), .fieldAddr (.tmp 6) 0, none, []⟩, ⟨4, (some 8), .load1 (.tmp 7), none, []⟩, ⟨5, (some 9), .move (.tmp 1), none, []⟩, ⟨6, (some 10), .bldS 22 1 [(.slice none 0 0)] 1 [(0, (.tmp 9))], none, []⟩, ⟨7, (some 11), .append 22 1 (.tmp 8) (.tmp 10), none, []⟩, ⟨8, (some 12), .nilCheck (.tmp 4), none, []⟩, ⟨9, (some 13), .fieldAddr (.tmp 12) 0, none, []⟩, ⟨10, none, .store (.tmp 13) (.tmp 11) 1, none, []⟩]), []⟩
/- (*bellarmine/lock.basin[[]int]).isEmpty -/
def pf105 : PF := ⟨9, (.seq (.region false [⟨0, (some 2), .move (.const (.bool false)), none, []⟩])
 (.seq (.region false [⟨0, (some 3), .move (.tmp 0), none, []⟩, ⟨1, (some 4), .nilCheck (.tmp 3), none, []⟩, ⟨2, (some 5), .fieldAddr (.tmp 4) 0, none, []⟩, ⟨3, (some 6), .load1 (.tmp 5), none, []⟩, ⟨4, (some 7), .len (.tmp 6), none, []⟩, ⟨5, (some 8), .ibin .eql .i64 (.tmp 7) (.const (.int .i64 0)), none, []⟩, ⟨6, (some 2), .move (.tmp 8), none, []⟩])
 .ret)), [.tmp 2]⟩
/- (*bellarmine/lock.basin[[]int]).take -/
def pf106 : PF := ⟨21, (.seq (.region false [⟨0, (some 2), .move (.const (.slice none 0 0)), none, []⟩])
 (.seq (.region false [⟨0, (some 4), .move (.tmp 0), none, []⟩, ⟨1, (some 5), .callF 120 [(.tmp 4)], none, []⟩, ⟨2, (some 3), .move (.tmp 5), none, []⟩])
 (.seq (.region true [⟨0, (some 6), .move (.tmp 0), none, []⟩, ⟨1, (some 7), .move (.tmp 0), none, []⟩, ⟨2, (some 8), .nilCheck (.tmp 7), none, []⟩, ⟨3, (some 9), .fieldAddr (.tmp 8) 0, none, []⟩, ⟨4, (some 10), .load1 (.tmp 9), none, []⟩, ⟨5, (some 11), .move (.tmp 0), none, []⟩, ⟨6, (some 12), .nilCheck (.tmp 11), none, []⟩, ⟨7, (some 13), .fieldAddr (.tmp 12) 0, none, []⟩, ⟨8, (some 14), .load1 (.tmp 13), none, []⟩, ⟨9, (some 15), .len (.tmp 14), none, []⟩, ⟨10, (some 16), .ibin .sub .i64 (.tmp 15) (.const (.int .i64 1)), none, []⟩, ⟨11, (some 17), .slS (.tmp 10) 1 none (some (.tmp 16)) none, none, []⟩, ⟨12, (some 18), .nilCheck (.tmp 6), none, []⟩, ⟨13, (some 19), .fieldAddr (.tmp 18) 0, none, []⟩, ⟨14, none, .store (.tmp 19) (.tmp 17) 1, none, []⟩])
 (.seq (.region false [⟨0, (some 20), .move (.tmp 3), none, []⟩, ⟨1, (some 2), .move (.tmp 20), none, []⟩])
 .ret)))), [.tmp 2]⟩
/- slices.Clone[[]int,int] -/
def pf107 : PF := ⟨8, (.seq (.region false [⟨0, (some 2), .move (.const (.slice none 0 0)), none, []⟩])
 (.seq (.seq (.region false [⟨0, (some 3), .move (.tmp 0), none, []⟩, ⟨1, (some 4), .nilEq false .sl (.tmp 3), none, []⟩])
 (.cond (.tmp 4) (.seq (.region false [⟨0, (some 2), .move (.const (.slice none 0 0)), none, []⟩])
 .ret) .skip))
 (.seq (.region false [⟨0, (some 5), .bldS 3 1 [] 0 [], none, []⟩, ⟨1, (some 6), .move (.tmp 0), none, []⟩, ⟨2, (some 7), .append 3 1 (.tmp 5) (.tmp 6), none, []⟩, ⟨3, (some 2), .move (.tmp 7), none, []⟩])
 .ret))), [.tmp 2]⟩
/- bellarmine/lock.takeLast -/
def pf108 : PF := ⟨27, (.seq (.region false [⟨0, (some 4), .move (.const (.bool false)), none, []⟩])
 (.seq (.seq (.region false [⟨0, (some 7), .move (.tmp 0), none, []⟩, ⟨1, (some 8), .len (.tmp 7), none, []⟩, ⟨2, (some 9), .move (.const (.int .i64 0)), none, []⟩])
 (.block 0 (.loop (.seq (.region false [⟨0, (some 10), .ibin .lss .i64 (.tmp 9) (.tmp 8), none, []⟩])
 (.seq (.cond (.tmp 10) .skip (.exit 0))
 (.seq (.block 1 (.seq (.region false [⟨0, (some 11), .move (.tmp 9), none, []⟩, ⟨1, (some 5), .move (.tmp 11), none, []⟩])
 (.seq (.region false [⟨0, (some 12), .move (.tmp 0), none, []⟩, ⟨1, (some 13), .move (.tmp 5), none, []⟩, ⟨2, (some 14), .idxS (.tmp 12) (.tmp 13) 1, none, []⟩, ⟨3, (some 6), .move (.tmp 14), none, []⟩])
 (.seq (.region false [⟨0, (some 15), .move (.tmp 6), none, []⟩, ⟨1, (some 16), .callF 95 [(.tmp 15)], none, []⟩, ⟨2, (some 17), .not (.tmp 16), none, []⟩, ⟨3, (some 18), .move (.tmp 17), none, []⟩, ⟨4, (some 19), .move (.tmp 6), (some (18, true)), []⟩, ⟨5, (some 20), .callF 96 [(.tmp 19)], (some (18, true)), []⟩, ⟨6, (some 21), .move (.tmp 1), (some (18, true)), []⟩, ⟨7, (some 22), .ibin .eql .i64 (.tmp 20) (.tmp 21), (some (18, true)), []⟩, ⟨8, (some 23), .pick (.tmp 18) (.tmp 22) (.const (.bool false)), none, []⟩])
 (.cond (.tmp 23) (.seq (.region false [⟨0, (some 24), .move (.tmp 6), none, []⟩, ⟨1, (some 25), .callF 97 [(.tmp 24)], none, []⟩])
 (.seq (.region false [⟨0, (some 4), .move (.const (.bool true)), none, []⟩])
 .ret)) .skip)))))
 (.region false [⟨0, (some 26), .ibin .add .i64 (.tmp 9) (.const (.int .i64 1)), none, []⟩, ⟨1, (some 9), .move (.tmp 26), none, []⟩])))))))
 (.seq (.region false [⟨0, (some 4), .move (.const (.bool false)), none, []⟩])
 .ret))), [.tmp 4]⟩
/- cmp.isNaN[int] -/
def pf109 : PF := ⟨6, (.seq (.region false [⟨0, (some 2), .move (.const (.bool false)), none, []⟩])
 (.seq (.region false [⟨0, (some 3), .move (.tmp 0), none, []⟩, ⟨1, (some 4), .move (.tmp 0), none, []⟩, ⟨2, (some 5), .ibin .neq .i64 (.tmp 3) (.tmp 4), none, []⟩, ⟨3, (some 2), .move (.tmp 5), none, []⟩])
 .ret)), [.tmp 2]⟩
/- (*bellarmine/lock.basin[[]int]).last -/
def pf120 : PF := ⟨15, (.seq (.region false [⟨0, (some 2), .move (.const (.slice none 0 0)), none, []⟩])
 (.seq (.region true [⟨0, (some 3), .move (.tmp 0), none, []⟩, ⟨1, (some 4), .nilCheck (.tmp 3), none, []⟩, ⟨2, (some 5), .fieldAddr (.tmp 4) 0, none, []⟩, ⟨3, (some 6), .load1 (.tmp 5), none, []⟩, ⟨4, (some 7), .move (.tmp 0), none, []⟩, ⟨5, (some 8), .nilCheck (.tmp 7), none, []⟩, ⟨6, (some 9), .fieldAddr (.tmp 8) 0, none, []⟩, ⟨7, (some 10), .load1 (.tmp 9), none, []⟩, ⟨8, (some 11), .len (.tmp 10), none, []⟩, ⟨9, (some 12), .ibin .sub .i64 (.tmp 11) (.const (.int .i64 1)), none, []⟩, ⟨10, (some 13), .idxS (.tmp 6) (.tmp 12) 1, none, []⟩, ⟨11, (some 14), .load1 (.tmp 13), none, []⟩, ⟨12, (some 2), .move (.tmp 14), none, []⟩])
 .ret)), [.tmp 2]⟩
def funcs : Tr PF := (.node none (.node none (.node none (.node (some pf7) (.node none (.node (some pf31) (.node (some pf63) .nil .nil) (.node (some pf95) .nil .nil)) (.node (some pf47) .nil .nil)) (.node (some pf23) (.node (some pf39) (.node (some pf71) .nil .nil) (.node (some pf103) .nil .nil)) (.node none (.node (some pf87) .nil .nil) .nil))) (.node none (.node none (.node none (.node (some pf67) .nil .nil) .nil) .nil) (.node (some pf27) (.node (some pf43) .nil (.node (some pf107) .nil .nil)) .nil))) (.node none (.node none (.node none (.node none .nil (.node (some pf97) .nil .nil)) (.node none (.node (some pf81) .nil .nil) .nil)) (.node (some pf25) (.node none (.node (some pf73) .nil .nil) (.node (some pf105) .nil .nil)) (.node none (.node (some pf89) .nil .nil) .nil))) (.node none (.node none (.node none .nil (.node (some pf101) .nil .nil)) (.node none (.node (some pf85) .nil .nil) .nil)) (.node none (.node (some pf45) (.node (some pf77) .nil .nil) (.node (some pf109) .nil .nil)) (.node (some pf61) .nil .nil))))) (.node none (.node none (.node none (.node (some pf16) (.node none .nil (.node (some pf96) .nil .nil)) (.node none (.node (some pf80) .nil .nil) .nil)) (.node none (.node none .nil (.node (some pf104) .nil .nil)) (.node none (.node (some pf88) .nil .nil) (.node (some pf120) .nil .nil)))) (.node none (.node none (.node none (.node (some pf68) .nil .nil) (.node (some pf100) .nil .nil)) (.node (some pf52) .nil .nil)) (.node none (.node (some pf44) .nil (.node (some pf108) .nil .nil)) .nil))) (.node none (.node none (.node none (.node none (.node (some pf66) .nil .nil) (.node (some pf98) .nil .nil)) .nil) (.node none (.node (some pf42) .nil (.node (some pf106) .nil .nil)) (.node none (.node (some pf90) .nil .nil) .nil))) (.node none (.node (some pf22) .nil .nil) (.node none (.node (some pf46) .nil .nil) .nil)))))
noncomputable def C : CW := ⟨{ P := Try.prog, funcs := funcs }, 15⟩
end Go.Proofs.Ytfnflkcjhefddaa.Lk
