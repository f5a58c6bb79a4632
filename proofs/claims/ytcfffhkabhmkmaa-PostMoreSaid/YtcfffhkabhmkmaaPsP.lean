/- The program's functions, prepared: written by program, checked below. -/
import Derived.Test.YtcfffhkabhmkmaaSymMono
import Derived.Test.YtcfffhkabhmkmaaJ2
import Derived.Test.YtcfffhkabhmkmaaRows
namespace Go.Proofs.Ytcfffhkabhmkmaa.Ps
open Go Go.Abs
set_option maxRecDepth 100000
set_option maxHeartbeats 4000000
/- bellarmine/bellarminelaw12.PostMore -/
def pf6 : PF := ⟨166, (.seq (.region false [⟨0, (some 3), .box 38 (.tmp 0), none, []⟩, ⟨1, (some 5), .box 36 (.tmp 2), none, []⟩, ⟨2, (some 6), .move (.const (.bool false)), none, []⟩])
 (.seq (.region false [⟨0, (some 26), .loadN (.tmp 3) 11, none, []⟩, ⟨1, (some 27), .callF 32 [(.tmp 26), (.const (.int .i64 9))], none, []⟩, ⟨2, (some 25), .move (.tmp 27), none, []⟩, ⟨3, (some 28), .ext (.tmp 25) 0, none, []⟩, ⟨4, (some 29), .ext (.tmp 25) 1, none, []⟩, ⟨5, (some 7), .move (.tmp 28), none, []⟩, ⟨6, (some 8), .move (.tmp 29), none, []⟩])
 (.seq (.region true [⟨0, (some 30), .move (.tmp 7), none, []⟩, ⟨2, (some 32), .move (.tmp 1), none, []⟩, ⟨3, (some 33), .plain ⟨(some 33), .convert 5 3 (.tmp 32), 3, (String.ofList [Char.ofNat 111, Char.ofNat 117, Char.ofNat 116, Char.ofNat 114, Char.ofNat 105, Char.ofNat 103, Char.ofNat 104, Char.ofNat 116, Char.ofNat 46, Char.ofNat 103, Char.ofNat 111, Char.ofNat 58, Char.ofNat 50, Char.ofNat 48, Char.ofNat 57]), #[⟨2, .data⟩], none⟩, none, []⟩, ⟨4, (some 34), .move (.tmp 7), none, []⟩, ⟨5, (some 35), .len (.tmp 34), none, []⟩, ⟨6, (some 36), .ibin .rem .i64 (.tmp 33) (.tmp 35), none, []⟩, ⟨1, (some 31), .callF 33 [(.tmp 30)], none, []⟩, ⟨7, (some 37), .bldS 3 1 [(.int .i64 0)] 1 [(0, (.tmp 36))], none, []⟩, ⟨8, (some 38), .append 3 1 (.tmp 31) (.tmp 37), none, []⟩, ⟨9, (some 9), .move (.tmp 38), none, []⟩])
 (.seq (.region false [⟨0, (some 40), .move (.tmp 7), none, []⟩, ⟨1, (some 41), .callF 18 [(.tmp 40)], none, []⟩, ⟨2, (some 39), .move (.tmp 41), none, []⟩, ⟨3, (some 42), .ext (.tmp 39) 0, none, []⟩, ⟨4, (some 43), .ext (.tmp 39) 1, none, []⟩, ⟨5, (some 10), .move (.tmp 42), none, []⟩, ⟨6, (some 11), .move (.tmp 43), none, []⟩])
 (.seq (.region false [⟨0, (some 45), .move (.tmp 9), none, []⟩, ⟨1, (some 46), .callF 18 [(.tmp 45)], none, []⟩, ⟨2, (some 44), .move (.tmp 46), none, []⟩, ⟨3, (some 47), .ext (.tmp 44) 0, none, []⟩, ⟨4, (some 48), .ext (.tmp 44) 1, none, []⟩, ⟨5, (some 12), .move (.tmp 47), none, []⟩, ⟨6, (some 13), .move (.tmp 48), none, []⟩])
 (.seq (.region false [⟨0, (some 50), .move (.tmp 9), none, []⟩, ⟨1, (some 51), .callF 20 [(.tmp 50)], none, []⟩, ⟨2, (some 49), .move (.tmp 51), none, []⟩, ⟨3, (some 52), .ext (.tmp 49) 0, none, []⟩, ⟨4, (some 53), .ext (.tmp 49) 1, none, []⟩, ⟨5, (some 14), .move (.tmp 52), none, []⟩, ⟨6, (some 15), .move (.tmp 53), none, []⟩])
 (.seq (.seq (.region false [⟨0, (some 54), .move (.tmp 11), none, []⟩, ⟨1, (some 55), .ibin .neq .i64 (.tmp 54) (.const (.int .i64 0)), none, []⟩, ⟨2, (some 56), .move (.tmp 55), none, []⟩, ⟨3, (some 57), .move (.tmp 13), (some (56, false)), []⟩, ⟨4, (some 58), .ibin .neq .i64 (.tmp 57) (.const (.int .i64 0)), (some (56, false)), []⟩, ⟨5, (some 59), .pick (.tmp 56) (.const (.bool true)) (.tmp 58), none, []⟩, ⟨6, (some 60), .move (.tmp 59), none, []⟩, ⟨7, (some 61), .move (.tmp 15), (some (60, false)), []⟩, ⟨8, (some 62), .ibin .neq .i64 (.tmp 61) (.const (.int .i64 0)), (some (60, false)), []⟩, ⟨9, (some 63), .pick (.tmp 60) (.const (.bool true)) (.tmp 62), none, []⟩, ⟨10, (some 64), .move (.tmp 63), none, []⟩, ⟨11, (some 65), .move (.tmp 12), (some (64, false)), []⟩, ⟨12, (some 66), .len (.tmp 65), (some (64, false)), []⟩, ⟨13, (some 67), .move (.tmp 10), (some (64, false)), []⟩, ⟨14, (some 68), .len (.tmp 67), (some (64, false)), []⟩, ⟨15, (some 69), .ibin .lss .i64 (.tmp 66) (.tmp 68), (some (64, false)), []⟩, ⟨16, (some 70), .pick (.tmp 64) (.const (.bool true)) (.tmp 69), none, []⟩, ⟨17, (some 71), .move (.tmp 70), none, []⟩, ⟨18, (some 72), .move (.tmp 12), (some (71, false)), []⟩, ⟨19, (some 73), .len (.tmp 72), (some (71, false)), []⟩, ⟨20, (some 74), .move (.tmp 10), (some (71, false)), []⟩, ⟨21, (some 75), .len (.tmp 74), (some (71, false)), []⟩, ⟨22, (some 76), .ibin .add .i64 (.tmp 75) (.const (.int .i64 1)), (some (71, false)), []⟩, ⟨23, (some 77), .ibin .gtr .i64 (.tmp 73) (.tmp 76), (some (71, false)), []⟩, ⟨24, (some 78), .pick (.tmp 71) (.const (.bool true)) (.tmp 77), none, []⟩, ⟨25, (some 79), .move (.tmp 78), none, []⟩, ⟨26, (some 80), .move (.tmp 14), (some (79, false)), []⟩, ⟨27, (some 81), .len (.tmp 80), (some (79, false)), []⟩, ⟨28, (some 82), .move (.tmp 12), (some (79, false)), []⟩, ⟨29, (some 83), .len (.tmp 82), (some (79, false)), []⟩, ⟨30, (some 84), .ibin .neq .i64 (.tmp 81) (.tmp 83), (some (79, false)), []⟩, ⟨31, (some 85), .pick (.tmp 79) (.const (.bool true)) (.tmp 84), none, []⟩])
 (.cond (.tmp 85) (.seq (.region false [⟨0, (some 6), .move (.const (.bool false)), none, []⟩])
 .ret) .skip))
 (.seq (.region false [⟨0, (some 16), .move (.const (.slice none 0 0)), none, []⟩])
 (.seq (.seq (.region false [⟨0, (some 86), .move (.tmp 7), none, []⟩, ⟨1, (some 87), .len (.tmp 86), none, []⟩, ⟨2, (some 88), .move (.const (.int .i64 0)), none, []⟩])
 (.block 0 (.loop (.seq (.region false [⟨0, (some 89), .ibin .lss .i64 (.tmp 88) (.tmp 87), none, []⟩])
 (.seq (.cond (.tmp 89) .skip (.exit 0))
 (.seq (.block 1 (.seq (.region false [⟨0, (some 90), .move (.tmp 88), none, []⟩, ⟨1, (some 17), .move (.tmp 90), none, []⟩])
 (.region false [⟨0, (some 91), .move (.tmp 16), none, []⟩, ⟨1, (some 92), .move (.tmp 17), none, []⟩, ⟨2, (some 93), .idxA (.tmp 5) (.tmp 92) 10 1, none, []⟩, ⟨3, (some 94), .load1 (.tmp 93), none, []⟩, ⟨4, (some 95), .plain ⟨(some 95), .convert 5 3 (.tmp 94), 3, (String.ofList [Char.ofNat 111, Char.ofNat 117, Char.ofNat 116, Char.ofNat 114, Char.ofNat 105, Char.ofNat 103, Char.ofNat 104, Char.ofNat 116, Char.ofNat 46, Char.ofNat 103, Char.ofNat 111, Char.ofNat 58, Char.ofNat 50, Char.ofNat 49, Char.ofNat 57]), #[⟨3, .data⟩], none⟩, none, []⟩, ⟨5, (some 96), .ibin .rem .i64 (.tmp 95) (.const (.int .i64 19)), none, []⟩, ⟨6, (some 97), .ibin .add .i64 (.const (.int .i64 2)) (.tmp 96), none, []⟩, ⟨7, (some 98), .bldS 3 1 [(.int .i64 0)] 1 [(0, (.tmp 97))], none, []⟩, ⟨8, (some 99), .append 3 1 (.tmp 91) (.tmp 98), none, []⟩, ⟨9, (some 16), .move (.tmp 99), none, []⟩])))
 (.region false [⟨0, (some 100), .ibin .add .i64 (.tmp 88) (.const (.int .i64 1)), none, []⟩, ⟨1, (some 88), .move (.tmp 100), none, []⟩])))))))
 (.seq (.region false [⟨0, (some 101), .move (.tmp 16), none, []⟩, ⟨1, (some 102), .callF 33 [(.tmp 101)], none, []⟩, ⟨2, (some 18), .move (.tmp 102), none, []⟩])
 (.seq (.region false [⟨0, (some 103), .move (.tmp 18), none, []⟩, ⟨1, (some 104), .move (.tmp 1), none, []⟩, ⟨2, (some 105), .plain ⟨(some 105), .convert 5 3 (.tmp 104), 3, (String.ofList [Char.ofNat 111, Char.ofNat 117, Char.ofNat 116, Char.ofNat 114, Char.ofNat 105, Char.ofNat 103, Char.ofNat 104, Char.ofNat 116, Char.ofNat 46, Char.ofNat 103, Char.ofNat 111, Char.ofNat 58, Char.ofNat 50, Char.ofNat 50, Char.ofNat 50]), #[⟨1, .data⟩], none⟩, none, []⟩, ⟨3, (some 106), .move (.tmp 18), none, []⟩, ⟨4, (some 107), .len (.tmp 106), none, []⟩, ⟨5, (some 108), .ibin .rem .i64 (.tmp 105) (.tmp 107), none, []⟩, ⟨6, (some 109), .idxS (.tmp 103) (.tmp 108) 1, none, []⟩, ⟨7, (some 110), .load1 (.tmp 109), none, []⟩, ⟨8, (some 111), .ibin .sub .i64 (.tmp 110) (.const (.int .i64 1)), none, []⟩, ⟨9, (some 112), .idxS (.tmp 103) (.tmp 108) 1, none, []⟩, ⟨10, none, .store (.tmp 112) (.tmp 111) 1, none, []⟩])
 (.seq (.region false [⟨0, (some 19), .move (.func 34), none, []⟩])
 (.seq (.region false [⟨0, (some 114), .move (.tmp 7), none, []⟩, ⟨1, (some 115), .move (.tmp 16), none, []⟩, ⟨2, (some 116), .callF 22 [(.tmp 114), (.tmp 115)], none, []⟩, ⟨3, (some 113), .move (.tmp 116), none, []⟩, ⟨4, (some 117), .ext (.tmp 113) 0, none, []⟩, ⟨5, (some 118), .ext (.tmp 113) 1, none, []⟩, ⟨6, (some 20), .move (.tmp 117), none, []⟩, ⟨7, (some 11), .move (.tmp 118), none, []⟩])
 (.seq (.region false [⟨0, (some 120), .move (.tmp 7), none, []⟩, ⟨1, (some 121), .move (.tmp 18), none, []⟩, ⟨2, (some 122), .callF 22 [(.tmp 120), (.tmp 121)], none, []⟩, ⟨3, (some 119), .move (.tmp 122), none, []⟩, ⟨4, (some 123), .ext (.tmp 119) 0, none, []⟩, ⟨5, (some 124), .ext (.tmp 119) 1, none, []⟩, ⟨6, (some 21), .move (.tmp 123), none, []⟩, ⟨7, (some 13), .move (.tmp 124), none, []⟩])
 (.seq (.region false [⟨0, (some 125), .move (.tmp 19), none, []⟩, ⟨1, (some 126), .move (.tmp 16), none, []⟩, ⟨2, (some 127), .move (.tmp 20), none, []⟩, ⟨3, (some 128), .callV (.tmp 125) [(.tmp 126), (.tmp 127)], none, []⟩, ⟨4, (some 129), .move (.tmp 19), none, []⟩, ⟨5, (some 130), .move (.tmp 18), none, []⟩, ⟨6, (some 131), .move (.tmp 21), none, []⟩, ⟨7, (some 132), .callV (.tmp 129) [(.tmp 130), (.tmp 131)], none, []⟩, ⟨8, (some 133), .move (.tmp 19), none, []⟩, ⟨9, (some 134), .move (.tmp 16), none, []⟩, ⟨10, (some 135), .move (.tmp 10), none, []⟩, ⟨11, (some 136), .callV (.tmp 133) [(.tmp 134), (.tmp 135)], none, []⟩, ⟨12, (some 22), .move (.tmp 128), none, []⟩, ⟨13, (some 23), .move (.tmp 132), none, []⟩, ⟨14, (some 24), .move (.tmp 136), none, []⟩])
 (.seq (.region false [⟨0, (some 137), .move (.tmp 11), none, []⟩, ⟨1, (some 138), .ibin .eql .i64 (.tmp 137) (.const (.int .i64 0)), none, []⟩, ⟨2, (some 139), .move (.tmp 138), none, []⟩, ⟨3, (some 140), .move (.tmp 13), (some (139, true)), []⟩, ⟨4, (some 141), .ibin .eql .i64 (.tmp 140) (.const (.int .i64 0)), (some (139, true)), []⟩, ⟨5, (some 142), .pick (.tmp 139) (.tmp 141) (.const (.bool false)), none, []⟩, ⟨6, (some 143), .move (.tmp 142), none, []⟩, ⟨7, (some 144), .move (.tmp 23), (some (143, true)), []⟩, ⟨8, (some 145), .ibin .geq .i64 (.tmp 144) (.const (.int .i64 0)), (some (143, true)), []⟩, ⟨9, (some 146), .pick (.tmp 143) (.tmp 145) (.const (.bool false)), none, []⟩, ⟨10, (some 147), .move (.tmp 146), none, []⟩, ⟨11, (some 148), .move (.tmp 23), (some (147, true)), []⟩, ⟨12, (some 149), .move (.tmp 22), (some (147, true)), []⟩, ⟨13, (some 150), .ibin .leq .i64 (.tmp 148) (.tmp 149), (some (147, true)), []⟩, ⟨14, (some 151), .pick (.tmp 147) (.tmp 150) (.const (.bool false)), none, []⟩, ⟨15, (some 152), .move (.tmp 151), none, []⟩, ⟨16, (some 153), .move (.tmp 22), (some (152, true)), []⟩, ⟨17, (some 154), .ibin .sub .i64 (.tmp 153) (.const (.int .i64 1)), (some (152, true)), []⟩, ⟨18, (some 155), .move (.tmp 23), (some (152, true)), []⟩, ⟨19, (some 156), .ibin .leq .i64 (.tmp 154) (.tmp 155), (some (152, true)), []⟩, ⟨20, (some 157), .pick (.tmp 152) (.tmp 156) (.const (.bool false)), none, []⟩, ⟨21, (some 158), .move (.tmp 157), none, []⟩, ⟨22, (some 159), .move (.tmp 22), (some (158, true)), []⟩, ⟨23, (some 160), .move (.tmp 24), (some (158, true)), []⟩, ⟨24, (some 161), .ibin .leq .i64 (.tmp 159) (.tmp 160), (some (158, true)), []⟩, ⟨25, (some 162), .pick (.tmp 158) (.tmp 161) (.const (.bool false)), none, []⟩, ⟨26, (some 163), .move (.tmp 162), none, []⟩, ⟨27, (some 164), .callF 8 [], (some (163, true)), []⟩, ⟨28, (some 165), .pick (.tmp 163) (.tmp 164) (.const (.bool false)), none, []⟩, ⟨29, (some 6), .move (.tmp 165), none, []⟩])
 .ret)))))))))))))))), [.tmp 6]⟩
/- bellarmine/post.Hand -/
def pf9 : PF := ⟨22, (.seq (.region false [⟨0, (some 4), .move (.const (.slice none 0 0)), none, []⟩, ⟨1, (some 5), .move (.const (.int .i64 0)), none, []⟩])
 (.seq (.seq (.region false [⟨0, (some 7), .move (.tmp 0), none, []⟩, ⟨1, (some 8), .callF 12 [(.tmp 7)], none, []⟩, ⟨2, (some 6), .move (.tmp 8), none, []⟩])
 (.seq (.region false [⟨0, (some 9), .move (.tmp 6), none, []⟩, ⟨1, (some 10), .ibin .neq .i64 (.tmp 9) (.const (.int .i64 0)), none, []⟩])
 (.cond (.tmp 10) (.seq (.region false [⟨0, (some 11), .move (.tmp 6), none, []⟩, ⟨1, (some 4), .move (.const (.slice none 0 0)), none, []⟩, ⟨2, (some 5), .move (.tmp 11), none, []⟩])
 .ret) .skip)))
 (.seq (.seq (.region false [⟨0, (some 12), .move (.tmp 0), none, []⟩, ⟨1, (some 13), .move (.tmp 1), none, []⟩, ⟨2, (some 14), .callF 39 [(.tmp 12), (.tmp 13)], none, []⟩, ⟨3, (some 15), .not (.tmp 14), none, []⟩])
 (.cond (.tmp 15) (.seq (.region false [⟨0, (some 4), .move (.const (.slice none 0 0)), none, []⟩, ⟨1, (some 5), .move (.const (.int .i64 2)), none, []⟩])
 .ret) .skip))
 (.seq (.region false [⟨0, (some 16), .move (.tmp 0), none, []⟩, ⟨1, (some 17), .callF 40 [(.tmp 16)], none, []⟩, ⟨2, (some 18), .move (.tmp 1), none, []⟩, ⟨3, (some 19), .idxS (.tmp 17) (.tmp 18) 1, none, []⟩, ⟨4, (some 20), .load1 (.tmp 19), none, []⟩, ⟨5, (some 21), .callF 41 [(.tmp 20)], none, []⟩, ⟨6, (some 4), .move (.tmp 21), none, []⟩, ⟨7, (some 5), .move (.const (.int .i64 0)), none, []⟩])
 .ret)))), [.tmp 4, .tmp 5]⟩
/- bellarmine/post.Check -/
def pf12 : PF := ⟨23, (.seq (.region false [⟨0, (some 2), .move (.const (.int .i64 0)), none, []⟩])
 (.seq (.seq (.region false [⟨0, (some 4), .move (.tmp 0), none, []⟩, ⟨1, (some 5), .len (.tmp 4), none, []⟩, ⟨2, (some 6), .ibin .eql .i64 (.tmp 5) (.const (.int .i64 0)), none, []⟩])
 (.cond (.tmp 6) (.seq (.region false [⟨0, (some 2), .move (.const (.int .i64 4)), none, []⟩])
 .ret) .skip))
 (.seq (.seq (.region false [⟨0, (some 7), .move (.tmp 0), none, []⟩, ⟨1, (some 8), .len (.tmp 7), none, []⟩, ⟨2, (some 9), .ibin .gtr .i64 (.tmp 8) (.const (.int .i64 10)), none, []⟩])
 (.cond (.tmp 9) (.seq (.region false [⟨0, (some 2), .move (.const (.int .i64 3)), none, []⟩])
 .ret) .skip))
 (.seq (.seq (.region false [⟨0, (some 10), .move (.tmp 0), none, []⟩, ⟨1, (some 11), .len (.tmp 10), none, []⟩, ⟨2, (some 12), .move (.const (.int .i64 0)), none, []⟩])
 (.block 0 (.loop (.seq (.region false [⟨0, (some 13), .ibin .lss .i64 (.tmp 12) (.tmp 11), none, []⟩])
 (.seq (.cond (.tmp 13) .skip (.exit 0))
 (.seq (.block 1 (.seq (.region false [⟨0, (some 14), .move (.tmp 12), none, []⟩, ⟨1, (some 3), .move (.tmp 14), none, []⟩])
 (.seq (.region false [⟨0, (some 15), .move (.tmp 0), none, []⟩, ⟨1, (some 16), .move (.tmp 3), none, []⟩, ⟨2, (some 17), .idxS (.tmp 15) (.tmp 16) 1, none, []⟩, ⟨3, (some 18), .load1 (.tmp 17), none, []⟩, ⟨4, (some 19), .move (.tmp 3), none, []⟩, ⟨5, (some 20), .callF 44 [(.tmp 18), (.tmp 19)], none, []⟩, ⟨6, (some 21), .not (.tmp 20), none, []⟩])
 (.cond (.tmp 21) (.seq (.region false [⟨0, (some 2), .move (.const (.int .i64 2)), none, []⟩])
 .ret) .skip))))
 (.region false [⟨0, (some 22), .ibin .add .i64 (.tmp 12) (.const (.int .i64 1)), none, []⟩, ⟨1, (some 12), .move (.tmp 22), none, []⟩])))))))
 (.seq (.region false [⟨0, (some 2), .move (.const (.int .i64 0)), none, []⟩])
 .ret))))), [.tmp 2]⟩
/- bellarmine/post.Guards -/
def pf14 : PF := ⟨17, (.seq (.region false [⟨0, (some 4), .move (.const (.int .i64 0)), none, []⟩])
 (.seq (.seq (.region false [⟨0, (some 6), .move (.tmp 0), none, []⟩, ⟨1, (some 7), .move (.tmp 1), none, []⟩, ⟨2, (some 8), .callF 45 [(.tmp 6), (.tmp 7)], none, []⟩, ⟨3, (some 5), .move (.tmp 8), none, []⟩])
 (.seq (.region false [⟨0, (some 9), .move (.tmp 5), none, []⟩, ⟨1, (some 10), .ibin .neq .i64 (.tmp 9) (.const (.int .i64 0)), none, []⟩])
 (.cond (.tmp 10) (.seq (.region false [⟨0, (some 11), .move (.tmp 5), none, []⟩, ⟨1, (some 4), .move (.tmp 11), none, []⟩])
 .ret) .skip)))
 (.seq (.seq (.region false [⟨0, (some 12), .move (.tmp 0), none, []⟩, ⟨1, (some 13), .callF 40 [(.tmp 12)], none, []⟩, ⟨2, (some 14), .move (.tmp 1), none, []⟩, ⟨3, (some 15), .callF 46 [(.tmp 13), (.tmp 14)], none, []⟩, ⟨4, (some 16), .not (.tmp 15), none, []⟩])
 (.cond (.tmp 16) (.seq (.region false [⟨0, (some 4), .move (.const (.int .i64 14)), none, []⟩])
 .ret) .skip))
 (.seq (.region false [⟨0, (some 4), .move (.const (.int .i64 0)), none, []⟩])
 .ret)))), [.tmp 4]⟩
/- bellarmine/post.Proves -/
def pf16 : PF := ⟨17, (.seq (.region false [⟨0, (some 4), .move (.const (.int .i64 0)), none, []⟩])
 (.seq (.seq (.region false [⟨0, (some 6), .move (.tmp 0), none, []⟩, ⟨1, (some 7), .move (.tmp 1), none, []⟩, ⟨2, (some 8), .callF 45 [(.tmp 6), (.tmp 7)], none, []⟩, ⟨3, (some 5), .move (.tmp 8), none, []⟩])
 (.seq (.region false [⟨0, (some 9), .move (.tmp 5), none, []⟩, ⟨1, (some 10), .ibin .neq .i64 (.tmp 9) (.const (.int .i64 0)), none, []⟩])
 (.cond (.tmp 10) (.seq (.region false [⟨0, (some 11), .move (.tmp 5), none, []⟩, ⟨1, (some 4), .move (.tmp 11), none, []⟩])
 .ret) .skip)))
 (.seq (.seq (.region false [⟨0, (some 12), .move (.tmp 0), none, []⟩, ⟨1, (some 13), .callF 40 [(.tmp 12)], none, []⟩, ⟨2, (some 14), .move (.tmp 1), none, []⟩, ⟨3, (some 15), .callF 49 [(.tmp 13), (.tmp 14)], none, []⟩, ⟨4, (some 16), .not (.tmp 15), none, []⟩])
 (.cond (.tmp 16) (.seq (.region false [⟨0, (some 4), .move (.const (.int .i64 14)), none, []⟩])
 .ret) .skip))
 (.seq (.region false [⟨0, (some 4), .move (.const (.int .i64 0)), none, []⟩])
 .ret)))), [.tmp 4]⟩
/- bellarmine/post.Fewest -/
def pf18 : PF := ⟨15, (.seq (.region false [⟨0, (some 2), .move (.const (.slice none 0 0)), none, []⟩, ⟨1, (some 3), .move (.const (.int .i64 0)), none, []⟩])
 (.seq (.seq (.region false [⟨0, (some 5), .move (.tmp 0), none, []⟩, ⟨1, (some 6), .callF 12 [(.tmp 5)], none, []⟩, ⟨2, (some 4), .move (.tmp 6), none, []⟩])
 (.seq (.region false [⟨0, (some 7), .move (.tmp 4), none, []⟩, ⟨1, (some 8), .ibin .neq .i64 (.tmp 7) (.const (.int .i64 0)), none, []⟩])
 (.cond (.tmp 8) (.seq (.region false [⟨0, (some 9), .move (.tmp 4), none, []⟩, ⟨1, (some 2), .move (.const (.slice none 0 0)), none, []⟩, ⟨2, (some 3), .move (.tmp 9), none, []⟩])
 .ret) .skip)))
 (.seq (.region false [⟨0, (some 10), .move (.tmp 0), none, []⟩, ⟨1, (some 11), .callF 51 [(.tmp 10)], none, []⟩, ⟨2, (some 12), .callF 52 [(.tmp 11)], none, []⟩, ⟨3, (some 13), .idxS (.tmp 12) (.const (.int .i64 0)) 1, none, []⟩, ⟨4, (some 14), .load1 (.tmp 13), none, []⟩, ⟨5, (some 2), .move (.tmp 14), none, []⟩, ⟨6, (some 3), .move (.const (.int .i64 0)), none, []⟩])
 .ret))), [.tmp 2, .tmp 3]⟩
/- bellarmine/post.Apart -/
def pf20 : PF := ⟨15, (.seq (.region false [⟨0, (some 2), .move (.const (.slice none 0 0)), none, []⟩, ⟨1, (some 3), .move (.const (.int .i64 0)), none, []⟩])
 (.seq (.seq (.region false [⟨0, (some 5), .move (.tmp 0), none, []⟩, ⟨1, (some 6), .callF 12 [(.tmp 5)], none, []⟩, ⟨2, (some 4), .move (.tmp 6), none, []⟩])
 (.seq (.region false [⟨0, (some 7), .move (.tmp 4), none, []⟩, ⟨1, (some 8), .ibin .neq .i64 (.tmp 7) (.const (.int .i64 0)), none, []⟩])
 (.cond (.tmp 8) (.seq (.region false [⟨0, (some 9), .move (.tmp 4), none, []⟩, ⟨1, (some 2), .move (.const (.slice none 0 0)), none, []⟩, ⟨2, (some 3), .move (.tmp 9), none, []⟩])
 .ret) .skip)))
 (.seq (.region false [⟨0, (some 10), .move (.tmp 0), none, []⟩, ⟨1, (some 11), .callF 55 [(.tmp 10)], none, []⟩, ⟨2, (some 12), .callF 52 [(.tmp 11)], none, []⟩, ⟨3, (some 13), .idxS (.tmp 12) (.const (.int .i64 0)) 1, none, []⟩, ⟨4, (some 14), .load1 (.tmp 13), none, []⟩, ⟨5, (some 2), .move (.tmp 14), none, []⟩, ⟨6, (some 3), .move (.const (.int .i64 0)), none, []⟩])
 .ret))), [.tmp 2, .tmp 3]⟩
/- bellarmine/post.Cheapest -/
def pf22 : PF := ⟨38, (.seq (.region false [⟨0, (some 4), .move (.const (.slice none 0 0)), none, []⟩, ⟨1, (some 5), .move (.const (.int .i64 0)), none, []⟩])
 (.seq (.seq (.region false [⟨0, (some 9), .move (.tmp 0), none, []⟩, ⟨1, (some 10), .callF 12 [(.tmp 9)], none, []⟩, ⟨2, (some 6), .move (.tmp 10), none, []⟩])
 (.seq (.region false [⟨0, (some 11), .move (.tmp 6), none, []⟩, ⟨1, (some 12), .ibin .neq .i64 (.tmp 11) (.const (.int .i64 0)), none, []⟩])
 (.cond (.tmp 12) (.seq (.region false [⟨0, (some 13), .move (.tmp 6), none, []⟩, ⟨1, (some 4), .move (.const (.slice none 0 0)), none, []⟩, ⟨2, (some 5), .move (.tmp 13), none, []⟩])
 .ret) .skip)))
 (.seq (.seq (.region false [⟨0, (some 14), .move (.tmp 1), none, []⟩, ⟨1, (some 15), .len (.tmp 14), none, []⟩, ⟨2, (some 16), .move (.tmp 0), none, []⟩, ⟨3, (some 17), .len (.tmp 16), none, []⟩, ⟨4, (some 18), .ibin .neq .i64 (.tmp 15) (.tmp 17), none, []⟩])
 (.cond (.tmp 18) (.seq (.region false [⟨0, (some 4), .move (.const (.slice none 0 0)), none, []⟩, ⟨1, (some 5), .move (.const (.int .i64 5)), none, []⟩])
 .ret) .skip))
 (.seq (.seq (.region false [⟨0, (some 19), .move (.tmp 1), none, []⟩, ⟨1, (some 20), .len (.tmp 19), none, []⟩, ⟨2, (some 21), .move (.const (.int .i64 0)), none, []⟩])
 (.block 0 (.loop (.seq (.region false [⟨0, (some 22), .ibin .lss .i64 (.tmp 21) (.tmp 20), none, []⟩])
 (.seq (.cond (.tmp 22) .skip (.exit 0))
 (.seq (.block 1 (.seq (.region false [⟨0, (some 23), .idxS (.tmp 19) (.tmp 21) 1, none, []⟩, ⟨1, (some 24), .load1 (.tmp 23), none, []⟩, ⟨2, (some 8), .move (.tmp 24), none, []⟩])
 (.seq (.region false [⟨0, (some 25), .move (.tmp 8), none, []⟩, ⟨1, (some 26), .ibin .lss .i64 (.tmp 25) (.const (.int .i64 1)), none, []⟩, ⟨2, (some 27), .move (.tmp 26), none, []⟩, ⟨3, (some 28), .move (.tmp 8), (some (27, false)), []⟩, ⟨4, (some 29), .ibin .gtr .i64 (.tmp 28) (.const (.int .i64 20)), (some (27, false)), []⟩, ⟨5, (some 30), .pick (.tmp 27) (.const (.bool true)) (.tmp 29), none, []⟩])
 (.cond (.tmp 30) (.seq (.region false [⟨0, (some 4), .move (.const (.slice none 0 0)), none, []⟩, ⟨1, (some 5), .move (.const (.int .i64 1)), none, []⟩])
 .ret) .skip))))
 (.region false [⟨0, (some 31), .ibin .add .i64 (.tmp 21) (.const (.int .i64 1)), none, []⟩, ⟨1, (some 21), .move (.tmp 31), none, []⟩])))))))
 (.seq (.region false [⟨0, (some 32), .move (.tmp 0), none, []⟩, ⟨1, (some 33), .move (.tmp 1), none, []⟩, ⟨2, (some 34), .callF 57 [(.tmp 32), (.tmp 33)], none, []⟩, ⟨3, (some 35), .callF 52 [(.tmp 34)], none, []⟩, ⟨4, (some 36), .idxS (.tmp 35) (.const (.int .i64 0)) 1, none, []⟩, ⟨5, (some 37), .load1 (.tmp 36), none, []⟩, ⟨6, (some 4), .move (.tmp 37), none, []⟩, ⟨7, (some 5), .move (.const (.int .i64 0)), none, []⟩])
 .ret))))), [.tmp 4, .tmp 5]⟩
/- bellarmine/post.Count -/
def pf24 : PF := ⟨18, (.seq (.region false [⟨0, (some 2), .move (.const (.int .i64 0)), none, []⟩, ⟨1, (some 3), .move (.const (.int .i64 0)), none, []⟩])
 (.seq (.seq (.region false [⟨0, (some 6), .move (.tmp 0), none, []⟩, ⟨1, (some 7), .callF 12 [(.tmp 6)], none, []⟩, ⟨2, (some 4), .move (.tmp 7), none, []⟩])
 (.seq (.region false [⟨0, (some 8), .move (.tmp 4), none, []⟩, ⟨1, (some 9), .ibin .neq .i64 (.tmp 8) (.const (.int .i64 0)), none, []⟩])
 (.cond (.tmp 9) (.seq (.region false [⟨0, (some 10), .move (.tmp 4), none, []⟩, ⟨1, (some 2), .move (.const (.int .i64 0)), none, []⟩, ⟨2, (some 3), .move (.tmp 10), none, []⟩])
 .ret) .skip)))
 (.seq (.region false [⟨0, (some 5), .new 3 [(.int .i64 0)], none, []⟩, ⟨1, none, .store (.tmp 5) (.const (.int .i64 0)) 1, none, []⟩])
 (.seq (.seq (.region false [⟨0, (some 11), .move (.tmp 0), none, []⟩, ⟨1, (some 12), .callF 51 [(.tmp 11)], none, []⟩, ⟨2, (some 13), .callF 59 [(.tmp 12)], none, []⟩])
 (.block 0 (.rangeFunc (.tmp 13) [14] .skip (.block 1 (.region false [⟨0, (some 15), .load1 (.tmp 5), none, []⟩, ⟨1, (some 16), .ibin .add .i64 (.tmp 15) (.const (.int .i64 1)), none, []⟩, ⟨2, none, .store (.tmp 5) (.tmp 16) 1, none, []⟩])))))
 (.seq (.region false [⟨0, (some 17), .load1 (.tmp 5), none, []⟩, ⟨1, (some 2), .move (.tmp 17), none, []⟩, ⟨2, (some 3), .move (.const (.int .i64 0)), none, []⟩])
 .ret))))), [.tmp 2, .tmp 3]⟩
/- bellarmine/post.Ways -/
def pf26 : PF := ⟨14, (.seq (.region false [⟨0, (some 2), .move (.const (.int .i64 0)), none, []⟩, ⟨1, (some 3), .move (.const (.int .i64 0)), none, []⟩])
 (.seq (.seq (.region false [⟨0, (some 5), .move (.tmp 0), none, []⟩, ⟨1, (some 6), .callF 12 [(.tmp 5)], none, []⟩, ⟨2, (some 4), .move (.tmp 6), none, []⟩])
 (.seq (.region false [⟨0, (some 7), .move (.tmp 4), none, []⟩, ⟨1, (some 8), .ibin .neq .i64 (.tmp 7) (.const (.int .i64 0)), none, []⟩])
 (.cond (.tmp 8) (.seq (.region false [⟨0, (some 9), .move (.tmp 4), none, []⟩, ⟨1, (some 2), .move (.const (.int .i64 0)), none, []⟩, ⟨2, (some 3), .move (.tmp 9), none, []⟩])
 .ret) .skip)))
 (.seq (.region false [⟨0, (some 10), .move (.tmp 0), none, []⟩, ⟨1, (some 11), .callF 51 [(.tmp 10)], none, []⟩, ⟨2, (some 12), .callF 52 [(.tmp 11)], none, []⟩, ⟨3, (some 13), .len (.tmp 12), none, []⟩, ⟨4, (some 2), .move (.tmp 13), none, []⟩, ⟨5, (some 3), .move (.const (.int .i64 0)), none, []⟩])
 .ret))), [.tmp 2, .tmp 3]⟩
/- bellarmine/post.Always -/
def pf28 : PF := ⟨20, (.seq (.region false [⟨0, (some 2), .move (.const (.slice none 0 0)), none, []⟩, ⟨1, (some 3), .move (.const (.int .i64 0)), none, []⟩])
 (.seq (.seq (.region false [⟨0, (some 6), .move (.tmp 0), none, []⟩, ⟨1, (some 7), .callF 12 [(.tmp 6)], none, []⟩, ⟨2, (some 4), .move (.tmp 7), none, []⟩])
 (.seq (.region false [⟨0, (some 8), .move (.tmp 4), none, []⟩, ⟨1, (some 9), .ibin .neq .i64 (.tmp 8) (.const (.int .i64 0)), none, []⟩])
 (.cond (.tmp 9) (.seq (.region false [⟨0, (some 10), .move (.tmp 4), none, []⟩, ⟨1, (some 2), .move (.const (.slice none 0 0)), none, []⟩, ⟨2, (some 3), .move (.tmp 10), none, []⟩])
 .ret) .skip)))
 (.seq (.region false [⟨0, (some 11), .move (.tmp 0), none, []⟩, ⟨1, (some 12), .callF 51 [(.tmp 11)], none, []⟩, ⟨2, (some 13), .callF 52 [(.tmp 12)], none, []⟩, ⟨3, (some 5), .move (.tmp 13), none, []⟩])
 (.seq (.region false [⟨0, (some 14), .move (.tmp 5), none, []⟩, ⟨1, (some 15), .move (.tmp 5), none, []⟩, ⟨2, (some 16), .len (.tmp 15), none, []⟩, ⟨3, (some 17), .move (.tmp 0), none, []⟩, ⟨4, (some 18), .len (.tmp 17), none, []⟩, ⟨5, (some 19), .callF 60 [(.tmp 14), (.tmp 16), (.tmp 18)], none, []⟩, ⟨6, (some 2), .move (.tmp 19), none, []⟩, ⟨7, (some 3), .move (.const (.int .i64 0)), none, []⟩])
 .ret)))), [.tmp 2, .tmp 3]⟩
/- bellarmine/post.Never -/
def pf30 : PF := ⟨16, (.seq (.region false [⟨0, (some 2), .move (.const (.slice none 0 0)), none, []⟩, ⟨1, (some 3), .move (.const (.int .i64 0)), none, []⟩])
 (.seq (.seq (.region false [⟨0, (some 5), .move (.tmp 0), none, []⟩, ⟨1, (some 6), .callF 12 [(.tmp 5)], none, []⟩, ⟨2, (some 4), .move (.tmp 6), none, []⟩])
 (.seq (.region false [⟨0, (some 7), .move (.tmp 4), none, []⟩, ⟨1, (some 8), .ibin .neq .i64 (.tmp 7) (.const (.int .i64 0)), none, []⟩])
 (.cond (.tmp 8) (.seq (.region false [⟨0, (some 9), .move (.tmp 4), none, []⟩, ⟨1, (some 2), .move (.const (.slice none 0 0)), none, []⟩, ⟨2, (some 3), .move (.tmp 9), none, []⟩])
 .ret) .skip)))
 (.seq (.region false [⟨0, (some 10), .move (.tmp 0), none, []⟩, ⟨1, (some 11), .callF 51 [(.tmp 10)], none, []⟩, ⟨2, (some 12), .callF 52 [(.tmp 11)], none, []⟩, ⟨3, (some 13), .move (.tmp 0), none, []⟩, ⟨4, (some 14), .len (.tmp 13), none, []⟩, ⟨5, (some 15), .callF 60 [(.tmp 12), (.const (.int .i64 0)), (.tmp 14)], none, []⟩, ⟨6, (some 2), .move (.tmp 15), none, []⟩, ⟨7, (some 3), .move (.const (.int .i64 0)), none, []⟩])
 .ret))), [.tmp 2, .tmp 3]⟩
/- (bellarmine/bellarminelaw12.Coast).made -/
def pf32 : PF := ⟨53, (.seq (.region false [⟨0, (some 2), .box 38 (.tmp 0), none, []⟩, ⟨1, (some 4), .move (.const (.slice none 0 0)), none, []⟩, ⟨2, (some 5), .move (.const (.slice none 0 0)), none, []⟩])
 (.seq (.region false [⟨0, (some 11), .fieldAddr (.tmp 2) 0, none, []⟩, ⟨1, (some 12), .load1 (.tmp 11), none, []⟩, ⟨2, (some 13), .plain ⟨(some 13), .convert 5 3 (.tmp 12), 3, (String.ofList [Char.ofNat 111, Char.ofNat 117, Char.ofNat 116, Char.ofNat 114, Char.ofNat 105, Char.ofNat 103, Char.ofNat 104, Char.ofNat 116, Char.ofNat 46, Char.ofNat 103, Char.ofNat 111, Char.ofNat 58, Char.ofNat 50, Char.ofNat 49]), #[⟨1, .data⟩], none⟩, none, []⟩, ⟨3, (some 14), .move (.tmp 1), none, []⟩, ⟨4, (some 15), .ibin .rem .i64 (.tmp 13) (.tmp 14), none, []⟩, ⟨5, (some 16), .ibin .add .i64 (.const (.int .i64 1)) (.tmp 15), none, []⟩, ⟨6, (some 6), .move (.tmp 16), none, []⟩])
 (.seq (.region false [⟨0, (some 17), .bldS 3 1 [(.int .i64 0)] 1 [(0, (.const (.int .i64 (-1))))], none, []⟩, ⟨1, (some 18), .bldS 70 1 [(.int .u64 0)] 1 [(0, (.const (.int .u64 1)))], none, []⟩, ⟨2, (some 7), .move (.tmp 17), none, []⟩, ⟨3, (some 8), .move (.tmp 18), none, []⟩])
 (.seq (.seq (.region false [⟨0, (some 9), .move (.const (.int .i64 1)), none, []⟩])
 (.block 0 (.loop (.seq (.seq (.region false [⟨0, (some 19), .move (.tmp 9), none, []⟩, ⟨1, (some 20), .move (.tmp 6), none, []⟩, ⟨2, (some 21), .ibin .lss .i64 (.tmp 19) (.tmp 20), none, []⟩])
 (.cond (.tmp 21) .skip (.exit 0)))
 (.seq (.block 1 (.seq (.region false [⟨0, (some 24), .move (.tmp 9), none, []⟩, ⟨1, (some 25), .fieldAddr (.tmp 2) 1, none, []⟩, ⟨2, (some 26), .idxA (.tmp 25) (.tmp 24) 10 1, none, []⟩, ⟨3, (some 27), .load1 (.tmp 26), none, []⟩, ⟨4, (some 28), .plain ⟨(some 28), .convert 5 3 (.tmp 27), 3, (String.ofList [Char.ofNat 111, Char.ofNat 117, Char.ofNat 116, Char.ofNat 114, Char.ofNat 105, Char.ofNat 103, Char.ofNat 104, Char.ofNat 116, Char.ofNat 46, Char.ofNat 103, Char.ofNat 111, Char.ofNat 58, Char.ofNat 50, Char.ofNat 52]), #[⟨3, .data⟩], none⟩, none, []⟩, ⟨5, (some 29), .move (.tmp 9), none, []⟩, ⟨6, (some 30), .ibin .rem .i64 (.tmp 28) (.tmp 29), none, []⟩, ⟨7, (some 10), .move (.tmp 30), none, []⟩])
 (.seq (.region true [⟨0, (some 31), .move (.tmp 7), none, []⟩, ⟨1, (some 32), .move (.tmp 10), none, []⟩, ⟨4, (some 35), .move (.tmp 8), none, []⟩, ⟨5, (some 36), .move (.tmp 9), none, []⟩, ⟨6, (some 37), .plain ⟨(some 37), .binOp .shl 70 (.const (.int .u64 1)) (.tmp 36) 3, 70, (String.ofList [Char.ofNat 111, Char.ofNat 117, Char.ofNat 116, Char.ofNat 114, Char.ofNat 105, Char.ofNat 103, Char.ofNat 104, Char.ofNat 116, Char.ofNat 46, Char.ofNat 103, Char.ofNat 111, Char.ofNat 58, Char.ofNat 50, Char.ofNat 53]), #[⟨5, .data⟩], none⟩, none, []⟩, ⟨7, (some 38), .move (.tmp 10), none, []⟩, ⟨8, (some 39), .plain ⟨(some 39), .binOp .shl 70 (.const (.int .u64 1)) (.tmp 38) 3, 70, (String.ofList [Char.ofNat 111, Char.ofNat 117, Char.ofNat 116, Char.ofNat 114, Char.ofNat 105, Char.ofNat 103, Char.ofNat 104, Char.ofNat 116, Char.ofNat 46, Char.ofNat 103, Char.ofNat 111, Char.ofNat 58, Char.ofNat 50, Char.ofNat 53]), #[⟨7, .data⟩], none⟩, none, []⟩, ⟨9, (some 40), .ibin .or .u64 (.tmp 37) (.tmp 39), none, []⟩, ⟨2, (some 33), .bldS 3 1 [(.int .i64 0)] 1 [(0, (.tmp 32))], none, []⟩, ⟨3, (some 34), .append 3 1 (.tmp 31) (.tmp 33), none, []⟩, ⟨10, (some 41), .bldS 70 1 [(.int .u64 0)] 1 [(0, (.tmp 40))], none, []⟩, ⟨11, (some 42), .append 70 1 (.tmp 35) (.tmp 41), none, []⟩, ⟨12, (some 7), .move (.tmp 34), none, []⟩, ⟨13, (some 8), .move (.tmp 42), none, []⟩])
 (.region true [⟨0, (some 43), .move (.tmp 8), none, []⟩, ⟨1, (some 44), .move (.tmp 10), none, []⟩, ⟨2, (some 45), .idxS (.tmp 43) (.tmp 44) 1, none, []⟩, ⟨3, (some 46), .load1 (.tmp 45), none, []⟩, ⟨4, (some 47), .move (.tmp 9), none, []⟩, ⟨5, (some 48), .plain ⟨(some 48), .binOp .shl 70 (.const (.int .u64 1)) (.tmp 47) 3, 70, (String.ofList [Char.ofNat 111, Char.ofNat 117, Char.ofNat 116, Char.ofNat 114, Char.ofNat 105, Char.ofNat 103, Char.ofNat 104, Char.ofNat 116, Char.ofNat 46, Char.ofNat 103, Char.ofNat 111, Char.ofNat 58, Char.ofNat 50, Char.ofNat 54]), #[⟨4, .data⟩], none⟩, none, []⟩, ⟨6, (some 49), .ibin .or .u64 (.tmp 46) (.tmp 48), none, []⟩, ⟨7, (some 50), .idxS (.tmp 43) (.tmp 44) 1, none, []⟩, ⟨8, none, .store (.tmp 50) (.tmp 49) 1, none, []⟩]))))
 (.region false [⟨0, (some 22), .move (.tmp 9), none, []⟩, ⟨1, (some 23), .ibin .add .i64 (.tmp 22) (.const (.int .i64 1)), none, []⟩, ⟨2, (some 9), .move (.tmp 23), none, []⟩]))))))
 (.seq (.region false [⟨0, (some 51), .move (.tmp 7), none, []⟩, ⟨1, (some 52), .move (.tmp 8), none, []⟩, ⟨2, (some 4), .move (.tmp 51), none, []⟩, ⟨3, (some 5), .move (.tmp 52), none, []⟩])
 .ret))))), [.tmp 4, .tmp 5]⟩
/- slices.Clone[[]int,int] -/
def pf33 : PF := ⟨8, (.seq (.region false [⟨0, (some 2), .move (.const (.slice none 0 0)), none, []⟩])
 (.seq (.seq (.region false [⟨0, (some 3), .move (.tmp 0), none, []⟩, ⟨1, (some 4), .nilEq false .sl (.tmp 3), none, []⟩])
 (.cond (.tmp 4) (.seq (.region false [⟨0, (some 2), .move (.const (.slice none 0 0)), none, []⟩])
 .ret) .skip))
 (.seq (.region false [⟨0, (some 5), .bldS 3 1 [] 0 [], none, []⟩, ⟨1, (some 6), .move (.tmp 0), none, []⟩, ⟨2, (some 7), .append 3 1 (.tmp 5) (.tmp 6), none, []⟩, ⟨3, (some 2), .move (.tmp 7), none, []⟩])
 .ret))), [.tmp 2]⟩
/- bellarmine/bellarminelaw12.PostMore$1 -/
def pf34 : PF := ⟨30, (.seq (.region false [⟨0, (some 4), .move (.const (.int .i64 0)), none, []⟩])
 (.seq (.region false [⟨0, (some 5), .move (.const (.int .i64 0)), none, []⟩])
 (.seq (.seq (.region false [⟨0, (some 8), .move (.tmp 1), none, []⟩, ⟨1, (some 9), .len (.tmp 8), none, []⟩, ⟨2, (some 10), .move (.const (.int .i64 0)), none, []⟩])
 (.block 0 (.loop (.seq (.region false [⟨0, (some 11), .ibin .lss .i64 (.tmp 10) (.tmp 9), none, []⟩])
 (.seq (.cond (.tmp 11) .skip (.exit 0))
 (.seq (.block 1 (.seq (.region false [⟨0, (some 12), .idxS (.tmp 8) (.tmp 10) 1, none, []⟩, ⟨1, (some 13), .load1 (.tmp 12), none, []⟩, ⟨2, (some 7), .move (.tmp 13), none, []⟩])
 (.seq (.seq (.region false [⟨0, (some 14), .move (.tmp 7), none, []⟩, ⟨1, (some 15), .ibin .lss .i64 (.tmp 14) (.const (.int .i64 0)), none, []⟩, ⟨2, (some 16), .move (.tmp 15), none, []⟩, ⟨3, (some 17), .move (.tmp 7), (some (16, false)), []⟩, ⟨4, (some 18), .move (.tmp 0), (some (16, false)), []⟩, ⟨5, (some 19), .len (.tmp 18), (some (16, false)), []⟩, ⟨6, (some 20), .ibin .geq .i64 (.tmp 17) (.tmp 19), (some (16, false)), []⟩, ⟨7, (some 21), .pick (.tmp 16) (.const (.bool true)) (.tmp 20), none, []⟩])
 (.cond (.tmp 21) (.seq (.region false [⟨0, (some 4), .move (.const (.int .i64 (-1))), none, []⟩])
 .ret) .skip))
 (.region false [⟨0, (some 22), .move (.tmp 5), none, []⟩, ⟨1, (some 23), .move (.tmp 0), none, []⟩, ⟨2, (some 24), .move (.tmp 7), none, []⟩, ⟨3, (some 25), .idxS (.tmp 23) (.tmp 24) 1, none, []⟩, ⟨4, (some 26), .load1 (.tmp 25), none, []⟩, ⟨5, (some 27), .ibin .add .i64 (.tmp 22) (.tmp 26), none, []⟩, ⟨6, (some 5), .move (.tmp 27), none, []⟩]))))
 (.region false [⟨0, (some 28), .ibin .add .i64 (.tmp 10) (.const (.int .i64 1)), none, []⟩, ⟨1, (some 10), .move (.tmp 28), none, []⟩])))))))
 (.seq (.region false [⟨0, (some 29), .move (.tmp 5), none, []⟩, ⟨1, (some 4), .move (.tmp 29), none, []⟩])
 .ret)))), [.tmp 4]⟩
/- bellarmine/post.isPlace -/
def pf39 : PF := ⟨13, (.seq (.region false [⟨0, (some 4), .move (.const (.bool false)), none, []⟩])
 (.seq (.region false [⟨0, (some 5), .move (.tmp 1), none, []⟩, ⟨1, (some 6), .ibin .geq .i64 (.tmp 5) (.const (.int .i64 0)), none, []⟩, ⟨2, (some 7), .move (.tmp 6), none, []⟩, ⟨3, (some 8), .move (.tmp 1), (some (7, true)), []⟩, ⟨4, (some 9), .move (.tmp 0), (some (7, true)), []⟩, ⟨5, (some 10), .len (.tmp 9), (some (7, true)), []⟩, ⟨6, (some 11), .ibin .lss .i64 (.tmp 8) (.tmp 10), (some (7, true)), []⟩, ⟨7, (some 12), .pick (.tmp 7) (.tmp 11) (.const (.bool false)), none, []⟩, ⟨8, (some 4), .move (.tmp 12), none, []⟩])
 .ret)), [.tmp 4]⟩
/- bellarmine/post.handsOf -/
def pf40 : PF := ⟨46, (.seq (.region false [⟨0, (some 2), .move (.const (.slice none 0 0)), none, []⟩])
 (.seq (.region false [⟨0, (some 6), .move (.tmp 0), none, []⟩, ⟨1, (some 7), .len (.tmp 6), none, []⟩, ⟨2, (some 8), .mkS 49 [(.int .u16 0)] (.tmp 7) (.tmp 7), none, []⟩, ⟨3, (some 3), .move (.tmp 8), none, []⟩])
 (.seq (.seq (.region false [⟨0, (some 9), .move (.tmp 0), none, []⟩, ⟨1, (some 10), .len (.tmp 9), none, []⟩, ⟨2, (some 11), .move (.const (.int .i64 0)), none, []⟩])
 (.block 0 (.loop (.seq (.region false [⟨0, (some 12), .ibin .lss .i64 (.tmp 11) (.tmp 10), none, []⟩])
 (.seq (.cond (.tmp 12) .skip (.exit 0))
 (.seq (.block 1 (.seq (.region false [⟨0, (some 13), .move (.tmp 11), none, []⟩, ⟨1, (some 4), .move (.tmp 13), none, []⟩])
 (.seq (.region true [⟨0, (some 14), .move (.tmp 3), none, []⟩, ⟨1, (some 15), .move (.tmp 4), none, []⟩, ⟨2, (some 16), .idxS (.tmp 14) (.tmp 15) 1, none, []⟩, ⟨3, (some 17), .load1 (.tmp 16), none, []⟩, ⟨4, (some 18), .move (.tmp 4), none, []⟩, ⟨5, (some 19), .callF 62 [(.tmp 18)], none, [3]⟩, ⟨6, (some 20), .ibin .or .u16 (.tmp 17) (.tmp 19), none, []⟩, ⟨7, (some 21), .idxS (.tmp 14) (.tmp 15) 1, none, []⟩, ⟨8, none, .store (.tmp 21) (.tmp 20) 1, none, []⟩])
 (.seq (.region false [⟨0, (some 22), .move (.tmp 4), none, []⟩, ⟨1, (some 23), .ibin .gtr .i64 (.tmp 22) (.const (.int .i64 0)), none, []⟩])
 (.cond (.tmp 23) (.seq (.region false [⟨0, (some 24), .move (.tmp 0), none, []⟩, ⟨1, (some 25), .move (.tmp 4), none, []⟩, ⟨2, (some 26), .idxS (.tmp 24) (.tmp 25) 1, none, []⟩, ⟨3, (some 27), .load1 (.tmp 26), none, []⟩, ⟨4, (some 5), .move (.tmp 27), none, []⟩])
 (.seq (.region true [⟨0, (some 28), .move (.tmp 3), none, []⟩, ⟨1, (some 29), .move (.tmp 4), none, []⟩, ⟨2, (some 30), .idxS (.tmp 28) (.tmp 29) 1, none, []⟩, ⟨3, (some 31), .load1 (.tmp 30), none, []⟩, ⟨4, (some 32), .move (.tmp 5), none, []⟩, ⟨5, (some 33), .callF 62 [(.tmp 32)], none, [3]⟩, ⟨6, (some 34), .ibin .or .u16 (.tmp 31) (.tmp 33), none, []⟩, ⟨7, (some 35), .idxS (.tmp 28) (.tmp 29) 1, none, []⟩, ⟨8, none, .store (.tmp 35) (.tmp 34) 1, none, []⟩])
 (.region true [⟨0, (some 36), .move (.tmp 3), none, []⟩, ⟨1, (some 37), .move (.tmp 5), none, []⟩, ⟨2, (some 38), .idxS (.tmp 36) (.tmp 37) 1, none, []⟩, ⟨3, (some 39), .load1 (.tmp 38), none, []⟩, ⟨4, (some 40), .move (.tmp 4), none, []⟩, ⟨5, (some 41), .callF 62 [(.tmp 40)], none, [3]⟩, ⟨6, (some 42), .ibin .or .u16 (.tmp 39) (.tmp 41), none, []⟩, ⟨7, (some 43), .idxS (.tmp 36) (.tmp 37) 1, none, []⟩, ⟨8, none, .store (.tmp 43) (.tmp 42) 1, none, []⟩]))) .skip)))))
 (.region false [⟨0, (some 44), .ibin .add .i64 (.tmp 11) (.const (.int .i64 1)), none, []⟩, ⟨1, (some 11), .move (.tmp 44), none, []⟩])))))))
 (.seq (.region false [⟨0, (some 45), .move (.tmp 3), none, []⟩, ⟨1, (some 2), .move (.tmp 45), none, []⟩])
 .ret)))), [.tmp 2]⟩
/- (bellarmine/post.set).places -/
def pf41 : PF := ⟨19, (.seq (.region false [⟨0, (some 2), .move (.const (.slice none 0 0)), none, []⟩])
 (.seq (.region false [⟨0, (some 3), .move (.const (.slice none 0 0)), none, []⟩])
 (.seq (.seq (.region false [⟨0, (some 5), .move (.const (.int .i64 0)), none, []⟩])
 (.block 0 (.loop (.seq (.region false [⟨0, (some 6), .ibin .lss .i64 (.tmp 5) (.const (.int .i64 10)), none, []⟩])
 (.seq (.cond (.tmp 6) .skip (.exit 0))
 (.seq (.block 1 (.seq (.region false [⟨0, (some 7), .move (.tmp 5), none, []⟩, ⟨1, (some 4), .move (.tmp 7), none, []⟩])
 (.seq (.region false [⟨0, (some 8), .move (.tmp 0), none, []⟩, ⟨1, (some 9), .move (.tmp 4), none, []⟩, ⟨2, (some 10), .callF 62 [(.tmp 9)], none, []⟩, ⟨3, (some 11), .ibin .and .u16 (.tmp 8) (.tmp 10), none, []⟩, ⟨4, (some 12), .ibin .neq .u16 (.tmp 11) (.const (.int .u16 0)), none, []⟩])
 (.cond (.tmp 12) (.region false [⟨0, (some 13), .move (.tmp 3), none, []⟩, ⟨1, (some 14), .move (.tmp 4), none, []⟩, ⟨2, (some 15), .bldS 3 1 [(.int .i64 0)] 1 [(0, (.tmp 14))], none, []⟩, ⟨3, (some 16), .append 3 1 (.tmp 13) (.tmp 15), none, []⟩, ⟨4, (some 3), .move (.tmp 16), none, []⟩]) .skip))))
 (.region false [⟨0, (some 17), .ibin .add .i64 (.tmp 5) (.const (.int .i64 1)), none, []⟩, ⟨1, (some 5), .move (.tmp 17), none, []⟩])))))))
 (.seq (.region false [⟨0, (some 18), .move (.tmp 3), none, []⟩, ⟨1, (some 2), .move (.tmp 18), none, []⟩])
 .ret)))), [.tmp 2]⟩
/- bellarmine/post.isBehind -/
def pf44 : PF := ⟨16, (.seq (.region false [⟨0, (some 4), .move (.const (.bool false)), none, []⟩])
 (.seq (.seq (.region false [⟨0, (some 5), .move (.tmp 1), none, []⟩, ⟨1, (some 6), .ibin .eql .i64 (.tmp 5) (.const (.int .i64 0)), none, []⟩])
 (.cond (.tmp 6) (.seq (.region false [⟨0, (some 7), .move (.tmp 0), none, []⟩, ⟨1, (some 8), .ibin .eql .i64 (.tmp 7) (.const (.int .i64 (-1))), none, []⟩, ⟨2, (some 4), .move (.tmp 8), none, []⟩])
 .ret) .skip))
 (.seq (.region false [⟨0, (some 9), .move (.tmp 0), none, []⟩, ⟨1, (some 10), .ibin .geq .i64 (.tmp 9) (.const (.int .i64 0)), none, []⟩, ⟨2, (some 11), .move (.tmp 10), none, []⟩, ⟨3, (some 12), .move (.tmp 0), (some (11, true)), []⟩, ⟨4, (some 13), .move (.tmp 1), (some (11, true)), []⟩, ⟨5, (some 14), .ibin .lss .i64 (.tmp 12) (.tmp 13), (some (11, true)), []⟩, ⟨6, (some 15), .pick (.tmp 11) (.tmp 14) (.const (.bool false)), none, []⟩, ⟨7, (some 4), .move (.tmp 15), none, []⟩])
 .ret))), [.tmp 4]⟩
/- bellarmine/post.checkPlaces -/
def pf45 : PF := ⟨36, (.seq (.region false [⟨0, (some 4), .move (.const (.int .i64 0)), none, []⟩])
 (.seq (.seq (.region false [⟨0, (some 8), .move (.tmp 0), none, []⟩, ⟨1, (some 9), .callF 12 [(.tmp 8)], none, []⟩, ⟨2, (some 5), .move (.tmp 9), none, []⟩])
 (.seq (.region false [⟨0, (some 10), .move (.tmp 5), none, []⟩, ⟨1, (some 11), .ibin .neq .i64 (.tmp 10) (.const (.int .i64 0)), none, []⟩])
 (.cond (.tmp 11) (.seq (.region false [⟨0, (some 12), .move (.tmp 5), none, []⟩, ⟨1, (some 4), .move (.tmp 12), none, []⟩])
 .ret) .skip)))
 (.seq (.seq (.region false [⟨0, (some 13), .move (.tmp 1), none, []⟩, ⟨1, (some 14), .len (.tmp 13), none, []⟩, ⟨2, (some 15), .move (.const (.int .i64 0)), none, []⟩])
 (.block 0 (.loop (.seq (.region false [⟨0, (some 16), .ibin .lss .i64 (.tmp 15) (.tmp 14), none, []⟩])
 (.seq (.cond (.tmp 16) .skip (.exit 0))
 (.seq (.block 1 (.seq (.region false [⟨0, (some 17), .move (.tmp 15), none, []⟩, ⟨1, (some 18), .idxS (.tmp 13) (.tmp 15) 1, none, []⟩, ⟨2, (some 19), .load1 (.tmp 18), none, []⟩, ⟨3, (some 6), .move (.tmp 17), none, []⟩, ⟨4, (some 7), .move (.tmp 19), none, []⟩])
 (.seq (.seq (.region false [⟨0, (some 20), .move (.tmp 0), none, []⟩, ⟨1, (some 21), .move (.tmp 7), none, []⟩, ⟨2, (some 22), .callF 39 [(.tmp 20), (.tmp 21)], none, []⟩, ⟨3, (some 23), .not (.tmp 22), none, []⟩])
 (.cond (.tmp 23) (.seq (.region false [⟨0, (some 4), .move (.const (.int .i64 2)), none, []⟩])
 .ret) .skip))
 (.seq (.region false [⟨0, (some 24), .move (.tmp 6), none, []⟩, ⟨1, (some 25), .ibin .gtr .i64 (.tmp 24) (.const (.int .i64 0)), none, []⟩, ⟨2, (some 26), .move (.tmp 25), none, []⟩, ⟨3, (some 27), .move (.tmp 7), (some (26, true)), []⟩, ⟨4, (some 28), .move (.tmp 1), (some (26, true)), []⟩, ⟨5, (some 29), .move (.tmp 6), (some (26, true)), []⟩, ⟨6, (some 30), .ibin .sub .i64 (.tmp 29) (.const (.int .i64 1)), (some (26, true)), []⟩, ⟨7, (some 31), .idxS (.tmp 28) (.tmp 30) 1, (some (26, true)), []⟩, ⟨8, (some 32), .load1 (.tmp 31), (some (26, true)), []⟩, ⟨9, (some 33), .ibin .leq .i64 (.tmp 27) (.tmp 32), (some (26, true)), []⟩, ⟨10, (some 34), .pick (.tmp 26) (.tmp 33) (.const (.bool false)), none, []⟩])
 (.cond (.tmp 34) (.seq (.region false [⟨0, (some 4), .move (.const (.int .i64 7)), none, []⟩])
 .ret) .skip)))))
 (.region false [⟨0, (some 35), .ibin .add .i64 (.tmp 15) (.const (.int .i64 1)), none, []⟩, ⟨1, (some 15), .move (.tmp 35), none, []⟩])))))))
 (.seq (.region false [⟨0, (some 4), .move (.const (.int .i64 0)), none, []⟩])
 .ret)))), [.tmp 4]⟩
/- (bellarmine/post.hands).guarded -/
def pf46 : PF := ⟨26, (.seq (.region false [⟨0, (some 4), .move (.const (.bool false)), none, []⟩])
 (.seq (.region false [⟨0, (some 5), .move (.const (.int .u16 0)), none, []⟩])
 (.seq (.seq (.region false [⟨0, (some 8), .move (.tmp 1), none, []⟩, ⟨1, (some 9), .len (.tmp 8), none, []⟩, ⟨2, (some 10), .move (.const (.int .i64 0)), none, []⟩])
 (.block 0 (.loop (.seq (.region false [⟨0, (some 11), .ibin .lss .i64 (.tmp 10) (.tmp 9), none, []⟩])
 (.seq (.cond (.tmp 11) .skip (.exit 0))
 (.seq (.block 1 (.seq (.region false [⟨0, (some 12), .idxS (.tmp 8) (.tmp 10) 1, none, []⟩, ⟨1, (some 13), .load1 (.tmp 12), none, []⟩, ⟨2, (some 7), .move (.tmp 13), none, []⟩])
 (.region false [⟨0, (some 14), .move (.tmp 5), none, []⟩, ⟨1, (some 15), .move (.tmp 0), none, []⟩, ⟨2, (some 16), .move (.tmp 7), none, []⟩, ⟨3, (some 17), .idxS (.tmp 15) (.tmp 16) 1, none, []⟩, ⟨4, (some 18), .load1 (.tmp 17), none, []⟩, ⟨5, (some 19), .ibin .or .u16 (.tmp 14) (.tmp 18), none, []⟩, ⟨6, (some 5), .move (.tmp 19), none, []⟩])))
 (.region false [⟨0, (some 20), .ibin .add .i64 (.tmp 10) (.const (.int .i64 1)), none, []⟩, ⟨1, (some 10), .move (.tmp 20), none, []⟩])))))))
 (.seq (.region false [⟨0, (some 21), .move (.tmp 5), none, []⟩, ⟨1, (some 22), .move (.tmp 0), none, []⟩, ⟨2, (some 23), .len (.tmp 22), none, []⟩, ⟨3, (some 24), .callF 63 [(.tmp 23)], none, []⟩, ⟨4, (some 25), .ibin .eql .u16 (.tmp 21) (.tmp 24), none, []⟩, ⟨5, (some 4), .move (.tmp 25), none, []⟩])
 .ret)))), [.tmp 4]⟩
/- (bellarmine/post.hands).apart -/
def pf49 : PF := ⟨28, (.seq (.region false [⟨0, (some 4), .move (.const (.bool false)), none, []⟩])
 (.seq (.region false [⟨0, (some 5), .move (.const (.int .u16 0)), none, []⟩])
 (.seq (.seq (.region false [⟨0, (some 8), .move (.tmp 1), none, []⟩, ⟨1, (some 9), .len (.tmp 8), none, []⟩, ⟨2, (some 10), .move (.const (.int .i64 0)), none, []⟩])
 (.block 0 (.loop (.seq (.region false [⟨0, (some 11), .ibin .lss .i64 (.tmp 10) (.tmp 9), none, []⟩])
 (.seq (.cond (.tmp 11) .skip (.exit 0))
 (.seq (.block 1 (.seq (.region false [⟨0, (some 12), .idxS (.tmp 8) (.tmp 10) 1, none, []⟩, ⟨1, (some 13), .load1 (.tmp 12), none, []⟩, ⟨2, (some 7), .move (.tmp 13), none, []⟩])
 (.seq (.seq (.region false [⟨0, (some 14), .move (.tmp 5), none, []⟩, ⟨1, (some 15), .move (.tmp 0), none, []⟩, ⟨2, (some 16), .move (.tmp 7), none, []⟩, ⟨3, (some 17), .idxS (.tmp 15) (.tmp 16) 1, none, []⟩, ⟨4, (some 18), .load1 (.tmp 17), none, []⟩, ⟨5, (some 19), .ibin .and .u16 (.tmp 14) (.tmp 18), none, []⟩, ⟨6, (some 20), .ibin .neq .u16 (.tmp 19) (.const (.int .u16 0)), none, []⟩])
 (.cond (.tmp 20) (.seq (.region false [⟨0, (some 4), .move (.const (.bool false)), none, []⟩])
 .ret) .skip))
 (.region false [⟨0, (some 21), .move (.tmp 5), none, []⟩, ⟨1, (some 22), .move (.tmp 0), none, []⟩, ⟨2, (some 23), .move (.tmp 7), none, []⟩, ⟨3, (some 24), .idxS (.tmp 22) (.tmp 23) 1, none, []⟩, ⟨4, (some 25), .load1 (.tmp 24), none, []⟩, ⟨5, (some 26), .ibin .or .u16 (.tmp 21) (.tmp 25), none, []⟩, ⟨6, (some 5), .move (.tmp 26), none, []⟩]))))
 (.region false [⟨0, (some 27), .ibin .add .i64 (.tmp 10) (.const (.int .i64 1)), none, []⟩, ⟨1, (some 10), .move (.tmp 27), none, []⟩])))))))
 (.seq (.region false [⟨0, (some 4), .move (.const (.bool true)), none, []⟩])
 .ret)))), [.tmp 4]⟩
/- bellarmine/post.byNumber -/
def pf51 : PF := ⟨9, (.seq (.region false [⟨0, (some 2), .new 59 [(.int .i64 0), .nilFunc, .nilFunc], none, []⟩])
 (.seq (.region false [⟨0, (some 3), .move (.tmp 0), none, []⟩, ⟨1, (some 4), .len (.tmp 3), none, []⟩, ⟨2, (some 5), .move (.tmp 0), none, []⟩, ⟨3, (some 6), .callF 40 [(.tmp 5)], none, []⟩, ⟨4, (some 7), .mkF (.func 46) #[(.tmp 6)] #[], none, []⟩, ⟨5, (some 8), .bldT [(.int .i64 0), .nilFunc, .nilFunc] [(0, 1), (1, 1), (2, 1)] [(0, (.tmp 4)), (1, (.tmp 7)), (2, (.func 65))], none, []⟩, ⟨6, none, .store (.tmp 2) (.tmp 8) 3, none, []⟩])
 .ret)), [.cell 2 (some 3)]⟩
/- (bellarmine/post.rating).best -/
def pf52 : PF := ⟨31, (.seq (.region false [⟨0, (some 1), .box 59 (.tmp 0), none, []⟩, ⟨1, (some 2), .move (.const (.slice none 0 0)), none, []⟩])
 (.seq (.region false [⟨0, (some 3), .new 56 [(.slice none 0 0)], none, []⟩])
 (.seq (.region false [⟨0, (some 4), .new 3 [(.int .i64 0)], none, []⟩, ⟨1, none, .store (.tmp 4) (.const (.int .i64 0)) 1, none, []⟩])
 (.seq (.seq (.region false [⟨0, (some 7), .loadN (.tmp 1) 3, none, []⟩, ⟨1, (some 8), .callF 59 [(.tmp 7)], none, []⟩])
 (.block 0 (.rangeFunc (.tmp 8) [9] (.region false [⟨0, (some 5), .move (.tmp 9), none, []⟩]) (.block 1 (.seq (.region false [⟨0, (some 10), .loadN (.tmp 1) 3, none, []⟩, ⟨1, (some 11), .move (.tmp 5), none, []⟩, ⟨2, (some 12), .callF 66 [(.tmp 10), (.tmp 11)], none, []⟩, ⟨3, (some 6), .move (.tmp 12), none, []⟩])
 (.seq (.seq (.region false [⟨0, (some 13), .load1 (.tmp 3), none, []⟩, ⟨1, (some 14), .len (.tmp 13), none, []⟩, ⟨2, (some 15), .ibin .eql .i64 (.tmp 14) (.const (.int .i64 0)), none, []⟩, ⟨3, (some 16), .move (.tmp 15), none, []⟩, ⟨4, (some 17), .move (.tmp 6), (some (16, false)), []⟩, ⟨5, (some 18), .load1 (.tmp 4), (some (16, false)), []⟩, ⟨6, (some 19), .ibin .lss .i64 (.tmp 17) (.tmp 18), (some (16, false)), []⟩, ⟨7, (some 20), .pick (.tmp 16) (.const (.bool true)) (.tmp 19), none, []⟩])
 (.cond (.tmp 20) (.region false [⟨0, (some 21), .move (.tmp 6), none, []⟩, ⟨1, none, .store (.tmp 3) (.const (.slice none 0 0)) 1, none, []⟩, ⟨2, none, .store (.tmp 4) (.tmp 21) 1, none, []⟩]) .skip))
 (.seq (.region false [⟨0, (some 22), .move (.tmp 6), none, []⟩, ⟨1, (some 23), .load1 (.tmp 4), none, []⟩, ⟨2, (some 24), .ibin .eql .i64 (.tmp 22) (.tmp 23), none, []⟩])
 (.cond (.tmp 24) (.region true [⟨0, (some 25), .load1 (.tmp 3), none, []⟩, ⟨1, (some 26), .move (.tmp 5), none, []⟩, ⟨2, (some 27), .callF 33 [(.tmp 26)], none, [0]⟩, ⟨3, (some 28), .bldS 22 1 [(.slice none 0 0)] 1 [(0, (.tmp 27))], none, [0]⟩, ⟨4, (some 29), .append 22 1 (.tmp 25) (.tmp 28), none, []⟩, ⟨5, none, .store (.tmp 3) (.tmp 29) 1, none, []⟩]) .skip))))))))
 (.seq (.region false [⟨0, (some 30), .load1 (.tmp 3), none, []⟩, ⟨1, (some 2), .move (.tmp 30), none, []⟩])
 .ret))))), [.tmp 2]⟩
/- bellarmine/post.byDistance -/
def pf55 : PF := ⟨9, (.seq (.region false [⟨0, (some 2), .new 59 [(.int .i64 0), .nilFunc, .nilFunc], none, []⟩])
 (.seq (.region false [⟨0, (some 3), .move (.tmp 0), none, []⟩, ⟨1, (some 4), .len (.tmp 3), none, []⟩, ⟨2, (some 5), .move (.tmp 0), none, []⟩, ⟨3, (some 6), .callF 40 [(.tmp 5)], none, []⟩, ⟨4, (some 7), .mkF (.func 49) #[(.tmp 6)] #[], none, []⟩, ⟨5, (some 8), .bldT [(.int .i64 0), .nilFunc, .nilFunc] [(0, 1), (1, 1), (2, 1)] [(0, (.tmp 4)), (1, (.tmp 7)), (2, (.func 67))], none, []⟩, ⟨6, none, .store (.tmp 2) (.tmp 8) 3, none, []⟩])
 .ret)), [.cell 2 (some 3)]⟩
/- bellarmine/post.byPrice -/
def pf57 : PF := ⟨12, (.seq (.region false [⟨0, (some 3), .box 22 (.tmp 1), none, []⟩, ⟨1, (some 4), .new 59 [(.int .i64 0), .nilFunc, .nilFunc], none, []⟩])
 (.seq (.region false [⟨0, (some 5), .move (.tmp 0), none, []⟩, ⟨1, (some 6), .len (.tmp 5), none, []⟩, ⟨2, (some 7), .move (.tmp 0), none, []⟩, ⟨3, (some 8), .callF 40 [(.tmp 7)], none, []⟩, ⟨4, (some 9), .mkF (.func 46) #[(.tmp 8)] #[], none, []⟩, ⟨5, (some 10), .mkF (.func 68) #[] #[(.tmp 3)], none, []⟩, ⟨6, (some 11), .bldT [(.int .i64 0), .nilFunc, .nilFunc] [(0, 1), (1, 1), (2, 1)] [(0, (.tmp 6)), (1, (.tmp 9)), (2, (.tmp 10))], none, []⟩, ⟨7, none, .store (.tmp 4) (.tmp 11) 3, none, []⟩])
 .ret)), [.cell 4 (some 3)]⟩
/- (bellarmine/post.rating).rated -/
def pf59 : PF := ⟨4, (.seq (.region false [⟨0, (some 1), .box 59 (.tmp 0), none, []⟩, ⟨1, (some 2), .move (.const .nilFunc), none, []⟩])
 (.seq (.region false [⟨0, (some 3), .mkF (.func 69) #[] #[(.tmp 1)], none, []⟩, ⟨1, (some 2), .move (.tmp 3), none, []⟩])
 .ret)), [.tmp 2]⟩
/- bellarmine/post.placesIn -/
def pf60 : PF := ⟨24, (.seq (.region false [⟨0, (some 6), .move (.const (.slice none 0 0)), none, []⟩])
 (.seq (.region false [⟨0, (some 7), .move (.const (.slice none 0 0)), none, []⟩])
 (.seq (.seq (.region false [⟨0, (some 9), .move (.tmp 2), none, []⟩, ⟨1, (some 10), .move (.const (.int .i64 0)), none, []⟩])
 (.block 0 (.loop (.seq (.region false [⟨0, (some 11), .ibin .lss .i64 (.tmp 10) (.tmp 9), none, []⟩])
 (.seq (.cond (.tmp 11) .skip (.exit 0))
 (.seq (.block 1 (.seq (.region false [⟨0, (some 12), .move (.tmp 10), none, []⟩, ⟨1, (some 8), .move (.tmp 12), none, []⟩])
 (.seq (.region false [⟨0, (some 13), .move (.tmp 0), none, []⟩, ⟨1, (some 14), .move (.tmp 8), none, []⟩, ⟨2, (some 15), .callF 71 [(.tmp 13), (.tmp 14)], none, []⟩, ⟨3, (some 16), .move (.tmp 1), none, []⟩, ⟨4, (some 17), .ibin .eql .i64 (.tmp 15) (.tmp 16), none, []⟩])
 (.cond (.tmp 17) (.region false [⟨0, (some 18), .move (.tmp 7), none, []⟩, ⟨1, (some 19), .move (.tmp 8), none, []⟩, ⟨2, (some 20), .bldS 3 1 [(.int .i64 0)] 1 [(0, (.tmp 19))], none, []⟩, ⟨3, (some 21), .append 3 1 (.tmp 18) (.tmp 20), none, []⟩, ⟨4, (some 7), .move (.tmp 21), none, []⟩]) .skip))))
 (.region false [⟨0, (some 22), .ibin .add .i64 (.tmp 10) (.const (.int .i64 1)), none, []⟩, ⟨1, (some 10), .move (.tmp 22), none, []⟩])))))))
 (.seq (.region false [⟨0, (some 23), .move (.tmp 7), none, []⟩, ⟨1, (some 6), .move (.tmp 23), none, []⟩])
 .ret)))), [.tmp 6]⟩
/- bellarmine/post.only -/
def pf62 : PF := ⟨5, (.seq (.region false [⟨0, (some 2), .move (.const (.int .u16 0)), none, []⟩])
 (.seq (.region false [⟨0, (some 3), .move (.tmp 0), none, []⟩, ⟨1, (some 4), .plain ⟨(some 4), .binOp .shl 49 (.const (.int .u16 1)) (.tmp 3) 3, 49, (String.ofList [Char.ofNat 104, Char.ofNat 97, Char.ofNat 110, Char.ofNat 100, Char.ofNat 115, Char.ofNat 46, Char.ofNat 103, Char.ofNat 111, Char.ofNat 58, Char.ofNat 55]), #[⟨0, .data⟩], none⟩, none, []⟩, ⟨2, (some 2), .move (.tmp 4), none, []⟩])
 .ret)), [.tmp 2]⟩
/- bellarmine/post.firsts -/
def pf63 : PF := ⟨6, (.seq (.region false [⟨0, (some 2), .move (.const (.int .u16 0)), none, []⟩])
 (.seq (.region false [⟨0, (some 3), .move (.tmp 0), none, []⟩, ⟨1, (some 4), .callF 62 [(.tmp 3)], none, []⟩, ⟨2, (some 5), .ibin .sub .u16 (.tmp 4) (.const (.int .u16 1)), none, []⟩, ⟨3, (some 2), .move (.tmp 5), none, []⟩])
 .ret)), [.tmp 2]⟩
/- bellarmine/post.byNumber$1 -/
def pf65 : PF := ⟨3, (.seq (.region false [⟨0, (some 2), .move (.const (.int .i64 0)), none, []⟩])
 (.seq (.region false [⟨0, (some 2), .move (.const (.int .i64 1)), none, []⟩])
 .ret)), [.tmp 2]⟩
/- (bellarmine/post.rating).sum -/
def pf66 : PF := ⟨22, (.seq (.region false [⟨0, (some 2), .box 59 (.tmp 0), none, []⟩, ⟨1, (some 4), .move (.const (.int .i64 0)), none, []⟩])
 (.seq (.region false [⟨0, (some 5), .move (.const (.int .i64 0)), none, []⟩])
 (.seq (.seq (.region false [⟨0, (some 8), .move (.tmp 1), none, []⟩, ⟨1, (some 9), .len (.tmp 8), none, []⟩, ⟨2, (some 10), .move (.const (.int .i64 0)), none, []⟩])
 (.block 0 (.loop (.seq (.region false [⟨0, (some 11), .ibin .lss .i64 (.tmp 10) (.tmp 9), none, []⟩])
 (.seq (.cond (.tmp 11) .skip (.exit 0))
 (.seq (.block 1 (.seq (.region false [⟨0, (some 12), .idxS (.tmp 8) (.tmp 10) 1, none, []⟩, ⟨1, (some 13), .load1 (.tmp 12), none, []⟩, ⟨2, (some 7), .move (.tmp 13), none, []⟩])
 (.region false [⟨0, (some 14), .move (.tmp 5), none, []⟩, ⟨1, (some 15), .fieldAddr (.tmp 2) 2, none, []⟩, ⟨2, (some 16), .load1 (.tmp 15), none, []⟩, ⟨3, (some 17), .move (.tmp 7), none, []⟩, ⟨4, (some 18), .callV (.tmp 16) [(.tmp 17)], none, []⟩, ⟨5, (some 19), .ibin .add .i64 (.tmp 14) (.tmp 18), none, []⟩, ⟨6, (some 5), .move (.tmp 19), none, []⟩])))
 (.region false [⟨0, (some 20), .ibin .add .i64 (.tmp 10) (.const (.int .i64 1)), none, []⟩, ⟨1, (some 10), .move (.tmp 20), none, []⟩])))))))
 (.seq (.region false [⟨0, (some 21), .move (.tmp 5), none, []⟩, ⟨1, (some 4), .move (.tmp 21), none, []⟩])
 .ret)))), [.tmp 4]⟩
/- bellarmine/post.byDistance$1 -/
def pf67 : PF := ⟨3, (.seq (.region false [⟨0, (some 2), .move (.const (.int .i64 0)), none, []⟩])
 (.seq (.region false [⟨0, (some 2), .move (.const (.int .i64 (-1))), none, []⟩])
 .ret)), [.tmp 2]⟩
/- bellarmine/post.byPrice$1 -/
def pf68 : PF := ⟨8, (.seq (.region false [⟨0, (some 3), .move (.const (.int .i64 0)), none, []⟩])
 (.seq (.region false [⟨0, (some 4), .load1 (.tmp 1), none, []⟩, ⟨1, (some 5), .move (.tmp 0), none, []⟩, ⟨2, (some 6), .idxS (.tmp 4) (.tmp 5) 1, none, []⟩, ⟨3, (some 7), .load1 (.tmp 6), none, []⟩, ⟨4, (some 3), .move (.tmp 7), none, []⟩])
 .ret)), [.tmp 3]⟩
/- (bellarmine/post.rating).rated$1 -/
def pf69 : PF := ⟨18, (.seq (.region false [⟨0, (some 2), .box 35 (.tmp 0), none, []⟩])
 (.seq (.region false [⟨0, (some 4), .fieldAddr (.tmp 1) 0, none, []⟩, ⟨1, (some 5), .load1 (.tmp 4), none, []⟩, ⟨2, (some 6), .callF 70 [(.tmp 5)], none, []⟩])
 (.block 0 (.rangeFunc (.tmp 6) [7] (.region false [⟨0, (some 3), .move (.tmp 7), none, []⟩]) (.block 1 (.seq (.region false [⟨0, (some 8), .fieldAddr (.tmp 1) 1, none, []⟩, ⟨1, (some 9), .load1 (.tmp 8), none, []⟩, ⟨2, (some 10), .move (.tmp 3), none, []⟩, ⟨3, (some 11), .callV (.tmp 9) [(.tmp 10)], none, []⟩, ⟨4, (some 12), .move (.tmp 11), none, []⟩, ⟨5, (some 13), .load1 (.tmp 2), (some (12, true)), []⟩, ⟨6, (some 14), .move (.tmp 3), (some (12, true)), []⟩, ⟨7, (some 15), .callV (.tmp 13) [(.tmp 14)], (some (12, true)), []⟩, ⟨8, (some 16), .not (.tmp 15), (some (12, true)), []⟩, ⟨9, (some 17), .pick (.tmp 12) (.tmp 16) (.const (.bool false)), none, []⟩])
 (.cond (.tmp 17) .ret .skip))))))), []⟩
/- bellarmine/post.allLists -/
def pf70 : PF := ⟨4, (.seq (.region false [⟨0, (some 1), .box 3 (.tmp 0), none, []⟩, ⟨1, (some 2), .move (.const .nilFunc), none, []⟩])
 (.seq (.region false [⟨0, (some 3), .mkF (.func 73) #[] #[(.tmp 1)], none, []⟩, ⟨1, (some 2), .move (.tmp 3), none, []⟩])
 .ret)), [.tmp 2]⟩
/- bellarmine/post.timesIn -/
def pf71 : PF := ⟨21, (.seq (.region false [⟨0, (some 4), .move (.const (.int .i64 0)), none, []⟩])
 (.seq (.region false [⟨0, (some 5), .move (.const (.int .i64 0)), none, []⟩])
 (.seq (.seq (.region false [⟨0, (some 8), .move (.tmp 0), none, []⟩, ⟨1, (some 9), .len (.tmp 8), none, []⟩, ⟨2, (some 10), .move (.const (.int .i64 0)), none, []⟩])
 (.block 0 (.loop (.seq (.region false [⟨0, (some 11), .ibin .lss .i64 (.tmp 10) (.tmp 9), none, []⟩])
 (.seq (.cond (.tmp 11) .skip (.exit 0))
 (.seq (.block 1 (.seq (.region false [⟨0, (some 12), .idxS (.tmp 8) (.tmp 10) 1, none, []⟩, ⟨1, (some 13), .load1 (.tmp 12), none, []⟩, ⟨2, (some 7), .move (.tmp 13), none, []⟩])
 (.seq (.region false [⟨0, (some 14), .move (.tmp 7), none, []⟩, ⟨1, (some 15), .move (.tmp 1), none, []⟩, ⟨2, (some 16), .callF 75 [(.tmp 14), (.tmp 15)], none, []⟩])
 (.cond (.tmp 16) (.region false [⟨0, (some 17), .move (.tmp 5), none, []⟩, ⟨1, (some 18), .ibin .add .i64 (.tmp 17) (.const (.int .i64 1)), none, []⟩, ⟨2, (some 5), .move (.tmp 18), none, []⟩]) .skip))))
 (.region false [⟨0, (some 19), .ibin .add .i64 (.tmp 10) (.const (.int .i64 1)), none, []⟩, ⟨1, (some 10), .move (.tmp 19), none, []⟩])))))))
 (.seq (.region false [⟨0, (some 20), .move (.tmp 5), none, []⟩, ⟨1, (some 4), .move (.tmp 20), none, []⟩])
 .ret)))), [.tmp 4]⟩
/- bellarmine/post.allLists$1 -/
def pf73 : PF := ⟨15, (.seq (.region false [⟨0, (some 4), .load1 (.tmp 1), none, []⟩, ⟨1, (some 5), .mkS 3 [(.int .i64 0)] (.const (.int .i64 0)) (.tmp 4), none, []⟩, ⟨2, (some 3), .move (.tmp 5), none, []⟩])
 (.block 0 (.loop (.seq (.seq (.region false [⟨0, (some 6), .move (.tmp 0), none, []⟩, ⟨1, (some 7), .move (.tmp 3), none, []⟩, ⟨2, (some 8), .callV (.tmp 6) [(.tmp 7)], none, []⟩])
 (.cond (.tmp 8) .skip (.exit 0)))
 (.block 1 (.seq (.region false [⟨0, (some 9), .move (.tmp 3), none, []⟩, ⟨1, (some 10), .load1 (.tmp 1), none, []⟩, ⟨2, (some 11), .callF 74 [(.tmp 9), (.tmp 10)], none, []⟩, ⟨3, (some 3), .move (.tmp 11), none, []⟩])
 (.seq (.region false [⟨0, (some 12), .move (.tmp 3), none, []⟩, ⟨1, (some 13), .len (.tmp 12), none, []⟩, ⟨2, (some 14), .ibin .eql .i64 (.tmp 13) (.const (.int .i64 0)), none, []⟩])
 (.cond (.tmp 14) .ret .skip)))))))), []⟩
/- bellarmine/post.next -/
def pf74 : PF := ⟨44, (.seq (.region false [⟨0, (some 4), .move (.const (.slice none 0 0)), none, []⟩])
 (.seq (.seq (.region false [⟨0, (some 6), .move (.tmp 0), none, []⟩, ⟨1, (some 7), .len (.tmp 6), none, []⟩, ⟨2, (some 8), .ibin .eql .i64 (.tmp 7) (.const (.int .i64 0)), none, []⟩])
 (.cond (.tmp 8) (.seq (.region false [⟨0, (some 9), .move (.tmp 0), none, []⟩, ⟨1, (some 10), .bldS 3 1 [(.int .i64 0)] 1 [(0, (.const (.int .i64 0)))], none, []⟩, ⟨2, (some 11), .append 3 1 (.tmp 9) (.tmp 10), none, []⟩, ⟨3, (some 4), .move (.tmp 11), none, []⟩])
 .ret) .skip))
 (.seq (.region false [⟨0, (some 12), .move (.tmp 0), none, []⟩, ⟨1, (some 13), .move (.tmp 0), none, []⟩, ⟨2, (some 14), .len (.tmp 13), none, []⟩, ⟨3, (some 15), .ibin .sub .i64 (.tmp 14) (.const (.int .i64 1)), none, []⟩, ⟨4, (some 16), .idxS (.tmp 12) (.tmp 15) 1, none, []⟩, ⟨5, (some 17), .load1 (.tmp 16), none, []⟩, ⟨6, (some 5), .move (.tmp 17), none, []⟩])
 (.seq (.seq (.region false [⟨0, (some 18), .move (.tmp 5), none, []⟩, ⟨1, (some 19), .ibin .add .i64 (.tmp 18) (.const (.int .i64 1)), none, []⟩, ⟨2, (some 20), .move (.tmp 1), none, []⟩, ⟨3, (some 21), .ibin .lss .i64 (.tmp 19) (.tmp 20), none, []⟩])
 (.cond (.tmp 21) (.seq (.region false [⟨0, (some 22), .move (.tmp 0), none, []⟩, ⟨1, (some 23), .move (.tmp 5), none, []⟩, ⟨2, (some 24), .ibin .add .i64 (.tmp 23) (.const (.int .i64 1)), none, []⟩, ⟨3, (some 25), .bldS 3 1 [(.int .i64 0)] 1 [(0, (.tmp 24))], none, []⟩, ⟨4, (some 26), .append 3 1 (.tmp 22) (.tmp 25), none, []⟩, ⟨5, (some 4), .move (.tmp 26), none, []⟩])
 .ret) .skip))
 (.seq (.region false [⟨0, (some 27), .move (.tmp 0), none, []⟩, ⟨1, (some 28), .move (.tmp 0), none, []⟩, ⟨2, (some 29), .len (.tmp 28), none, []⟩, ⟨3, (some 30), .ibin .sub .i64 (.tmp 29) (.const (.int .i64 1)), none, []⟩, ⟨4, (some 31), .slS (.tmp 27) 1 none (some (.tmp 30)) none, none, []⟩, ⟨5, (some 0), .move (.tmp 31), none, []⟩])
 (.seq (.seq (.region false [⟨0, (some 32), .move (.tmp 0), none, []⟩, ⟨1, (some 33), .len (.tmp 32), none, []⟩, ⟨2, (some 34), .ibin .gtr .i64 (.tmp 33) (.const (.int .i64 0)), none, []⟩])
 (.cond (.tmp 34) (.region false [⟨0, (some 35), .move (.tmp 0), none, []⟩, ⟨1, (some 36), .move (.tmp 0), none, []⟩, ⟨2, (some 37), .len (.tmp 36), none, []⟩, ⟨3, (some 38), .ibin .sub .i64 (.tmp 37) (.const (.int .i64 1)), none, []⟩, ⟨4, (some 39), .idxS (.tmp 35) (.tmp 38) 1, none, []⟩, ⟨5, (some 40), .load1 (.tmp 39), none, []⟩, ⟨6, (some 41), .ibin .add .i64 (.tmp 40) (.const (.int .i64 1)), none, []⟩, ⟨7, (some 42), .idxS (.tmp 35) (.tmp 38) 1, none, []⟩, ⟨8, none, .store (.tmp 42) (.tmp 41) 1, none, []⟩]) .skip))
 (.seq (.region false [⟨0, (some 43), .move (.tmp 0), none, []⟩, ⟨1, (some 4), .move (.tmp 43), none, []⟩])
 .ret))))))), [.tmp 4]⟩
/- slices.Contains[[]int,int] -/
def pf75 : PF := ⟨9, (.seq (.region false [⟨0, (some 4), .move (.const (.bool false)), none, []⟩])
 (.seq (.region false [⟨0, (some 5), .move (.tmp 0), none, []⟩, ⟨1, (some 6), .move (.tmp 1), none, []⟩, ⟨2, (some 7), .callF 76 [(.tmp 5), (.tmp 6)], none, []⟩, ⟨3, (some 8), .ibin .geq .i64 (.tmp 7) (.const (.int .i64 0)), none, []⟩, ⟨4, (some 4), .move (.tmp 8), none, []⟩])
 .ret)), [.tmp 4]⟩
/- slices.Index[[]int,int] -/
def pf76 : PF := ⟨19, (.seq (.region false [⟨0, (some 4), .move (.const (.int .i64 0)), none, []⟩])
 (.seq (.seq (.region false [⟨0, (some 6), .move (.tmp 0), none, []⟩, ⟨1, (some 7), .len (.tmp 6), none, []⟩, ⟨2, (some 8), .move (.const (.int .i64 0)), none, []⟩])
 (.block 0 (.loop (.seq (.region false [⟨0, (some 9), .ibin .lss .i64 (.tmp 8) (.tmp 7), none, []⟩])
 (.seq (.cond (.tmp 9) .skip (.exit 0))
 (.seq (.block 1 (.seq (.region false [⟨0, (some 10), .move (.tmp 8), none, []⟩, ⟨1, (some 5), .move (.tmp 10), none, []⟩])
 (.seq (.region false [⟨0, (some 11), .move (.tmp 1), none, []⟩, ⟨1, (some 12), .move (.tmp 0), none, []⟩, ⟨2, (some 13), .move (.tmp 5), none, []⟩, ⟨3, (some 14), .idxS (.tmp 12) (.tmp 13) 1, none, []⟩, ⟨4, (some 15), .load1 (.tmp 14), none, []⟩, ⟨5, (some 16), .ibin .eql .i64 (.tmp 11) (.tmp 15), none, []⟩])
 (.cond (.tmp 16) (.seq (.region false [⟨0, (some 17), .move (.tmp 5), none, []⟩, ⟨1, (some 4), .move (.tmp 17), none, []⟩])
 .ret) .skip))))
 (.region false [⟨0, (some 18), .ibin .add .i64 (.tmp 8) (.const (.int .i64 1)), none, []⟩, ⟨1, (some 8), .move (.tmp 18), none, []⟩])))))))
 (.seq (.region false [⟨0, (some 4), .move (.const (.int .i64 (-1))), none, []⟩])
 .ret))), [.tmp 4]⟩
def funcs : Tr PF := (.node none (.node none (.node none (.node none (.node none (.node none (.node (some pf63) .nil .nil) .nil) .nil) (.node none (.node (some pf39) (.node (some pf71) .nil .nil) .nil) (.node (some pf55) .nil .nil))) (.node none (.node none (.node none (.node (some pf67) .nil .nil) .nil) (.node (some pf51) .nil .nil)) (.node none (.node none (.node (some pf75) .nil .nil) .nil) (.node (some pf59) .nil .nil)))) (.node none (.node (some pf9) (.node none (.node (some pf33) (.node (some pf65) .nil .nil) .nil) (.node (some pf49) .nil .nil)) (.node none (.node (some pf41) (.node (some pf73) .nil .nil) .nil) (.node (some pf57) .nil .nil))) (.node none (.node none (.node none (.node (some pf69) .nil .nil) .nil) .nil) (.node none (.node (some pf45) .nil .nil) .nil)))) (.node none (.node none (.node none (.node (some pf16) (.node (some pf32) .nil .nil) .nil) (.node (some pf24) (.node (some pf40) .nil .nil) .nil)) (.node (some pf12) (.node (some pf20) (.node none (.node (some pf68) .nil .nil) .nil) (.node (some pf52) .nil .nil)) (.node (some pf28) (.node (some pf44) (.node (some pf76) .nil .nil) .nil) (.node (some pf60) .nil .nil)))) (.node (some pf6) (.node none (.node (some pf18) (.node (some pf34) (.node (some pf66) .nil .nil) .nil) .nil) (.node (some pf26) (.node none (.node (some pf74) .nil .nil) .nil) .nil)) (.node (some pf14) (.node (some pf22) (.node none (.node (some pf70) .nil .nil) .nil) .nil) (.node (some pf30) (.node (some pf46) .nil .nil) (.node (some pf62) .nil .nil))))))
noncomputable def C : CW := ⟨{ P := Try.prog, funcs := funcs }, 8⟩
end Go.Proofs.Ytcfffhkabhmkmaa.Ps
