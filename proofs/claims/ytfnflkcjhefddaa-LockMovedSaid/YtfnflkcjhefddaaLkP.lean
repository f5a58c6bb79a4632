/- The program's functions, prepared: written by program, checked below. -/
import Derived.Test.YtfnflkcjhefddaaSymMono
import Derived.Test.YtfnflkcjhefddaaGl0
import Derived.Test.YtfnflkcjhefddaaRows
namespace Go.Proofs.Ytfnflkcjhefddaa.Lk
open Go Go.Abs
set_option maxRecDepth 100000
set_option maxHeartbeats 4000000
/- bellarmine/bellarminelaw11.LockMoved -/
def pf8 : PF := ⟨189, (.seq (.region false [⟨0, (some 3), .box 50 (.tmp 0), none, []⟩, ⟨1, (some 4), .box 56 (.tmp 1), none, []⟩, ⟨2, (some 6), .move (.const (.bool false)), none, []⟩])
 (.seq (.region false [⟨0, (some 23), .loadN (.tmp 3) 8, none, []⟩, ⟨1, (some 24), .callF 42 [(.tmp 23), (.const (.int .i64 7))], none, []⟩, ⟨2, (some 7), .move (.tmp 24), none, []⟩])
 (.seq (.region false [⟨0, (some 26), .move (.tmp 7), none, []⟩, ⟨1, (some 27), .callF 18 [(.tmp 26)], none, []⟩, ⟨2, (some 25), .move (.tmp 27), none, []⟩, ⟨3, (some 28), .ext (.tmp 25) 0, none, []⟩, ⟨4, (some 29), .ext (.tmp 25) 1, none, []⟩, ⟨5, (some 8), .move (.tmp 28), none, []⟩, ⟨6, (some 9), .move (.tmp 29), none, []⟩])
 (.seq (.region false [⟨0, (some 31), .move (.tmp 7), none, []⟩, ⟨1, (some 32), .callF 16 [(.tmp 31)], none, []⟩, ⟨2, (some 30), .move (.tmp 32), none, []⟩, ⟨3, (some 33), .ext (.tmp 30) 0, none, []⟩, ⟨4, (some 34), .ext (.tmp 30) 1, none, []⟩, ⟨5, (some 10), .move (.tmp 33), none, []⟩, ⟨6, (some 11), .move (.tmp 34), none, []⟩])
 (.seq (.region false [⟨0, (some 36), .move (.tmp 7), none, []⟩, ⟨1, (some 37), .move (.tmp 8), none, []⟩, ⟨2, (some 38), .callF 20 [(.tmp 36), (.tmp 37)], none, []⟩, ⟨3, (some 35), .move (.tmp 38), none, []⟩, ⟨4, (some 39), .ext (.tmp 35) 0, none, []⟩, ⟨5, (some 40), .ext (.tmp 35) 1, none, []⟩, ⟨6, (some 12), .move (.tmp 39), none, []⟩, ⟨7, (some 13), .move (.tmp 40), none, []⟩])
 (.seq (.region false [⟨0, (some 42), .move (.tmp 7), none, []⟩, ⟨1, (some 43), .move (.tmp 8), none, []⟩, ⟨2, (some 44), .callF 48 [(.tmp 42), (.tmp 43)], none, []⟩, ⟨3, (some 41), .move (.tmp 44), none, []⟩, ⟨4, (some 45), .ext (.tmp 41) 0, none, []⟩, ⟨5, (some 46), .ext (.tmp 41) 1, none, []⟩, ⟨6, (some 14), .move (.tmp 45), none, []⟩, ⟨7, (some 15), .move (.tmp 46), none, []⟩])
 (.seq (.seq (.region false [⟨0, (some 47), .move (.tmp 9), none, []⟩, ⟨1, (some 48), .ibin .neq .i64 (.tmp 47) (.const (.int .i64 0)), none, []⟩, ⟨2, (some 49), .move (.tmp 48), none, []⟩, ⟨3, (some 50), .move (.tmp 11), (some (49, false)), []⟩, ⟨4, (some 51), .ibin .neq .i64 (.tmp 50) (.const (.int .i64 0)), (some (49, false)), []⟩, ⟨5, (some 52), .pick (.tmp 49) (.const (.bool true)) (.tmp 51), none, []⟩, ⟨6, (some 53), .move (.tmp 52), none, []⟩, ⟨7, (some 54), .move (.tmp 13), (some (53, false)), []⟩, ⟨8, (some 55), .ibin .neq .i64 (.tmp 54) (.const (.int .i64 0)), (some (53, false)), []⟩, ⟨9, (some 56), .pick (.tmp 53) (.const (.bool true)) (.tmp 55), none, []⟩, ⟨10, (some 57), .move (.tmp 56), none, []⟩, ⟨11, (some 58), .move (.tmp 15), (some (57, false)), []⟩, ⟨12, (some 59), .not (.tmp 58), (some (57, false)), []⟩, ⟨13, (some 60), .pick (.tmp 57) (.const (.bool true)) (.tmp 59), none, []⟩, ⟨14, (some 61), .move (.tmp 60), none, []⟩, ⟨15, (some 62), .move (.tmp 12), (some (61, false)), []⟩, ⟨16, (some 63), .move (.tmp 10), (some (61, false)), []⟩, ⟨17, (some 64), .callF 22 [(.tmp 62), (.tmp 63)], (some (61, false)), []⟩, ⟨18, (some 65), .not (.tmp 64), (some (61, false)), []⟩, ⟨19, (some 66), .pick (.tmp 61) (.const (.bool true)) (.tmp 65), none, []⟩, ⟨20, (some 67), .move (.tmp 66), none, []⟩, ⟨21, (some 68), .move (.tmp 14), (some (67, false)), []⟩, ⟨22, (some 69), .move (.tmp 10), (some (67, false)), []⟩, ⟨23, (some 70), .callF 22 [(.tmp 68), (.tmp 69)], (some (67, false)), []⟩, ⟨24, (some 71), .not (.tmp 70), (some (67, false)), []⟩, ⟨25, (some 72), .pick (.tmp 67) (.const (.bool true)) (.tmp 71), none, []⟩])
 (.cond (.tmp 72) (.seq (.region false [⟨0, (some 6), .move (.const (.bool false)), none, []⟩])
 .ret) .skip))
 (.seq (.region false [⟨0, (some 16), .move (.const (.string ⟨#[]⟩)), none, []⟩])
 (.seq (.region false [⟨0, (some 17), .move (.const (.int .i64 0)), none, []⟩, ⟨1, (some 18), .move (.const (.int .i64 0)), none, []⟩])
 (.seq (.region false [⟨0, (some 19), .move (.const (.int .i64 0)), none, []⟩])
 (.seq (.seq (.region false [⟨0, (some 73), .move (.tmp 2), none, []⟩, ⟨1, (some 74), .plain ⟨(some 74), .convert 5 3 (.tmp 73), 3, (String.ofList [Char.ofNat 111, Char.ofNat 117, Char.ofNat 116, Char.ofNat 114, Char.ofNat 105, Char.ofNat 103, Char.ofNat 104, Char.ofNat 116, Char.ofNat 46, Char.ofNat 103, Char.ofNat 111, Char.ofNat 58, Char.ofNat 49, Char.ofNat 53, Char.ofNat 55]), #[⟨0, .data⟩], none⟩, none, []⟩, ⟨2, (some 75), .ibin .rem .i64 (.tmp 74) (.const (.int .i64 15)), none, []⟩, ⟨3, (some 76), .slA (.tmp 4) 14 1 none (some (.tmp 75)) none, none, []⟩, ⟨4, (some 77), .len (.tmp 76), none, []⟩, ⟨5, (some 78), .move (.const (.int .i64 0)), none, []⟩])
 (.block 0 (.loop (.seq (.region false [⟨0, (some 79), .ibin .lss .i64 (.tmp 78) (.tmp 77), none, []⟩])
 (.seq (.cond (.tmp 79) .skip (.exit 0))
 (.seq (.block 1 (.seq (.region false [⟨0, (some 80), .idxS (.tmp 76) (.tmp 78) 1, none, []⟩, ⟨1, (some 81), .load1 (.tmp 80), none, []⟩, ⟨2, (some 21), .move (.tmp 81), none, []⟩])
 (.seq (.region false [⟨0, (some 22), .move (.const (.string ⟨#[105]⟩)), none, []⟩])
 (.seq (.seq (.region false [⟨0, (some 82), .move (.tmp 21), none, []⟩, ⟨1, (some 83), .ibin .rem .u8 (.tmp 82) (.const (.int .u8 2)), none, []⟩, ⟨2, (some 84), .ibin .eql .u8 (.tmp 83) (.const (.int .u8 1)), none, []⟩, ⟨3, (some 85), .move (.tmp 84), none, []⟩, ⟨4, (some 86), .move (.tmp 18), (some (85, true)), []⟩, ⟨5, (some 87), .ibin .gtr .i64 (.tmp 86) (.const (.int .i64 0)), (some (85, true)), []⟩, ⟨6, (some 88), .pick (.tmp 85) (.tmp 87) (.const (.bool false)), none, []⟩, ⟨7, (some 89), .move (.tmp 88), none, []⟩, ⟨8, (some 90), .move (.tmp 17), (some (89, false)), []⟩, ⟨9, (some 91), .move (.tmp 7), (some (89, false)), []⟩, ⟨10, (some 92), .len (.tmp 91), (some (89, false)), []⟩, ⟨11, (some 93), .ibin .eql .i64 (.tmp 90) (.tmp 92), (some (89, false)), []⟩, ⟨12, (some 94), .pick (.tmp 89) (.const (.bool true)) (.tmp 93), none, []⟩])
 (.cond (.tmp 94) (.region false [⟨0, (some 22), .move (.const (.string ⟨#[111]⟩)), none, []⟩]) .skip))
 (.seq (.block 2 (.seq (.region false [⟨0, (some 96), .move (.tmp 21), none, []⟩, ⟨1, (some 97), .ibin .gtr .u8 (.tmp 96) (.const (.int .u8 250)), none, []⟩, ⟨2, (some 95), .move (.tmp 97), none, []⟩])
 (.cond (.tmp 95) (.region false [⟨0, (some 98), .move (.tmp 21), none, []⟩, ⟨1, (some 99), .ibin .rem .u8 (.tmp 98) (.const (.int .u8 3)), none, []⟩, ⟨2, (some 100), .plain ⟨(some 100), .slice 9 (.const (.string ⟨#[105, 111, 120]⟩)) (some (.tmp 99)) none none, 9, (String.ofList [Char.ofNat 111, Char.ofNat 117, Char.ofNat 116, Char.ofNat 114, Char.ofNat 105, Char.ofNat 103, Char.ofNat 104, Char.ofNat 116, Char.ofNat 46, Char.ofNat 103, Char.ofNat 111, Char.ofNat 58, Char.ofNat 49, Char.ofNat 54, Char.ofNat 52]), #[⟨1, .data⟩], none⟩, none, []⟩, ⟨3, (some 101), .plain ⟨(some 101), .slice 9 (.tmp 100) none (some (.const (.int .i64 1))) none, 9, (String.ofList [Char.ofNat 111, Char.ofNat 117, Char.ofNat 116, Char.ofNat 114, Char.ofNat 105, Char.ofNat 103, Char.ofNat 104, Char.ofNat 116, Char.ofNat 46, Char.ofNat 103, Char.ofNat 111, Char.ofNat 58, Char.ofNat 49, Char.ofNat 54, Char.ofNat 52]), #[⟨2, .data⟩], none⟩, none, []⟩, ⟨4, (some 22), .move (.tmp 101), none, []⟩]) (.seq (.region false [⟨0, (some 103), .move (.tmp 21), none, []⟩, ⟨1, (some 104), .ibin .gtr .u8 (.tmp 103) (.const (.int .u8 240)), none, []⟩, ⟨2, (some 102), .move (.tmp 104), none, []⟩])
 (.cond (.tmp 102) (.region false [⟨0, (some 105), .move (.tmp 21), none, []⟩, ⟨1, (some 106), .ibin .rem .u8 (.tmp 105) (.const (.int .u8 2)), none, []⟩, ⟨2, (some 107), .plain ⟨(some 107), .slice 9 (.const (.string ⟨#[105, 111]⟩)) (some (.tmp 106)) none none, 9, (String.ofList [Char.ofNat 111, Char.ofNat 117, Char.ofNat 116, Char.ofNat 114, Char.ofNat 105, Char.ofNat 103, Char.ofNat 104, Char.ofNat 116, Char.ofNat 46, Char.ofNat 103, Char.ofNat 111, Char.ofNat 58, Char.ofNat 49, Char.ofNat 54, Char.ofNat 54]), #[⟨1, .data⟩], none⟩, none, []⟩, ⟨3, (some 108), .plain ⟨(some 108), .slice 9 (.tmp 107) none (some (.const (.int .i64 1))) none, 9, (String.ofList [Char.ofNat 111, Char.ofNat 117, Char.ofNat 116, Char.ofNat 114, Char.ofNat 105, Char.ofNat 103, Char.ofNat 104, Char.ofNat 116, Char.ofNat 46, Char.ofNat 103, Char.ofNat 111, Char.ofNat 58, Char.ofNat 49, Char.ofNat 54, Char.ofNat 54]), #[⟨2, .data⟩], none⟩, none, []⟩, ⟨4, (some 22), .move (.tmp 108), none, []⟩]) .skip)))))
 (.seq (.region false [⟨0, (some 109), .move (.tmp 16), none, []⟩, ⟨1, (some 110), .move (.tmp 22), none, []⟩, ⟨2, (some 111), .plain ⟨(some 111), .binOp .add 9 (.tmp 109) (.tmp 110) 9, 9, (String.ofList [Char.ofNat 111, Char.ofNat 117, Char.ofNat 116, Char.ofNat 114, Char.ofNat 105, Char.ofNat 103, Char.ofNat 104, Char.ofNat 116, Char.ofNat 46, Char.ofNat 103, Char.ofNat 111, Char.ofNat 58, Char.ofNat 49, Char.ofNat 54, Char.ofNat 56]), #[⟨0, .data⟩, ⟨1, .data⟩], none⟩, none, []⟩, ⟨3, (some 16), .move (.tmp 111), none, []⟩])
 (.seq (.seq (.region false [⟨0, (some 112), .move (.tmp 19), none, []⟩, ⟨1, (some 113), .ibin .neq .i64 (.tmp 112) (.const (.int .i64 0)), none, []⟩])
 (.cond (.tmp 113) (.exit 1) .skip))
 (.block 3 (.seq (.region false [⟨0, (some 117), .move (.tmp 22), none, []⟩, ⟨1, (some 118), .plain ⟨(some 118), .binOp .eql 9 (.tmp 117) (.const (.string ⟨#[120]⟩)) 9, 4, (String.ofList [Char.ofNat 111, Char.ofNat 117, Char.ofNat 116, Char.ofNat 114, Char.ofNat 105, Char.ofNat 103, Char.ofNat 104, Char.ofNat 116, Char.ofNat 46, Char.ofNat 103, Char.ofNat 111, Char.ofNat 58, Char.ofNat 49, Char.ofNat 55, Char.ofNat 51]), #[⟨0, .data⟩], none⟩, none, []⟩, ⟨2, (some 116), .move (.tmp 118), none, []⟩])
 (.cond (.tmp 116) (.region false [⟨0, (some 19), .move (.const (.int .i64 10)), none, []⟩]) (.seq (.region false [⟨0, (some 120), .move (.tmp 22), none, []⟩, ⟨1, (some 121), .plain ⟨(some 121), .binOp .eql 9 (.tmp 120) (.const (.string ⟨#[105]⟩)) 9, 4, (String.ofList [Char.ofNat 111, Char.ofNat 117, Char.ofNat 116, Char.ofNat 114, Char.ofNat 105, Char.ofNat 103, Char.ofNat 104, Char.ofNat 116, Char.ofNat 46, Char.ofNat 103, Char.ofNat 111, Char.ofNat 58, Char.ofNat 49, Char.ofNat 55, Char.ofNat 53]), #[⟨0, .data⟩], none⟩, none, []⟩, ⟨2, (some 122), .move (.tmp 121), none, []⟩, ⟨3, (some 123), .move (.tmp 17), (some (122, true)), []⟩, ⟨4, (some 124), .move (.tmp 7), (some (122, true)), []⟩, ⟨5, (some 125), .len (.tmp 124), (some (122, true)), []⟩, ⟨6, (some 126), .ibin .eql .i64 (.tmp 123) (.tmp 125), (some (122, true)), []⟩, ⟨7, (some 127), .pick (.tmp 122) (.tmp 126) (.const (.bool false)), none, []⟩, ⟨8, (some 119), .move (.tmp 127), none, []⟩])
 (.cond (.tmp 119) (.region false [⟨0, (some 19), .move (.const (.int .i64 2)), none, []⟩]) (.seq (.region false [⟨0, (some 129), .move (.tmp 22), none, []⟩, ⟨1, (some 130), .plain ⟨(some 130), .binOp .eql 9 (.tmp 129) (.const (.string ⟨#[105]⟩)) 9, 4, (String.ofList [Char.ofNat 111, Char.ofNat 117, Char.ofNat 116, Char.ofNat 114, Char.ofNat 105, Char.ofNat 103, Char.ofNat 104, Char.ofNat 116, Char.ofNat 46, Char.ofNat 103, Char.ofNat 111, Char.ofNat 58, Char.ofNat 49, Char.ofNat 55, Char.ofNat 55]), #[⟨0, .data⟩], none⟩, none, []⟩, ⟨2, (some 128), .move (.tmp 130), none, []⟩])
 (.cond (.tmp 128) (.seq (.region false [⟨0, (some 131), .move (.tmp 17), none, []⟩, ⟨1, (some 132), .ibin .add .i64 (.tmp 131) (.const (.int .i64 1)), none, []⟩, ⟨2, (some 17), .move (.tmp 132), none, []⟩])
 (.region false [⟨0, (some 133), .move (.tmp 18), none, []⟩, ⟨1, (some 134), .ibin .add .i64 (.tmp 133) (.const (.int .i64 1)), none, []⟩, ⟨2, (some 18), .move (.tmp 134), none, []⟩])) (.seq (.region false [⟨0, (some 136), .move (.tmp 18), none, []⟩, ⟨1, (some 137), .ibin .eql .i64 (.tmp 136) (.const (.int .i64 0)), none, []⟩, ⟨2, (some 135), .move (.tmp 137), none, []⟩])
 (.cond (.tmp 135) (.region false [⟨0, (some 19), .move (.const (.int .i64 4)), none, []⟩]) (.region false [⟨0, (some 114), .move (.tmp 18), none, []⟩, ⟨1, (some 115), .ibin .sub .i64 (.tmp 114) (.const (.int .i64 1)), none, []⟩, ⟨2, (some 18), .move (.tmp 115), none, []⟩])))))))))))))))))
 (.region false [⟨0, (some 138), .ibin .add .i64 (.tmp 78) (.const (.int .i64 1)), none, []⟩, ⟨1, (some 78), .move (.tmp 138), none, []⟩])))))))
 (.seq (.seq (.region false [⟨0, (some 139), .move (.tmp 19), none, []⟩, ⟨1, (some 140), .ibin .eql .i64 (.tmp 139) (.const (.int .i64 0)), none, []⟩, ⟨2, (some 141), .move (.tmp 140), none, []⟩, ⟨3, (some 142), .move (.tmp 17), (some (141, true)), []⟩, ⟨4, (some 143), .move (.tmp 7), (some (141, true)), []⟩, ⟨5, (some 144), .len (.tmp 143), (some (141, true)), []⟩, ⟨6, (some 145), .ibin .lss .i64 (.tmp 142) (.tmp 144), (some (141, true)), []⟩, ⟨7, (some 146), .move (.tmp 145), (some (141, true)), []⟩, ⟨8, (some 147), .move (.tmp 18), (some (146, false)), []⟩, ⟨9, (some 148), .ibin .gtr .i64 (.tmp 147) (.const (.int .i64 0)), (some (146, false)), []⟩, ⟨10, (some 149), .pick (.tmp 146) (.const (.bool true)) (.tmp 148), (some (141, true)), []⟩, ⟨11, (some 150), .pick (.tmp 141) (.tmp 149) (.const (.bool false)), none, []⟩])
 (.cond (.tmp 150) (.region false [⟨0, (some 19), .move (.const (.int .i64 21)), none, []⟩]) .skip))
 (.seq (.region false [⟨0, (some 152), .move (.tmp 7), none, []⟩, ⟨1, (some 153), .move (.tmp 16), none, []⟩, ⟨2, (some 154), .callF 20 [(.tmp 152), (.tmp 153)], none, []⟩, ⟨3, (some 151), .move (.tmp 154), none, []⟩, ⟨4, (some 155), .ext (.tmp 151) 0, none, []⟩, ⟨5, (some 156), .ext (.tmp 151) 1, none, []⟩, ⟨6, (some 12), .move (.tmp 155), none, []⟩, ⟨7, (some 9), .move (.tmp 156), none, []⟩])
 (.seq (.seq (.region false [⟨0, (some 157), .move (.tmp 19), none, []⟩, ⟨1, (some 158), .ibin .neq .i64 (.tmp 157) (.const (.int .i64 0)), none, []⟩])
 (.cond (.tmp 158) (.seq (.region false [⟨0, (some 159), .move (.tmp 9), none, []⟩, ⟨1, (some 160), .move (.tmp 19), none, []⟩, ⟨2, (some 161), .ibin .eql .i64 (.tmp 159) (.tmp 160), none, []⟩, ⟨3, (some 162), .move (.tmp 161), none, []⟩, ⟨4, (some 163), .move (.tmp 12), (some (162, true)), []⟩, ⟨5, (some 164), .len (.tmp 163), (some (162, true)), []⟩, ⟨6, (some 165), .ibin .eql .i64 (.tmp 164) (.const (.int .i64 0)), (some (162, true)), []⟩, ⟨7, (some 166), .pick (.tmp 162) (.tmp 165) (.const (.bool false)), none, []⟩, ⟨8, (some 167), .move (.tmp 166), none, []⟩, ⟨9, (some 168), .callF 15 [], (some (167, true)), []⟩, ⟨10, (some 169), .pick (.tmp 167) (.tmp 168) (.const (.bool false)), none, []⟩, ⟨11, (some 6), .move (.tmp 169), none, []⟩])
 .ret) .skip))
 (.seq (.region false [⟨0, (some 171), .move (.tmp 7), none, []⟩, ⟨1, (some 172), .move (.tmp 16), none, []⟩, ⟨2, (some 173), .callF 48 [(.tmp 171), (.tmp 172)], none, []⟩, ⟨3, (some 170), .move (.tmp 173), none, []⟩, ⟨4, (some 174), .ext (.tmp 170) 0, none, []⟩, ⟨5, (some 175), .ext (.tmp 170) 1, none, []⟩, ⟨6, (some 14), .move (.tmp 174), none, []⟩, ⟨7, (some 15), .move (.tmp 175), none, []⟩])
 (.seq (.region false [⟨0, (some 176), .move (.tmp 9), none, []⟩, ⟨1, (some 177), .ibin .eql .i64 (.tmp 176) (.const (.int .i64 0)), none, []⟩, ⟨2, (some 178), .move (.tmp 177), none, []⟩, ⟨3, (some 179), .move (.tmp 15), (some (178, true)), []⟩, ⟨4, (some 180), .pick (.tmp 178) (.tmp 179) (.const (.bool false)), none, []⟩, ⟨5, (some 181), .move (.tmp 180), none, []⟩, ⟨6, (some 182), .move (.tmp 12), (some (181, true)), []⟩, ⟨7, (some 183), .move (.tmp 14), (some (181, true)), []⟩, ⟨8, (some 184), .callF 22 [(.tmp 182), (.tmp 183)], (some (181, true)), []⟩, ⟨9, (some 185), .pick (.tmp 181) (.tmp 184) (.const (.bool false)), none, []⟩, ⟨10, (some 186), .move (.tmp 185), none, []⟩, ⟨11, (some 187), .callF 15 [], (some (186, true)), []⟩, ⟨12, (some 188), .pick (.tmp 186) (.tmp 187) (.const (.bool false)), none, []⟩, ⟨13, (some 6), .move (.tmp 188), none, []⟩])
 .ret)))))))))))))))), [.tmp 6]⟩
/- bellarmine/lock.Pass -/
def pf16 : PF := ⟨12, (.seq (.region false [⟨0, (some 2), .move (.const (.slice none 0 0)), none, []⟩, ⟨1, (some 3), .move (.const (.int .i64 0)), none, []⟩])
 (.seq (.seq (.region false [⟨0, (some 5), .move (.tmp 0), none, []⟩, ⟨1, (some 6), .callF 23 [(.tmp 5)], none, []⟩, ⟨2, (some 4), .move (.tmp 6), none, []⟩])
 (.seq (.region false [⟨0, (some 7), .move (.tmp 4), none, []⟩, ⟨1, (some 8), .ibin .neq .i64 (.tmp 7) (.const (.int .i64 0)), none, []⟩])
 (.cond (.tmp 8) (.seq (.region false [⟨0, (some 9), .move (.tmp 4), none, []⟩, ⟨1, (some 2), .move (.const (.slice none 0 0)), none, []⟩, ⟨2, (some 3), .move (.tmp 9), none, []⟩])
 .ret) .skip)))
 (.seq (.region false [⟨0, (some 10), .move (.tmp 0), none, []⟩, ⟨1, (some 11), .callF 61 [(.tmp 10)], none, []⟩, ⟨2, (some 2), .move (.tmp 11), none, []⟩, ⟨3, (some 3), .move (.const (.int .i64 0)), none, []⟩])
 .ret))), [.tmp 2, .tmp 3]⟩
/- bellarmine/lock.Moves -/
def pf18 : PF := ⟨16, (.seq (.region false [⟨0, (some 2), .move (.const (.string ⟨#[]⟩)), none, []⟩, ⟨1, (some 3), .move (.const (.int .i64 0)), none, []⟩])
 (.seq (.seq (.region false [⟨0, (some 6), .move (.tmp 0), none, []⟩, ⟨1, (some 7), .callF 23 [(.tmp 6)], none, []⟩, ⟨2, (some 4), .move (.tmp 7), none, []⟩])
 (.seq (.region false [⟨0, (some 8), .move (.tmp 4), none, []⟩, ⟨1, (some 9), .ibin .neq .i64 (.tmp 8) (.const (.int .i64 0)), none, []⟩])
 (.cond (.tmp 9) (.seq (.region false [⟨0, (some 10), .move (.tmp 4), none, []⟩, ⟨1, (some 2), .move (.const (.string ⟨#[]⟩)), none, []⟩, ⟨2, (some 3), .move (.tmp 10), none, []⟩])
 .ret) .skip)))
 (.seq (.region false [⟨0, (some 5), .new 59 [(.slice none 0 0)], none, []⟩])
 (.seq (.region false [⟨0, (some 11), .move (.tmp 0), none, []⟩, ⟨1, (some 12), .callF 64 [(.tmp 5)], none, []⟩, ⟨2, (some 13), .callF 63 [(.tmp 11), (.tmp 12)], none, []⟩])
 (.seq (.region false [⟨0, (some 14), .load1 (.tmp 5), none, []⟩, ⟨1, (some 15), .cts 0 (.tmp 14), none, []⟩, ⟨2, (some 2), .move (.tmp 15), none, []⟩, ⟨3, (some 3), .move (.const (.int .i64 0)), none, []⟩])
 .ret))))), [.tmp 2, .tmp 3]⟩
/- bellarmine/bellarmineref11.Moves -/
def pf19 : PF := ⟨63, (.seq (.region false [⟨0, (some 2), .move (.const (.string ⟨#[]⟩)), none, []⟩, ⟨1, (some 3), .move (.const (.int .i64 0)), none, []⟩])
 (.seq (.region false [⟨0, (some 9), .move (.tmp 0), none, []⟩, ⟨1, (some 10), .callF 24 [(.tmp 9)], none, []⟩, ⟨2, (some 4), .move (.tmp 10), none, []⟩])
 (.seq (.seq (.region false [⟨0, (some 11), .move (.tmp 4), none, []⟩, ⟨1, (some 12), .ibin .neq .i64 (.tmp 11) (.const (.int .i64 0)), none, []⟩])
 (.cond (.tmp 12) (.seq (.region false [⟨0, (some 13), .move (.tmp 4), none, []⟩, ⟨1, (some 2), .move (.const (.string ⟨#[]⟩)), none, []⟩, ⟨2, (some 3), .move (.tmp 13), none, []⟩])
 .ret) .skip))
 (.seq (.region false [⟨0, (some 5), .move (.const (.string ⟨#[]⟩)), none, []⟩])
 (.seq (.region false [⟨0, (some 6), .move (.const (.slice none 0 0)), none, []⟩])
 (.seq (.seq (.region false [⟨0, (some 7), .move (.const (.int .i64 0)), none, []⟩])
 (.block 0 (.loop (.seq (.seq (.region false [⟨0, (some 14), .move (.tmp 7), none, []⟩, ⟨1, (some 15), .move (.tmp 0), none, []⟩, ⟨2, (some 16), .len (.tmp 15), none, []⟩, ⟨3, (some 17), .ibin .lss .i64 (.tmp 14) (.tmp 16), none, []⟩])
 (.cond (.tmp 17) .skip (.exit 0)))
 (.seq (.block 1 (.seq (.block 2 (.loop (.seq (.seq (.region true [⟨0, (some 20), .move (.tmp 6), none, []⟩, ⟨1, (some 21), .len (.tmp 20), none, []⟩, ⟨2, (some 22), .ibin .gtr .i64 (.tmp 21) (.const (.int .i64 0)), none, []⟩, ⟨3, (some 23), .move (.tmp 22), none, []⟩, ⟨4, (some 24), .move (.tmp 6), (some (23, true)), []⟩, ⟨5, (some 25), .move (.tmp 6), (some (23, true)), []⟩, ⟨6, (some 26), .len (.tmp 25), (some (23, true)), []⟩, ⟨7, (some 27), .ibin .sub .i64 (.tmp 26) (.const (.int .i64 1)), (some (23, true)), []⟩, ⟨8, (some 28), .idxS (.tmp 24) (.tmp 27) 1, (some (23, true)), []⟩, ⟨9, (some 29), .load1 (.tmp 28), (some (23, true)), []⟩, ⟨10, (some 30), .move (.tmp 0), (some (23, true)), []⟩, ⟨11, (some 31), .move (.tmp 7), (some (23, true)), []⟩, ⟨12, (some 32), .idxS (.tmp 30) (.tmp 31) 1, (some (23, true)), []⟩, ⟨13, (some 33), .load1 (.tmp 32), (some (23, true)), []⟩, ⟨14, (some 34), .ibin .lss .i64 (.tmp 29) (.tmp 33), (some (23, true)), []⟩, ⟨15, (some 35), .pick (.tmp 23) (.tmp 34) (.const (.bool false)), none, []⟩])
 (.cond (.tmp 35) .skip (.exit 2)))
 (.block 3 (.seq (.region false [⟨0, (some 36), .move (.tmp 5), none, []⟩, ⟨1, (some 37), .plain ⟨(some 37), .binOp .add 9 (.tmp 36) (.const (.string ⟨#[111]⟩)) 9, 9, (String.ofList [Char.ofNat 114, Char.ofNat 101, Char.ofNat 102, Char.ofNat 46, Char.ofNat 103, Char.ofNat 111, Char.ofNat 58, Char.ofNat 55, Char.ofNat 51]), #[⟨0, .data⟩], none⟩, none, []⟩, ⟨2, (some 5), .move (.tmp 37), none, []⟩])
 (.region false [⟨0, (some 38), .move (.tmp 6), none, []⟩, ⟨1, (some 39), .move (.tmp 6), none, []⟩, ⟨2, (some 40), .len (.tmp 39), none, []⟩, ⟨3, (some 41), .ibin .sub .i64 (.tmp 40) (.const (.int .i64 1)), none, []⟩, ⟨4, (some 42), .slS (.tmp 38) 1 none (some (.tmp 41)) none, none, []⟩, ⟨5, (some 6), .move (.tmp 42), none, []⟩]))))))
 (.seq (.region false [⟨0, (some 43), .move (.tmp 5), none, []⟩, ⟨1, (some 44), .plain ⟨(some 44), .binOp .add 9 (.tmp 43) (.const (.string ⟨#[105]⟩)) 9, 9, (String.ofList [Char.ofNat 114, Char.ofNat 101, Char.ofNat 102, Char.ofNat 46, Char.ofNat 103, Char.ofNat 111, Char.ofNat 58, Char.ofNat 55, Char.ofNat 54]), #[⟨0, .data⟩], none⟩, none, []⟩, ⟨2, (some 5), .move (.tmp 44), none, []⟩])
 (.region true [⟨1, (some 46), .move (.tmp 6), none, []⟩, ⟨3, (some 48), .move (.tmp 0), none, []⟩, ⟨4, (some 49), .move (.tmp 7), none, []⟩, ⟨5, (some 50), .idxS (.tmp 48) (.tmp 49) 1, none, []⟩, ⟨6, (some 51), .load1 (.tmp 50), none, []⟩, ⟨0, (some 45), .bldS 3 1 [] 0 [], none, [6]⟩, ⟨2, (some 47), .append 3 1 (.tmp 45) (.tmp 46), none, [6]⟩, ⟨7, (some 52), .bldS 3 1 [(.int .i64 0)] 1 [(0, (.tmp 51))], none, []⟩, ⟨8, (some 53), .append 3 1 (.tmp 47) (.tmp 52), none, []⟩, ⟨9, (some 6), .move (.tmp 53), none, []⟩]))))
 (.region false [⟨0, (some 18), .move (.tmp 7), none, []⟩, ⟨1, (some 19), .ibin .add .i64 (.tmp 18) (.const (.int .i64 1)), none, []⟩, ⟨2, (some 7), .move (.tmp 19), none, []⟩]))))))
 (.seq (.seq (.region false [⟨0, (some 8), .move (.const (.int .i64 0)), none, []⟩])
 (.block 4 (.loop (.seq (.seq (.region false [⟨0, (some 54), .move (.tmp 8), none, []⟩, ⟨1, (some 55), .move (.tmp 6), none, []⟩, ⟨2, (some 56), .len (.tmp 55), none, []⟩, ⟨3, (some 57), .ibin .lss .i64 (.tmp 54) (.tmp 56), none, []⟩])
 (.cond (.tmp 57) .skip (.exit 4)))
 (.seq (.block 5 (.region false [⟨0, (some 60), .move (.tmp 5), none, []⟩, ⟨1, (some 61), .plain ⟨(some 61), .binOp .add 9 (.tmp 60) (.const (.string ⟨#[111]⟩)) 9, 9, (String.ofList [Char.ofNat 114, Char.ofNat 101, Char.ofNat 102, Char.ofNat 46, Char.ofNat 103, Char.ofNat 111, Char.ofNat 58, Char.ofNat 56, Char.ofNat 48]), #[⟨0, .data⟩], none⟩, none, []⟩, ⟨2, (some 5), .move (.tmp 61), none, []⟩]))
 (.region false [⟨0, (some 58), .move (.tmp 8), none, []⟩, ⟨1, (some 59), .ibin .add .i64 (.tmp 58) (.const (.int .i64 1)), none, []⟩, ⟨2, (some 8), .move (.tmp 59), none, []⟩]))))))
 (.seq (.region false [⟨0, (some 62), .move (.tmp 5), none, []⟩, ⟨1, (some 2), .move (.tmp 62), none, []⟩, ⟨2, (some 3), .move (.const (.int .i64 0)), none, []⟩])
 .ret)))))))), [.tmp 2, .tmp 3]⟩
/- bellarmine/lock.Run -/
def pf20 : PF := ⟨22, (.seq (.region false [⟨0, (some 4), .move (.const (.slice none 0 0)), none, []⟩, ⟨1, (some 5), .move (.const (.int .i64 0)), none, []⟩])
 (.seq (.seq (.region false [⟨0, (some 9), .move (.tmp 0), none, []⟩, ⟨1, (some 10), .callF 23 [(.tmp 9)], none, []⟩, ⟨2, (some 6), .move (.tmp 10), none, []⟩])
 (.seq (.region false [⟨0, (some 11), .move (.tmp 6), none, []⟩, ⟨1, (some 12), .ibin .neq .i64 (.tmp 11) (.const (.int .i64 0)), none, []⟩])
 (.cond (.tmp 12) (.seq (.region false [⟨0, (some 13), .move (.tmp 6), none, []⟩, ⟨1, (some 4), .move (.const (.slice none 0 0)), none, []⟩, ⟨2, (some 5), .move (.tmp 13), none, []⟩])
 .ret) .skip)))
 (.seq (.region false [⟨0, (some 7), .new 22 [(.slice none 0 0)], none, []⟩])
 (.seq (.seq (.region false [⟨0, (some 14), .move (.tmp 0), none, []⟩, ⟨1, (some 15), .move (.tmp 1), none, []⟩, ⟨2, (some 16), .callF 66 [(.tmp 7)], none, []⟩, ⟨3, (some 17), .callF 65 [(.tmp 14), (.tmp 15), (.tmp 16)], none, []⟩, ⟨4, (some 8), .move (.tmp 17), none, []⟩])
 (.seq (.region false [⟨0, (some 18), .move (.tmp 8), none, []⟩, ⟨1, (some 19), .ibin .neq .i64 (.tmp 18) (.const (.int .i64 0)), none, []⟩])
 (.cond (.tmp 19) (.seq (.region false [⟨0, (some 20), .move (.tmp 8), none, []⟩, ⟨1, (some 4), .move (.const (.slice none 0 0)), none, []⟩, ⟨2, (some 5), .move (.tmp 20), none, []⟩])
 .ret) .skip)))
 (.seq (.region false [⟨0, (some 21), .load1 (.tmp 7), none, []⟩, ⟨1, (some 4), .move (.tmp 21), none, []⟩, ⟨2, (some 5), .move (.const (.int .i64 0)), none, []⟩])
 .ret))))), [.tmp 4, .tmp 5]⟩
/- bellarmine/bellarmineref11.Run -/
def pf21 : PF := ⟨68, (.seq (.region false [⟨0, (some 4), .move (.const (.slice none 0 0)), none, []⟩, ⟨1, (some 5), .move (.const (.int .i64 0)), none, []⟩])
 (.seq (.region false [⟨0, (some 11), .move (.tmp 0), none, []⟩, ⟨1, (some 12), .callF 24 [(.tmp 11)], none, []⟩, ⟨2, (some 6), .move (.tmp 12), none, []⟩])
 (.seq (.seq (.region false [⟨0, (some 13), .move (.tmp 6), none, []⟩, ⟨1, (some 14), .ibin .neq .i64 (.tmp 13) (.const (.int .i64 0)), none, []⟩])
 (.cond (.tmp 14) (.seq (.region false [⟨0, (some 15), .move (.tmp 6), none, []⟩, ⟨1, (some 4), .move (.const (.slice none 0 0)), none, []⟩, ⟨2, (some 5), .move (.tmp 15), none, []⟩])
 .ret) .skip))
 (.seq (.region false [⟨0, (some 7), .move (.const (.slice none 0 0)), none, []⟩, ⟨1, (some 8), .move (.const (.slice none 0 0)), none, []⟩])
 (.seq (.region false [⟨0, (some 9), .move (.const (.int .i64 0)), none, []⟩])
 (.seq (.seq (.region false [⟨0, (some 10), .move (.const (.int .i64 0)), none, []⟩])
 (.block 0 (.loop (.seq (.seq (.region false [⟨0, (some 16), .move (.tmp 10), none, []⟩, ⟨1, (some 17), .move (.tmp 1), none, []⟩, ⟨2, (some 18), .plain ⟨(some 18), .call ⟨.builtin .len, #[(.tmp 17)], #[9]⟩, 3, (String.ofList [Char.ofNat 114, Char.ofNat 101, Char.ofNat 102, Char.ofNat 46, Char.ofNat 103, Char.ofNat 111, Char.ofNat 58, Char.ofNat 57, Char.ofNat 51]), #[⟨1, .data⟩], none⟩, none, []⟩, ⟨3, (some 19), .ibin .lss .i64 (.tmp 16) (.tmp 18), none, []⟩])
 (.cond (.tmp 19) .skip (.exit 0)))
 (.seq (.block 1 (.seq (.region false [⟨0, (some 22), .move (.tmp 1), none, []⟩, ⟨1, (some 23), .move (.tmp 10), none, []⟩, ⟨2, (some 24), .plain ⟨(some 24), .index 9 (.tmp 22) (.tmp 23), 5, (String.ofList [Char.ofNat 114, Char.ofNat 101, Char.ofNat 102, Char.ofNat 46, Char.ofNat 103, Char.ofNat 111, Char.ofNat 58, Char.ofNat 57, Char.ofNat 52]), #[⟨0, .data⟩, ⟨1, .data⟩], none⟩, none, []⟩, ⟨3, (some 25), .ibin .eql .u8 (.tmp 24) (.const (.int .u8 105)), none, []⟩])
 (.cond (.tmp 25) (.seq (.seq (.region false [⟨0, (some 26), .move (.tmp 9), none, []⟩, ⟨1, (some 27), .move (.tmp 0), none, []⟩, ⟨2, (some 28), .len (.tmp 27), none, []⟩, ⟨3, (some 29), .ibin .eql .i64 (.tmp 26) (.tmp 28), none, []⟩])
 (.cond (.tmp 29) (.seq (.region false [⟨0, (some 4), .move (.const (.slice none 0 0)), none, []⟩, ⟨1, (some 5), .move (.const (.int .i64 2)), none, []⟩])
 .ret) .skip))
 (.seq (.region true [⟨1, (some 31), .move (.tmp 7), none, []⟩, ⟨3, (some 33), .move (.tmp 0), none, []⟩, ⟨4, (some 34), .move (.tmp 9), none, []⟩, ⟨5, (some 35), .idxS (.tmp 33) (.tmp 34) 1, none, []⟩, ⟨6, (some 36), .load1 (.tmp 35), none, []⟩, ⟨0, (some 30), .bldS 3 1 [] 0 [], none, [6]⟩, ⟨2, (some 32), .append 3 1 (.tmp 30) (.tmp 31), none, [6]⟩, ⟨7, (some 37), .bldS 3 1 [(.int .i64 0)] 1 [(0, (.tmp 36))], none, []⟩, ⟨8, (some 38), .append 3 1 (.tmp 32) (.tmp 37), none, []⟩, ⟨9, (some 7), .move (.tmp 38), none, []⟩])
 (.region false [⟨0, (some 39), .move (.tmp 9), none, []⟩, ⟨1, (some 40), .ibin .add .i64 (.tmp 39) (.const (.int .i64 1)), none, []⟩, ⟨2, (some 9), .move (.tmp 40), none, []⟩]))) (.seq (.region false [⟨0, (some 41), .move (.tmp 1), none, []⟩, ⟨1, (some 42), .move (.tmp 10), none, []⟩, ⟨2, (some 43), .plain ⟨(some 43), .index 9 (.tmp 41) (.tmp 42), 5, (String.ofList [Char.ofNat 114, Char.ofNat 101, Char.ofNat 102, Char.ofNat 46, Char.ofNat 103, Char.ofNat 111, Char.ofNat 58, Char.ofNat 49, Char.ofNat 48, Char.ofNat 48]), #[⟨0, .data⟩, ⟨1, .data⟩], none⟩, none, []⟩, ⟨3, (some 44), .ibin .eql .u8 (.tmp 43) (.const (.int .u8 111)), none, []⟩])
 (.cond (.tmp 44) (.seq (.seq (.region false [⟨0, (some 45), .move (.tmp 7), none, []⟩, ⟨1, (some 46), .len (.tmp 45), none, []⟩, ⟨2, (some 47), .ibin .eql .i64 (.tmp 46) (.const (.int .i64 0)), none, []⟩])
 (.cond (.tmp 47) (.seq (.region false [⟨0, (some 4), .move (.const (.slice none 0 0)), none, []⟩, ⟨1, (some 5), .move (.const (.int .i64 4)), none, []⟩])
 .ret) .skip))
 (.seq (.region false [⟨0, (some 48), .move (.tmp 8), none, []⟩, ⟨1, (some 49), .move (.tmp 7), none, []⟩, ⟨2, (some 50), .move (.tmp 7), none, []⟩, ⟨3, (some 51), .len (.tmp 50), none, []⟩, ⟨4, (some 52), .ibin .sub .i64 (.tmp 51) (.const (.int .i64 1)), none, []⟩, ⟨5, (some 53), .idxS (.tmp 49) (.tmp 52) 1, none, []⟩, ⟨6, (some 54), .load1 (.tmp 53), none, []⟩, ⟨7, (some 55), .bldS 3 1 [(.int .i64 0)] 1 [(0, (.tmp 54))], none, []⟩, ⟨8, (some 56), .append 3 1 (.tmp 48) (.tmp 55), none, []⟩, ⟨9, (some 8), .move (.tmp 56), none, []⟩])
 (.region false [⟨0, (some 57), .move (.tmp 7), none, []⟩, ⟨1, (some 58), .move (.tmp 7), none, []⟩, ⟨2, (some 59), .len (.tmp 58), none, []⟩, ⟨3, (some 60), .ibin .sub .i64 (.tmp 59) (.const (.int .i64 1)), none, []⟩, ⟨4, (some 61), .slS (.tmp 57) 1 none (some (.tmp 60)) none, none, []⟩, ⟨5, (some 7), .move (.tmp 61), none, []⟩]))) (.seq (.region false [⟨0, (some 4), .move (.const (.slice none 0 0)), none, []⟩, ⟨1, (some 5), .move (.const (.int .i64 10)), none, []⟩])
 .ret))))))
 (.region false [⟨0, (some 20), .move (.tmp 10), none, []⟩, ⟨1, (some 21), .ibin .add .i64 (.tmp 20) (.const (.int .i64 1)), none, []⟩, ⟨2, (some 10), .move (.tmp 21), none, []⟩]))))))
 (.seq (.seq (.region false [⟨0, (some 62), .move (.tmp 8), none, []⟩, ⟨1, (some 63), .len (.tmp 62), none, []⟩, ⟨2, (some 64), .move (.tmp 0), none, []⟩, ⟨3, (some 65), .len (.tmp 64), none, []⟩, ⟨4, (some 66), .ibin .lss .i64 (.tmp 63) (.tmp 65), none, []⟩])
 (.cond (.tmp 66) (.seq (.region false [⟨0, (some 4), .move (.const (.slice none 0 0)), none, []⟩, ⟨1, (some 5), .move (.const (.int .i64 21)), none, []⟩])
 .ret) .skip))
 (.seq (.region false [⟨0, (some 67), .move (.tmp 8), none, []⟩, ⟨1, (some 4), .move (.tmp 67), none, []⟩, ⟨2, (some 5), .move (.const (.int .i64 0)), none, []⟩])
 .ret)))))))), [.tmp 4, .tmp 5]⟩
/- bellarmine/bellarminelaw11.same -/
def pf22 : PF := ⟨26, (.seq (.region false [⟨0, (some 4), .move (.const (.bool false)), none, []⟩])
 (.seq (.seq (.region false [⟨0, (some 6), .move (.tmp 0), none, []⟩, ⟨1, (some 7), .len (.tmp 6), none, []⟩, ⟨2, (some 8), .move (.tmp 1), none, []⟩, ⟨3, (some 9), .len (.tmp 8), none, []⟩, ⟨4, (some 10), .ibin .neq .i64 (.tmp 7) (.tmp 9), none, []⟩])
 (.cond (.tmp 10) (.seq (.region false [⟨0, (some 4), .move (.const (.bool false)), none, []⟩])
 .ret) .skip))
 (.seq (.seq (.region false [⟨0, (some 5), .move (.const (.int .i64 0)), none, []⟩])
 (.block 0 (.loop (.seq (.seq (.region false [⟨0, (some 11), .move (.tmp 5), none, []⟩, ⟨1, (some 12), .move (.tmp 0), none, []⟩, ⟨2, (some 13), .len (.tmp 12), none, []⟩, ⟨3, (some 14), .ibin .lss .i64 (.tmp 11) (.tmp 13), none, []⟩])
 (.cond (.tmp 14) .skip (.exit 0)))
 (.seq (.block 1 (.seq (.region true [⟨0, (some 17), .move (.tmp 0), none, []⟩, ⟨1, (some 18), .move (.tmp 5), none, []⟩, ⟨2, (some 19), .idxS (.tmp 17) (.tmp 18) 1, none, []⟩, ⟨3, (some 20), .load1 (.tmp 19), none, []⟩, ⟨4, (some 21), .move (.tmp 1), none, []⟩, ⟨5, (some 22), .move (.tmp 5), none, []⟩, ⟨6, (some 23), .idxS (.tmp 21) (.tmp 22) 1, none, []⟩, ⟨7, (some 24), .load1 (.tmp 23), none, []⟩, ⟨8, (some 25), .ibin .neq .i64 (.tmp 20) (.tmp 24), none, []⟩])
 (.cond (.tmp 25) (.seq (.region false [⟨0, (some 4), .move (.const (.bool false)), none, []⟩])
 .ret) .skip)))
 (.region false [⟨0, (some 15), .move (.tmp 5), none, []⟩, ⟨1, (some 16), .ibin .add .i64 (.tmp 15) (.const (.int .i64 1)), none, []⟩, ⟨2, (some 5), .move (.tmp 16), none, []⟩]))))))
 (.seq (.region false [⟨0, (some 4), .move (.const (.bool true)), none, []⟩])
 .ret)))), [.tmp 4]⟩
/- bellarmine/lock.Check -/
def pf23 : PF := ⟨30, (.seq (.region false [⟨0, (some 2), .move (.const (.int .i64 0)), none, []⟩])
 (.seq (.seq (.region false [⟨0, (some 5), .move (.tmp 0), none, []⟩, ⟨1, (some 6), .len (.tmp 5), none, []⟩, ⟨2, (some 7), .ibin .lss .i64 (.tmp 6) (.const (.int .i64 1)), none, []⟩, ⟨3, (some 8), .move (.tmp 7), none, []⟩, ⟨4, (some 9), .move (.tmp 0), (some (8, false)), []⟩, ⟨5, (some 10), .len (.tmp 9), (some (8, false)), []⟩, ⟨6, (some 11), .ibin .gtr .i64 (.tmp 10) (.const (.int .i64 7)), (some (8, false)), []⟩, ⟨7, (some 12), .pick (.tmp 8) (.const (.bool true)) (.tmp 11), none, []⟩])
 (.cond (.tmp 12) (.seq (.region false [⟨0, (some 2), .move (.const (.int .i64 1)), none, []⟩])
 .ret) .skip))
 (.seq (.seq (.region false [⟨0, (some 13), .move (.tmp 0), none, []⟩, ⟨1, (some 14), .len (.tmp 13), none, []⟩, ⟨2, (some 15), .move (.const (.int .i64 0)), none, []⟩])
 (.block 0 (.loop (.seq (.region false [⟨0, (some 16), .ibin .lss .i64 (.tmp 15) (.tmp 14), none, []⟩])
 (.seq (.cond (.tmp 16) .skip (.exit 0))
 (.seq (.block 1 (.seq (.region false [⟨0, (some 17), .move (.tmp 15), none, []⟩, ⟨1, (some 18), .idxS (.tmp 13) (.tmp 15) 1, none, []⟩, ⟨2, (some 19), .load1 (.tmp 18), none, []⟩, ⟨3, (some 3), .move (.tmp 17), none, []⟩, ⟨4, (some 4), .move (.tmp 19), none, []⟩])
 (.seq (.seq (.region false [⟨0, (some 20), .move (.tmp 0), none, []⟩, ⟨1, (some 21), .move (.tmp 4), none, []⟩, ⟨2, (some 22), .callF 67 [(.tmp 20), (.tmp 21)], none, []⟩, ⟨3, (some 23), .not (.tmp 22), none, []⟩])
 (.cond (.tmp 23) (.seq (.region false [⟨0, (some 2), .move (.const (.int .i64 2)), none, []⟩])
 .ret) .skip))
 (.seq (.region false [⟨0, (some 24), .move (.tmp 0), none, []⟩, ⟨1, (some 25), .move (.tmp 3), none, []⟩, ⟨2, (some 26), .slS (.tmp 24) 1 none (some (.tmp 25)) none, none, []⟩, ⟨3, (some 27), .move (.tmp 4), none, []⟩, ⟨4, (some 28), .callF 68 [(.tmp 26), (.tmp 27)], none, []⟩])
 (.cond (.tmp 28) (.seq (.region false [⟨0, (some 2), .move (.const (.int .i64 6)), none, []⟩])
 .ret) .skip)))))
 (.region false [⟨0, (some 29), .ibin .add .i64 (.tmp 15) (.const (.int .i64 1)), none, []⟩, ⟨1, (some 15), .move (.tmp 29), none, []⟩])))))))
 (.seq (.region false [⟨0, (some 2), .move (.const (.int .i64 0)), none, []⟩])
 .ret)))), [.tmp 2]⟩
/- bellarmine/bellarmineref11.Check -/
def pf24 : PF := ⟨32, (.seq (.region false [⟨0, (some 2), .move (.const (.int .i64 0)), none, []⟩])
 (.seq (.region false [⟨0, (some 5), .move (.tmp 0), none, []⟩, ⟨1, (some 6), .len (.tmp 5), none, []⟩, ⟨2, (some 3), .move (.tmp 6), none, []⟩])
 (.seq (.seq (.region false [⟨0, (some 7), .move (.tmp 3), none, []⟩, ⟨1, (some 8), .callF 69 [(.tmp 7), (.const (.int .i64 1)), (.const (.int .i64 7))], none, []⟩, ⟨2, (some 9), .not (.tmp 8), none, []⟩])
 (.cond (.tmp 9) (.seq (.region false [⟨0, (some 2), .move (.const (.int .i64 1)), none, []⟩])
 .ret) .skip))
 (.seq (.seq (.region false [⟨0, (some 4), .move (.const (.int .i64 0)), none, []⟩])
 (.block 0 (.loop (.seq (.seq (.region false [⟨0, (some 10), .move (.tmp 4), none, []⟩, ⟨1, (some 11), .move (.tmp 3), none, []⟩, ⟨2, (some 12), .ibin .lss .i64 (.tmp 10) (.tmp 11), none, []⟩])
 (.cond (.tmp 12) .skip (.exit 0)))
 (.seq (.block 1 (.seq (.seq (.region false [⟨0, (some 15), .move (.tmp 0), none, []⟩, ⟨1, (some 16), .move (.tmp 4), none, []⟩, ⟨2, (some 17), .idxS (.tmp 15) (.tmp 16) 1, none, []⟩, ⟨3, (some 18), .load1 (.tmp 17), none, []⟩, ⟨4, (some 19), .move (.tmp 3), none, []⟩, ⟨5, (some 20), .ibin .sub .i64 (.tmp 19) (.const (.int .i64 1)), none, []⟩, ⟨6, (some 21), .callF 69 [(.tmp 18), (.const (.int .i64 0)), (.tmp 20)], none, []⟩, ⟨7, (some 22), .not (.tmp 21), none, []⟩])
 (.cond (.tmp 22) (.seq (.region false [⟨0, (some 2), .move (.const (.int .i64 2)), none, []⟩])
 .ret) .skip))
 (.seq (.region true [⟨0, (some 23), .move (.tmp 0), none, []⟩, ⟨1, (some 24), .move (.tmp 4), none, []⟩, ⟨2, (some 25), .slS (.tmp 23) 1 none (some (.tmp 24)) none, none, []⟩, ⟨3, (some 26), .move (.tmp 0), none, []⟩, ⟨4, (some 27), .move (.tmp 4), none, []⟩, ⟨5, (some 28), .idxS (.tmp 26) (.tmp 27) 1, none, []⟩, ⟨6, (some 29), .load1 (.tmp 28), none, []⟩, ⟨7, (some 30), .callF 70 [(.tmp 25), (.tmp 29)], none, []⟩, ⟨8, (some 31), .ibin .geq .i64 (.tmp 30) (.const (.int .i64 0)), none, []⟩])
 (.cond (.tmp 31) (.seq (.region false [⟨0, (some 2), .move (.const (.int .i64 6)), none, []⟩])
 .ret) .skip))))
 (.region false [⟨0, (some 13), .move (.tmp 4), none, []⟩, ⟨1, (some 14), .ibin .add .i64 (.tmp 13) (.const (.int .i64 1)), none, []⟩, ⟨2, (some 4), .move (.tmp 14), none, []⟩]))))))
 (.seq (.region false [⟨0, (some 2), .move (.const (.int .i64 0)), none, []⟩])
 .ret))))), [.tmp 2]⟩
/- bellarmine/lock.Sorted -/
def pf25 : PF := ⟨17, (.seq (.region false [⟨0, (some 2), .move (.const (.bool false)), none, []⟩, ⟨1, (some 3), .move (.const (.int .i64 0)), none, []⟩])
 (.seq (.seq (.region false [⟨0, (some 6), .move (.tmp 0), none, []⟩, ⟨1, (some 7), .callF 23 [(.tmp 6)], none, []⟩, ⟨2, (some 4), .move (.tmp 7), none, []⟩])
 (.seq (.region false [⟨0, (some 8), .move (.tmp 4), none, []⟩, ⟨1, (some 9), .ibin .neq .i64 (.tmp 8) (.const (.int .i64 0)), none, []⟩])
 (.cond (.tmp 9) (.seq (.region false [⟨0, (some 10), .move (.tmp 4), none, []⟩, ⟨1, (some 2), .move (.const (.bool false)), none, []⟩, ⟨2, (some 3), .move (.tmp 10), none, []⟩])
 .ret) .skip)))
 (.seq (.region false [⟨0, (some 11), .move (.tmp 0), none, []⟩, ⟨1, (some 12), .len (.tmp 11), none, []⟩, ⟨2, (some 13), .mkS 3 [(.int .i64 0)] (.tmp 12) (.tmp 12), none, []⟩, ⟨3, (some 5), .move (.tmp 13), none, []⟩])
 (.seq (.region false [⟨0, (some 14), .move (.tmp 0), none, []⟩, ⟨1, (some 15), .move (.tmp 5), none, []⟩, ⟨2, (some 16), .callF 71 [(.tmp 14), (.tmp 15)], none, []⟩, ⟨3, (some 2), .move (.tmp 16), none, []⟩, ⟨4, (some 3), .move (.const (.int .i64 0)), none, []⟩])
 .ret)))), [.tmp 2, .tmp 3]⟩
/- bellarmine/bellarmineref11.Sorted -/
def pf26 : PF := ⟨23, (.seq (.region false [⟨0, (some 2), .move (.const (.bool false)), none, []⟩, ⟨1, (some 3), .move (.const (.int .i64 0)), none, []⟩])
 (.seq (.region false [⟨0, (some 9), .move (.tmp 0), none, []⟩, ⟨1, (some 10), .callF 24 [(.tmp 9)], none, []⟩, ⟨2, (some 4), .move (.tmp 10), none, []⟩])
 (.seq (.seq (.region false [⟨0, (some 11), .move (.tmp 4), none, []⟩, ⟨1, (some 12), .ibin .neq .i64 (.tmp 11) (.const (.int .i64 0)), none, []⟩])
 (.cond (.tmp 12) (.seq (.region false [⟨0, (some 13), .move (.tmp 4), none, []⟩, ⟨1, (some 2), .move (.const (.bool false)), none, []⟩, ⟨2, (some 3), .move (.tmp 13), none, []⟩])
 .ret) .skip))
 (.seq (.region false [⟨0, (some 15), .move (.tmp 0), none, []⟩, ⟨1, (some 16), .callF 72 [(.tmp 15)], none, []⟩, ⟨2, (some 14), .move (.tmp 16), none, []⟩, ⟨3, (some 17), .ext (.tmp 14) 0, none, []⟩, ⟨4, (some 18), .ext (.tmp 14) 1, none, []⟩, ⟨5, (some 19), .ext (.tmp 14) 2, none, []⟩, ⟨6, (some 20), .ext (.tmp 14) 3, none, []⟩, ⟨7, (some 5), .move (.tmp 17), none, []⟩, ⟨8, (some 6), .move (.tmp 18), none, []⟩, ⟨9, (some 7), .move (.tmp 19), none, []⟩, ⟨10, (some 8), .move (.tmp 20), none, []⟩])
 (.seq (.region false [⟨0, (some 21), .move (.tmp 8), none, []⟩, ⟨1, (some 22), .not (.tmp 21), none, []⟩, ⟨2, (some 2), .move (.tmp 22), none, []⟩, ⟨3, (some 3), .move (.const (.int .i64 0)), none, []⟩])
 .ret))))), [.tmp 2, .tmp 3]⟩
/- bellarmine/lock.Why -/
def pf27 : PF := ⟨42, (.seq (.region false [⟨0, (some 2), .move (.const (.int .i64 0)), none, []⟩, ⟨1, (some 3), .move (.const (.int .i64 0)), none, []⟩, ⟨2, (some 4), .move (.const (.int .i64 0)), none, []⟩, ⟨3, (some 5), .move (.const (.int .i64 0)), none, []⟩])
 (.seq (.seq (.region false [⟨0, (some 7), .move (.tmp 0), none, []⟩, ⟨1, (some 8), .callF 23 [(.tmp 7)], none, []⟩, ⟨2, (some 6), .move (.tmp 8), none, []⟩])
 (.seq (.region false [⟨0, (some 9), .move (.tmp 6), none, []⟩, ⟨1, (some 10), .ibin .neq .i64 (.tmp 9) (.const (.int .i64 0)), none, []⟩])
 (.cond (.tmp 10) (.seq (.region false [⟨0, (some 11), .move (.tmp 6), none, []⟩, ⟨1, (some 2), .move (.const (.int .i64 0)), none, []⟩, ⟨2, (some 3), .move (.const (.int .i64 0)), none, []⟩, ⟨3, (some 4), .move (.const (.int .i64 0)), none, []⟩, ⟨4, (some 5), .move (.tmp 11), none, []⟩])
 .ret) .skip)))
 (.seq (.seq (.region false [⟨0, (some 12), .move (.tmp 0), none, []⟩, ⟨1, (some 13), .len (.tmp 12), none, []⟩, ⟨2, (some 14), .move (.const (.int .i64 0)), none, []⟩])
 (.block 0 (.loop (.seq (.region false [⟨0, (some 15), .ibin .lss .i64 (.tmp 14) (.tmp 13), none, []⟩])
 (.seq (.cond (.tmp 15) .skip (.exit 0))
 (.seq (.block 1 (.seq (.region false [⟨0, (some 16), .move (.tmp 14), none, []⟩, ⟨1, (some 2), .move (.tmp 16), none, []⟩])
 (.seq (.region false [⟨0, (some 17), .move (.tmp 2), none, []⟩, ⟨1, (some 18), .ibin .add .i64 (.tmp 17) (.const (.int .i64 1)), none, []⟩, ⟨2, (some 3), .move (.tmp 18), none, []⟩])
 (.block 2 (.loop (.seq (.seq (.region false [⟨0, (some 19), .move (.tmp 3), none, []⟩, ⟨1, (some 20), .move (.tmp 0), none, []⟩, ⟨2, (some 21), .len (.tmp 20), none, []⟩, ⟨3, (some 22), .ibin .lss .i64 (.tmp 19) (.tmp 21), none, []⟩])
 (.cond (.tmp 22) .skip (.exit 2)))
 (.seq (.block 3 (.seq (.region false [⟨0, (some 25), .move (.tmp 3), none, []⟩, ⟨1, (some 26), .ibin .add .i64 (.tmp 25) (.const (.int .i64 1)), none, []⟩, ⟨2, (some 4), .move (.tmp 26), none, []⟩])
 (.block 4 (.loop (.seq (.seq (.region false [⟨0, (some 27), .move (.tmp 4), none, []⟩, ⟨1, (some 28), .move (.tmp 0), none, []⟩, ⟨2, (some 29), .len (.tmp 28), none, []⟩, ⟨3, (some 30), .ibin .lss .i64 (.tmp 27) (.tmp 29), none, []⟩])
 (.cond (.tmp 30) .skip (.exit 4)))
 (.seq (.block 5 (.seq (.region false [⟨0, (some 33), .move (.tmp 0), none, []⟩, ⟨1, (some 34), .move (.tmp 2), none, []⟩, ⟨2, (some 35), .move (.tmp 3), none, []⟩, ⟨3, (some 36), .move (.tmp 4), none, []⟩, ⟨4, (some 37), .callF 73 [(.tmp 33), (.tmp 34), (.tmp 35), (.tmp 36)], none, []⟩])
 (.cond (.tmp 37) (.seq (.region false [⟨0, (some 38), .move (.tmp 2), none, []⟩, ⟨1, (some 39), .move (.tmp 3), none, []⟩, ⟨2, (some 40), .move (.tmp 4), none, []⟩, ⟨3, (some 2), .move (.tmp 38), none, []⟩, ⟨4, (some 3), .move (.tmp 39), none, []⟩, ⟨5, (some 4), .move (.tmp 40), none, []⟩, ⟨6, (some 5), .move (.const (.int .i64 0)), none, []⟩])
 .ret) .skip)))
 (.region false [⟨0, (some 31), .move (.tmp 4), none, []⟩, ⟨1, (some 32), .ibin .add .i64 (.tmp 31) (.const (.int .i64 1)), none, []⟩, ⟨2, (some 4), .move (.tmp 32), none, []⟩])))))))
 (.region false [⟨0, (some 23), .move (.tmp 3), none, []⟩, ⟨1, (some 24), .ibin .add .i64 (.tmp 23) (.const (.int .i64 1)), none, []⟩, ⟨2, (some 3), .move (.tmp 24), none, []⟩]))))))))
 (.region false [⟨0, (some 41), .ibin .add .i64 (.tmp 14) (.const (.int .i64 1)), none, []⟩, ⟨1, (some 14), .move (.tmp 41), none, []⟩])))))))
 (.seq (.region false [⟨0, (some 2), .move (.const (.int .i64 0)), none, []⟩, ⟨1, (some 3), .move (.const (.int .i64 0)), none, []⟩, ⟨2, (some 4), .move (.const (.int .i64 0)), none, []⟩, ⟨3, (some 5), .move (.const (.int .i64 13)), none, []⟩])
 .ret)))), [.tmp 2, .tmp 3, .tmp 4, .tmp 5]⟩
/- bellarmine/bellarmineref11.Why -/
def pf28 : PF := ⟨28, (.seq (.region false [⟨0, (some 2), .move (.const (.int .i64 0)), none, []⟩, ⟨1, (some 3), .move (.const (.int .i64 0)), none, []⟩, ⟨2, (some 4), .move (.const (.int .i64 0)), none, []⟩, ⟨3, (some 5), .move (.const (.int .i64 0)), none, []⟩])
 (.seq (.region false [⟨0, (some 11), .move (.tmp 0), none, []⟩, ⟨1, (some 12), .callF 24 [(.tmp 11)], none, []⟩, ⟨2, (some 6), .move (.tmp 12), none, []⟩])
 (.seq (.seq (.region false [⟨0, (some 13), .move (.tmp 6), none, []⟩, ⟨1, (some 14), .ibin .neq .i64 (.tmp 13) (.const (.int .i64 0)), none, []⟩])
 (.cond (.tmp 14) (.seq (.region false [⟨0, (some 15), .move (.tmp 6), none, []⟩, ⟨1, (some 2), .move (.const (.int .i64 0)), none, []⟩, ⟨2, (some 3), .move (.const (.int .i64 0)), none, []⟩, ⟨3, (some 4), .move (.const (.int .i64 0)), none, []⟩, ⟨4, (some 5), .move (.tmp 15), none, []⟩])
 .ret) .skip))
 (.seq (.region false [⟨0, (some 17), .move (.tmp 0), none, []⟩, ⟨1, (some 18), .callF 72 [(.tmp 17)], none, []⟩, ⟨2, (some 16), .move (.tmp 18), none, []⟩, ⟨3, (some 19), .ext (.tmp 16) 0, none, []⟩, ⟨4, (some 20), .ext (.tmp 16) 1, none, []⟩, ⟨5, (some 21), .ext (.tmp 16) 2, none, []⟩, ⟨6, (some 22), .ext (.tmp 16) 3, none, []⟩, ⟨7, (some 7), .move (.tmp 19), none, []⟩, ⟨8, (some 8), .move (.tmp 20), none, []⟩, ⟨9, (some 9), .move (.tmp 21), none, []⟩, ⟨10, (some 10), .move (.tmp 22), none, []⟩])
 (.seq (.seq (.region false [⟨0, (some 23), .move (.tmp 10), none, []⟩, ⟨1, (some 24), .not (.tmp 23), none, []⟩])
 (.cond (.tmp 24) (.seq (.region false [⟨0, (some 2), .move (.const (.int .i64 0)), none, []⟩, ⟨1, (some 3), .move (.const (.int .i64 0)), none, []⟩, ⟨2, (some 4), .move (.const (.int .i64 0)), none, []⟩, ⟨3, (some 5), .move (.const (.int .i64 13)), none, []⟩])
 .ret) .skip))
 (.seq (.region false [⟨0, (some 25), .move (.tmp 7), none, []⟩, ⟨1, (some 26), .move (.tmp 8), none, []⟩, ⟨2, (some 27), .move (.tmp 9), none, []⟩, ⟨3, (some 2), .move (.tmp 25), none, []⟩, ⟨4, (some 3), .move (.tmp 26), none, []⟩, ⟨5, (some 4), .move (.tmp 27), none, []⟩, ⟨6, (some 5), .move (.const (.int .i64 0)), none, []⟩])
 .ret)))))), [.tmp 2, .tmp 3, .tmp 4, .tmp 5]⟩
/- bellarmine/lock.Passes -/
def pf29 : PF := ⟨12, (.seq (.region false [⟨0, (some 2), .move (.const (.int .i64 0)), none, []⟩, ⟨1, (some 3), .move (.const (.int .i64 0)), none, []⟩])
 (.seq (.seq (.region false [⟨0, (some 5), .move (.tmp 0), none, []⟩, ⟨1, (some 6), .callF 23 [(.tmp 5)], none, []⟩, ⟨2, (some 4), .move (.tmp 6), none, []⟩])
 (.seq (.region false [⟨0, (some 7), .move (.tmp 4), none, []⟩, ⟨1, (some 8), .ibin .neq .i64 (.tmp 7) (.const (.int .i64 0)), none, []⟩])
 (.cond (.tmp 8) (.seq (.region false [⟨0, (some 9), .move (.tmp 4), none, []⟩, ⟨1, (some 2), .move (.const (.int .i64 0)), none, []⟩, ⟨2, (some 3), .move (.tmp 9), none, []⟩])
 .ret) .skip)))
 (.seq (.region false [⟨0, (some 10), .move (.tmp 0), none, []⟩, ⟨1, (some 11), .callF 74 [(.tmp 10)], none, []⟩, ⟨2, (some 2), .move (.tmp 11), none, []⟩, ⟨3, (some 3), .move (.const (.int .i64 0)), none, []⟩])
 .ret))), [.tmp 2, .tmp 3]⟩
/- bellarmine/bellarmineref11.Passes -/
def pf30 : PF := ⟨12, (.seq (.region false [⟨0, (some 2), .move (.const (.int .i64 0)), none, []⟩, ⟨1, (some 3), .move (.const (.int .i64 0)), none, []⟩])
 (.seq (.region false [⟨0, (some 5), .move (.tmp 0), none, []⟩, ⟨1, (some 6), .callF 24 [(.tmp 5)], none, []⟩, ⟨2, (some 4), .move (.tmp 6), none, []⟩])
 (.seq (.seq (.region false [⟨0, (some 7), .move (.tmp 4), none, []⟩, ⟨1, (some 8), .ibin .neq .i64 (.tmp 7) (.const (.int .i64 0)), none, []⟩])
 (.cond (.tmp 8) (.seq (.region false [⟨0, (some 9), .move (.tmp 4), none, []⟩, ⟨1, (some 2), .move (.const (.int .i64 0)), none, []⟩, ⟨2, (some 3), .move (.tmp 9), none, []⟩])
 .ret) .skip))
 (.seq (.region false [⟨0, (some 10), .move (.tmp 0), none, []⟩, ⟨1, (some 11), .callF 75 [(.tmp 10)], none, []⟩, ⟨2, (some 2), .move (.tmp 11), none, []⟩, ⟨3, (some 3), .move (.const (.int .i64 0)), none, []⟩])
 .ret)))), [.tmp 2, .tmp 3]⟩
/- bellarmine/lock.Proves -/
def pf31 : PF := ⟨45, (.seq (.region false [⟨0, (some 8), .move (.const (.int .i64 0)), none, []⟩])
 (.seq (.seq (.region false [⟨0, (some 10), .move (.tmp 0), none, []⟩, ⟨1, (some 11), .callF 23 [(.tmp 10)], none, []⟩, ⟨2, (some 9), .move (.tmp 11), none, []⟩])
 (.seq (.region false [⟨0, (some 12), .move (.tmp 9), none, []⟩, ⟨1, (some 13), .ibin .neq .i64 (.tmp 12) (.const (.int .i64 0)), none, []⟩])
 (.cond (.tmp 13) (.seq (.region false [⟨0, (some 14), .move (.tmp 9), none, []⟩, ⟨1, (some 8), .move (.tmp 14), none, []⟩])
 .ret) .skip)))
 (.seq (.seq (.region false [⟨0, (some 15), .move (.tmp 0), none, []⟩, ⟨1, (some 16), .move (.tmp 1), none, []⟩, ⟨2, (some 17), .callF 67 [(.tmp 15), (.tmp 16)], none, []⟩, ⟨3, (some 18), .not (.tmp 17), none, []⟩, ⟨4, (some 19), .move (.tmp 18), none, []⟩, ⟨5, (some 20), .move (.tmp 0), (some (19, false)), []⟩, ⟨6, (some 21), .move (.tmp 2), (some (19, false)), []⟩, ⟨7, (some 22), .callF 67 [(.tmp 20), (.tmp 21)], (some (19, false)), []⟩, ⟨8, (some 23), .not (.tmp 22), (some (19, false)), []⟩, ⟨9, (some 24), .pick (.tmp 19) (.const (.bool true)) (.tmp 23), none, []⟩, ⟨10, (some 25), .move (.tmp 24), none, []⟩, ⟨11, (some 26), .move (.tmp 0), (some (25, false)), []⟩, ⟨12, (some 27), .move (.tmp 3), (some (25, false)), []⟩, ⟨13, (some 28), .callF 67 [(.tmp 26), (.tmp 27)], (some (25, false)), []⟩, ⟨14, (some 29), .not (.tmp 28), (some (25, false)), []⟩, ⟨15, (some 30), .pick (.tmp 25) (.const (.bool true)) (.tmp 29), none, []⟩])
 (.cond (.tmp 30) (.seq (.region false [⟨0, (some 8), .move (.const (.int .i64 2)), none, []⟩])
 .ret) .skip))
 (.seq (.seq (.region false [⟨0, (some 31), .move (.tmp 1), none, []⟩, ⟨1, (some 32), .move (.tmp 2), none, []⟩, ⟨2, (some 33), .ibin .geq .i64 (.tmp 31) (.tmp 32), none, []⟩, ⟨3, (some 34), .move (.tmp 33), none, []⟩, ⟨4, (some 35), .move (.tmp 2), (some (34, false)), []⟩, ⟨5, (some 36), .move (.tmp 3), (some (34, false)), []⟩, ⟨6, (some 37), .ibin .geq .i64 (.tmp 35) (.tmp 36), (some (34, false)), []⟩, ⟨7, (some 38), .pick (.tmp 34) (.const (.bool true)) (.tmp 37), none, []⟩])
 (.cond (.tmp 38) (.seq (.region false [⟨0, (some 8), .move (.const (.int .i64 7)), none, []⟩])
 .ret) .skip))
 (.seq (.seq (.region false [⟨0, (some 39), .move (.tmp 0), none, []⟩, ⟨1, (some 40), .move (.tmp 1), none, []⟩, ⟨2, (some 41), .move (.tmp 2), none, []⟩, ⟨3, (some 42), .move (.tmp 3), none, []⟩, ⟨4, (some 43), .callF 73 [(.tmp 39), (.tmp 40), (.tmp 41), (.tmp 42)], none, []⟩, ⟨5, (some 44), .not (.tmp 43), none, []⟩])
 (.cond (.tmp 44) (.seq (.region false [⟨0, (some 8), .move (.const (.int .i64 14)), none, []⟩])
 .ret) .skip))
 (.seq (.region false [⟨0, (some 8), .move (.const (.int .i64 0)), none, []⟩])
 .ret)))))), [.tmp 8]⟩
/- bellarmine/lock.Two -/
def pf39 : PF := ⟨19, (.seq (.region false [⟨0, (some 1), .box 22 (.tmp 0), none, []⟩, ⟨1, (some 2), .new 22 [(.slice none 0 0)], none, []⟩, ⟨2, (some 3), .new 24 [(.int .i64 0)], none, []⟩])
 (.seq (.seq (.region false [⟨0, (some 6), .load1 (.tmp 1), none, []⟩, ⟨1, (some 7), .callF 23 [(.tmp 6)], none, []⟩, ⟨2, (some 4), .move (.tmp 7), none, []⟩])
 (.seq (.region false [⟨0, (some 8), .move (.tmp 4), none, []⟩, ⟨1, (some 9), .ibin .neq .i64 (.tmp 8) (.const (.int .i64 0)), none, []⟩])
 (.cond (.tmp 9) (.seq (.region false [⟨0, (some 10), .move (.tmp 4), none, []⟩, ⟨1, none, .store (.tmp 2) (.const (.slice none 0 0)) 1, none, []⟩, ⟨2, none, .store (.tmp 3) (.tmp 10) 1, none, []⟩])
 .ret) .skip)))
 (.seq (.seq (.region false [⟨0, (some 11), .load1 (.tmp 1), none, []⟩, ⟨1, (some 12), .len (.tmp 11), none, []⟩, ⟨2, (some 13), .callF 77 [(.tmp 12), (.const (.int .i64 2)), (.func 85)], none, []⟩])
 (.block 0 (.rangeFunc (.tmp 13) [14] (.region false [⟨0, (some 5), .move (.tmp 14), none, []⟩]) (.block 1 (.seq (.region false [⟨0, (some 15), .load1 (.tmp 1), none, []⟩, ⟨1, (some 16), .move (.tmp 5), none, []⟩, ⟨2, (some 17), .callF 71 [(.tmp 15), (.tmp 16)], none, []⟩])
 (.cond (.tmp 17) (.seq (.region false [⟨0, (some 18), .move (.tmp 5), none, []⟩, ⟨1, none, .store (.tmp 2) (.tmp 18) 1, none, []⟩, ⟨2, none, .store (.tmp 3) (.const (.int .i64 0)) 1, none, []⟩])
 .ret) .skip))))))
 (.seq (.region false [⟨0, none, .store (.tmp 2) (.const (.slice none 0 0)) 1, none, []⟩, ⟨1, none, .store (.tmp 3) (.const (.int .i64 12)) 1, none, []⟩])
 .ret)))), [.cell 2 none, .cell 3 none]⟩
/- (bellarmine/bellarminelaw11.Train).made -/
def pf42 : PF := ⟨52, (.seq (.region false [⟨0, (some 2), .box 50 (.tmp 0), none, []⟩, ⟨1, (some 4), .move (.const (.slice none 0 0)), none, []⟩])
 (.seq (.region false [⟨0, (some 11), .fieldAddr (.tmp 2) 0, none, []⟩, ⟨1, (some 12), .load1 (.tmp 11), none, []⟩, ⟨2, (some 13), .plain ⟨(some 13), .convert 5 3 (.tmp 12), 3, (String.ofList [Char.ofNat 111, Char.ofNat 117, Char.ofNat 116, Char.ofNat 114, Char.ofNat 105, Char.ofNat 103, Char.ofNat 104, Char.ofNat 116, Char.ofNat 46, Char.ofNat 103, Char.ofNat 111, Char.ofNat 58, Char.ofNat 50, Char.ofNat 48]), #[⟨1, .data⟩], none⟩, none, []⟩, ⟨3, (some 14), .move (.tmp 1), none, []⟩, ⟨4, (some 15), .ibin .rem .i64 (.tmp 13) (.tmp 14), none, []⟩, ⟨5, (some 16), .ibin .add .i64 (.const (.int .i64 1)) (.tmp 15), none, []⟩, ⟨6, (some 5), .move (.tmp 16), none, []⟩])
 (.seq (.region false [⟨0, (some 6), .move (.const (.slice none 0 0)), none, []⟩, ⟨1, (some 7), .move (.const (.slice none 0 0)), none, []⟩])
 (.seq (.seq (.region false [⟨0, (some 17), .move (.tmp 5), none, []⟩, ⟨1, (some 18), .move (.const (.int .i64 0)), none, []⟩])
 (.block 0 (.loop (.seq (.region false [⟨0, (some 19), .ibin .lss .i64 (.tmp 18) (.tmp 17), none, []⟩])
 (.seq (.cond (.tmp 19) .skip (.exit 0))
 (.seq (.block 1 (.seq (.region false [⟨0, (some 20), .move (.tmp 18), none, []⟩, ⟨1, (some 8), .move (.tmp 20), none, []⟩])
 (.region false [⟨0, (some 21), .move (.tmp 6), none, []⟩, ⟨1, (some 22), .move (.tmp 8), none, []⟩, ⟨2, (some 23), .bldS 3 1 [(.int .i64 0)] 1 [(0, (.tmp 22))], none, []⟩, ⟨3, (some 24), .append 3 1 (.tmp 21) (.tmp 23), none, []⟩, ⟨4, (some 6), .move (.tmp 24), none, []⟩])))
 (.region false [⟨0, (some 25), .ibin .add .i64 (.tmp 18) (.const (.int .i64 1)), none, []⟩, ⟨1, (some 18), .move (.tmp 25), none, []⟩])))))))
 (.seq (.seq (.region false [⟨0, (some 26), .move (.tmp 5), none, []⟩, ⟨1, (some 27), .move (.const (.int .i64 0)), none, []⟩])
 (.block 2 (.loop (.seq (.region false [⟨0, (some 28), .ibin .lss .i64 (.tmp 27) (.tmp 26), none, []⟩])
 (.seq (.cond (.tmp 28) .skip (.exit 2))
 (.seq (.block 3 (.seq (.region false [⟨0, (some 29), .move (.tmp 27), none, []⟩, ⟨1, (some 9), .move (.tmp 29), none, []⟩])
 (.seq (.region false [⟨0, (some 30), .move (.tmp 9), none, []⟩, ⟨1, (some 31), .fieldAddr (.tmp 2) 1, none, []⟩, ⟨2, (some 32), .idxA (.tmp 31) (.tmp 30) 7 1, none, []⟩, ⟨3, (some 33), .load1 (.tmp 32), none, []⟩, ⟨4, (some 34), .plain ⟨(some 34), .convert 5 3 (.tmp 33), 3, (String.ofList [Char.ofNat 111, Char.ofNat 117, Char.ofNat 116, Char.ofNat 114, Char.ofNat 105, Char.ofNat 103, Char.ofNat 104, Char.ofNat 116, Char.ofNat 46, Char.ofNat 103, Char.ofNat 111, Char.ofNat 58, Char.ofNat 50, Char.ofNat 54]), #[⟨3, .data⟩], none⟩, none, []⟩, ⟨5, (some 35), .move (.tmp 6), none, []⟩, ⟨6, (some 36), .len (.tmp 35), none, []⟩, ⟨7, (some 37), .ibin .rem .i64 (.tmp 34) (.tmp 36), none, []⟩, ⟨8, (some 10), .move (.tmp 37), none, []⟩])
 (.seq (.region false [⟨0, (some 38), .move (.tmp 7), none, []⟩, ⟨1, (some 39), .move (.tmp 6), none, []⟩, ⟨2, (some 40), .move (.tmp 10), none, []⟩, ⟨3, (some 41), .idxS (.tmp 39) (.tmp 40) 1, none, []⟩, ⟨4, (some 42), .load1 (.tmp 41), none, []⟩, ⟨5, (some 43), .bldS 3 1 [(.int .i64 0)] 1 [(0, (.tmp 42))], none, []⟩, ⟨6, (some 44), .append 3 1 (.tmp 38) (.tmp 43), none, []⟩, ⟨7, (some 7), .move (.tmp 44), none, []⟩])
 (.region false [⟨0, (some 45), .move (.tmp 6), none, []⟩, ⟨1, (some 46), .move (.tmp 10), none, []⟩, ⟨2, (some 47), .move (.tmp 10), none, []⟩, ⟨3, (some 48), .ibin .add .i64 (.tmp 47) (.const (.int .i64 1)), none, []⟩, ⟨4, (some 49), .callF 87 [(.tmp 45), (.tmp 46), (.tmp 48)], none, []⟩, ⟨5, (some 6), .move (.tmp 49), none, []⟩])))))
 (.region false [⟨0, (some 50), .ibin .add .i64 (.tmp 27) (.const (.int .i64 1)), none, []⟩, ⟨1, (some 27), .move (.tmp 50), none, []⟩])))))))
 (.seq (.region false [⟨0, (some 51), .move (.tmp 7), none, []⟩, ⟨1, (some 4), .move (.tmp 51), none, []⟩])
 .ret)))))), [.tmp 4]⟩
/- slices.IsSorted[[]int,int] -/
def pf45 : PF := ⟨21, (.seq (.region false [⟨0, (some 2), .move (.const (.bool false)), none, []⟩])
 (.seq (.seq (.region false [⟨0, (some 4), .move (.tmp 0), none, []⟩, ⟨1, (some 5), .len (.tmp 4), none, []⟩, ⟨2, (some 6), .ibin .sub .i64 (.tmp 5) (.const (.int .i64 1)), none, []⟩, ⟨3, (some 3), .move (.tmp 6), none, []⟩])
 (.block 0 (.loop (.seq (.seq (.region false [⟨0, (some 7), .move (.tmp 3), none, []⟩, ⟨1, (some 8), .ibin .gtr .i64 (.tmp 7) (.const (.int .i64 0)), none, []⟩])
 (.cond (.tmp 8) .skip (.exit 0)))
 (.seq (.block 1 (.seq (.region true [⟨0, (some 11), .move (.tmp 0), none, []⟩, ⟨1, (some 12), .move (.tmp 3), none, []⟩, ⟨2, (some 13), .idxS (.tmp 11) (.tmp 12) 1, none, []⟩, ⟨3, (some 14), .load1 (.tmp 13), none, []⟩, ⟨4, (some 15), .move (.tmp 0), none, []⟩, ⟨5, (some 16), .move (.tmp 3), none, []⟩, ⟨6, (some 17), .ibin .sub .i64 (.tmp 16) (.const (.int .i64 1)), none, []⟩, ⟨7, (some 18), .idxS (.tmp 15) (.tmp 17) 1, none, []⟩, ⟨8, (some 19), .load1 (.tmp 18), none, []⟩, ⟨9, (some 20), .callF 89 [(.tmp 14), (.tmp 19)], none, []⟩])
 (.cond (.tmp 20) (.seq (.region false [⟨0, (some 2), .move (.const (.bool false)), none, []⟩])
 .ret) .skip)))
 (.region false [⟨0, (some 9), .move (.tmp 3), none, []⟩, ⟨1, (some 10), .ibin .sub .i64 (.tmp 9) (.const (.int .i64 1)), none, []⟩, ⟨2, (some 3), .move (.tmp 10), none, []⟩]))))))
 (.seq (.region false [⟨0, (some 2), .move (.const (.bool true)), none, []⟩])
 .ret))), [.tmp 2]⟩
/- bellarmine/bellarminelaw11.bars -/
def pf46 : PF := ⟨29, (.seq (.region false [⟨0, (some 8), .move (.const (.bool false)), none, []⟩])
 (.seq (.region true [⟨0, (some 9), .move (.tmp 0), none, []⟩, ⟨1, (some 10), .move (.tmp 3), none, []⟩, ⟨2, (some 11), .idxS (.tmp 9) (.tmp 10) 1, none, []⟩, ⟨3, (some 12), .load1 (.tmp 11), none, []⟩, ⟨4, (some 13), .move (.tmp 0), none, []⟩, ⟨5, (some 14), .move (.tmp 1), none, []⟩, ⟨6, (some 15), .idxS (.tmp 13) (.tmp 14) 1, none, []⟩, ⟨7, (some 16), .load1 (.tmp 15), none, []⟩, ⟨8, (some 17), .ibin .lss .i64 (.tmp 12) (.tmp 16), none, []⟩, ⟨9, (some 18), .move (.tmp 17), none, []⟩, ⟨10, (some 19), .move (.tmp 0), (some (18, true)), []⟩, ⟨11, (some 20), .move (.tmp 1), (some (18, true)), []⟩, ⟨12, (some 21), .idxS (.tmp 19) (.tmp 20) 1, (some (18, true)), []⟩, ⟨13, (some 22), .load1 (.tmp 21), (some (18, true)), []⟩, ⟨14, (some 23), .move (.tmp 0), (some (18, true)), []⟩, ⟨15, (some 24), .move (.tmp 2), (some (18, true)), []⟩, ⟨16, (some 25), .idxS (.tmp 23) (.tmp 24) 1, (some (18, true)), []⟩, ⟨17, (some 26), .load1 (.tmp 25), (some (18, true)), []⟩, ⟨18, (some 27), .ibin .lss .i64 (.tmp 22) (.tmp 26), (some (18, true)), []⟩, ⟨19, (some 28), .pick (.tmp 18) (.tmp 27) (.const (.bool false)), none, []⟩, ⟨20, (some 8), .move (.tmp 28), none, []⟩])
 .ret)), [.tmp 8]⟩
/- bellarmine/bellarminelaw11.pass -/
def pf47 : PF := ⟨27, (.seq (.region false [⟨0, (some 2), .move (.const (.slice none 0 0)), none, []⟩])
 (.seq (.seq (.region false [⟨0, (some 4), .move (.tmp 0), none, []⟩, ⟨1, (some 5), .len (.tmp 4), none, []⟩, ⟨2, (some 6), .ibin .eql .i64 (.tmp 5) (.const (.int .i64 0)), none, []⟩])
 (.cond (.tmp 6) (.seq (.region false [⟨0, (some 2), .move (.const (.slice none 0 0)), none, []⟩])
 .ret) .skip))
 (.seq (.region false [⟨0, (some 7), .move (.tmp 0), none, []⟩, ⟨1, (some 8), .move (.tmp 0), none, []⟩, ⟨2, (some 9), .callF 90 [(.tmp 8)], none, []⟩, ⟨3, (some 10), .callF 52 [(.tmp 7), (.tmp 9)], none, []⟩, ⟨4, (some 3), .move (.tmp 10), none, []⟩])
 (.seq (.region true [⟨0, (some 11), .move (.tmp 0), none, []⟩, ⟨1, (some 12), .move (.tmp 3), none, []⟩, ⟨2, (some 13), .slS (.tmp 11) 1 none (some (.tmp 12)) none, none, []⟩, ⟨4, (some 15), .move (.tmp 0), none, []⟩, ⟨5, (some 16), .move (.tmp 3), none, []⟩, ⟨6, (some 17), .ibin .add .i64 (.tmp 16) (.const (.int .i64 1)), none, []⟩, ⟨7, (some 18), .slS (.tmp 15) 1 (some (.tmp 17)) none none, none, []⟩, ⟨10, (some 21), .move (.tmp 0), none, []⟩, ⟨11, (some 22), .move (.tmp 3), none, []⟩, ⟨12, (some 23), .idxS (.tmp 21) (.tmp 22) 1, none, []⟩, ⟨13, (some 24), .load1 (.tmp 23), none, []⟩, ⟨3, (some 14), .callF 47 [(.tmp 13)], none, [13]⟩, ⟨8, (some 19), .callF 47 [(.tmp 18)], none, [13]⟩, ⟨9, (some 20), .append 3 1 (.tmp 14) (.tmp 19), none, [13]⟩, ⟨14, (some 25), .bldS 3 1 [(.int .i64 0)] 1 [(0, (.tmp 24))], none, []⟩, ⟨15, (some 26), .append 3 1 (.tmp 20) (.tmp 25), none, []⟩, ⟨16, (some 2), .move (.tmp 26), none, []⟩])
 .ret)))), [.tmp 2]⟩
/- bellarmine/bellarminelaw11.run -/
def pf48 : PF := ⟨67, (.seq (.region false [⟨0, (some 4), .move (.const (.slice none 0 0)), none, []⟩, ⟨1, (some 5), .move (.const (.bool false)), none, []⟩])
 (.seq (.region false [⟨0, (some 6), .move (.const (.slice none 0 0)), none, []⟩, ⟨1, (some 7), .move (.const (.slice none 0 0)), none, []⟩])
 (.seq (.seq (.region false [⟨0, (some 9), .move (.tmp 1), none, []⟩, ⟨1, (some 10), .plain ⟨(some 10), .call ⟨.builtin .len, #[(.tmp 9)], #[9]⟩, 3, (String.ofList [Char.ofNat 111, Char.ofNat 117, Char.ofNat 116, Char.ofNat 114, Char.ofNat 105, Char.ofNat 103, Char.ofNat 104, Char.ofNat 116, Char.ofNat 46, Char.ofNat 103, Char.ofNat 111, Char.ofNat 58, Char.ofNat 53, Char.ofNat 51]), #[⟨0, .data⟩], none⟩, none, []⟩, ⟨2, (some 11), .move (.const (.int .i64 0)), none, []⟩])
 (.block 0 (.loop (.seq (.region false [⟨0, (some 12), .ibin .lss .i64 (.tmp 11) (.tmp 10), none, []⟩])
 (.seq (.cond (.tmp 12) .skip (.exit 0))
 (.seq (.block 1 (.seq (.region false [⟨0, (some 13), .move (.tmp 11), none, []⟩, ⟨1, (some 8), .move (.tmp 13), none, []⟩])
 (.seq (.seq (.region false [⟨0, (some 14), .move (.tmp 1), none, []⟩, ⟨1, (some 15), .move (.tmp 8), none, []⟩, ⟨2, (some 16), .plain ⟨(some 16), .index 9 (.tmp 14) (.tmp 15), 5, (String.ofList [Char.ofNat 111, Char.ofNat 117, Char.ofNat 116, Char.ofNat 114, Char.ofNat 105, Char.ofNat 103, Char.ofNat 104, Char.ofNat 116, Char.ofNat 46, Char.ofNat 103, Char.ofNat 111, Char.ofNat 58, Char.ofNat 53, Char.ofNat 52]), #[⟨0, .data⟩, ⟨1, .data⟩], none⟩, none, []⟩, ⟨3, (some 17), .ibin .eql .u8 (.tmp 16) (.const (.int .u8 105)), none, []⟩])
 (.cond (.tmp 17) (.seq (.seq (.region false [⟨0, (some 18), .move (.tmp 6), none, []⟩, ⟨1, (some 19), .len (.tmp 18), none, []⟩, ⟨2, (some 20), .move (.tmp 7), none, []⟩, ⟨3, (some 21), .len (.tmp 20), none, []⟩, ⟨4, (some 22), .ibin .add .i64 (.tmp 19) (.tmp 21), none, []⟩, ⟨5, (some 23), .move (.tmp 0), none, []⟩, ⟨6, (some 24), .len (.tmp 23), none, []⟩, ⟨7, (some 25), .ibin .eql .i64 (.tmp 22) (.tmp 24), none, []⟩])
 (.cond (.tmp 25) (.seq (.region false [⟨0, (some 4), .move (.const (.slice none 0 0)), none, []⟩, ⟨1, (some 5), .move (.const (.bool false)), none, []⟩])
 .ret) .skip))
 (.seq (.region false [⟨0, (some 26), .move (.tmp 6), none, []⟩, ⟨1, (some 27), .move (.tmp 0), none, []⟩, ⟨2, (some 28), .move (.tmp 6), none, []⟩, ⟨3, (some 29), .len (.tmp 28), none, []⟩, ⟨4, (some 30), .move (.tmp 7), none, []⟩, ⟨5, (some 31), .len (.tmp 30), none, []⟩, ⟨6, (some 32), .ibin .add .i64 (.tmp 29) (.tmp 31), none, []⟩, ⟨7, (some 33), .idxS (.tmp 27) (.tmp 32) 1, none, []⟩, ⟨8, (some 34), .load1 (.tmp 33), none, []⟩, ⟨9, (some 35), .bldS 3 1 [(.int .i64 0)] 1 [(0, (.tmp 34))], none, []⟩, ⟨10, (some 36), .append 3 1 (.tmp 26) (.tmp 35), none, []⟩, ⟨11, (some 6), .move (.tmp 36), none, []⟩])
 (.exit 1))) .skip))
 (.seq (.seq (.region false [⟨0, (some 37), .move (.tmp 1), none, []⟩, ⟨1, (some 38), .move (.tmp 8), none, []⟩, ⟨2, (some 39), .plain ⟨(some 39), .index 9 (.tmp 37) (.tmp 38), 5, (String.ofList [Char.ofNat 111, Char.ofNat 117, Char.ofNat 116, Char.ofNat 114, Char.ofNat 105, Char.ofNat 103, Char.ofNat 104, Char.ofNat 116, Char.ofNat 46, Char.ofNat 103, Char.ofNat 111, Char.ofNat 58, Char.ofNat 54, Char.ofNat 49]), #[⟨0, .data⟩, ⟨1, .data⟩], none⟩, none, []⟩, ⟨3, (some 40), .ibin .neq .u8 (.tmp 39) (.const (.int .u8 111)), none, []⟩, ⟨4, (some 41), .move (.tmp 40), none, []⟩, ⟨5, (some 42), .move (.tmp 6), (some (41, false)), []⟩, ⟨6, (some 43), .len (.tmp 42), (some (41, false)), []⟩, ⟨7, (some 44), .ibin .eql .i64 (.tmp 43) (.const (.int .i64 0)), (some (41, false)), []⟩, ⟨8, (some 45), .pick (.tmp 41) (.const (.bool true)) (.tmp 44), none, []⟩])
 (.cond (.tmp 45) (.seq (.region false [⟨0, (some 4), .move (.const (.slice none 0 0)), none, []⟩, ⟨1, (some 5), .move (.const (.bool false)), none, []⟩])
 .ret) .skip))
 (.seq (.region false [⟨0, (some 46), .move (.tmp 7), none, []⟩, ⟨1, (some 47), .move (.tmp 6), none, []⟩, ⟨2, (some 48), .move (.tmp 6), none, []⟩, ⟨3, (some 49), .len (.tmp 48), none, []⟩, ⟨4, (some 50), .ibin .sub .i64 (.tmp 49) (.const (.int .i64 1)), none, []⟩, ⟨5, (some 51), .idxS (.tmp 47) (.tmp 50) 1, none, []⟩, ⟨6, (some 52), .load1 (.tmp 51), none, []⟩, ⟨7, (some 53), .bldS 3 1 [(.int .i64 0)] 1 [(0, (.tmp 52))], none, []⟩, ⟨8, (some 54), .append 3 1 (.tmp 46) (.tmp 53), none, []⟩, ⟨9, (some 7), .move (.tmp 54), none, []⟩])
 (.region false [⟨0, (some 55), .move (.tmp 6), none, []⟩, ⟨1, (some 56), .move (.tmp 6), none, []⟩, ⟨2, (some 57), .len (.tmp 56), none, []⟩, ⟨3, (some 58), .ibin .sub .i64 (.tmp 57) (.const (.int .i64 1)), none, []⟩, ⟨4, (some 59), .slS (.tmp 55) 1 none (some (.tmp 58)) none, none, []⟩, ⟨5, (some 6), .move (.tmp 59), none, []⟩]))))))
 (.region false [⟨0, (some 60), .ibin .add .i64 (.tmp 11) (.const (.int .i64 1)), none, []⟩, ⟨1, (some 11), .move (.tmp 60), none, []⟩])))))))
 (.seq (.region false [⟨0, (some 61), .move (.tmp 7), none, []⟩, ⟨1, (some 62), .move (.tmp 7), none, []⟩, ⟨2, (some 63), .len (.tmp 62), none, []⟩, ⟨3, (some 64), .move (.tmp 0), none, []⟩, ⟨4, (some 65), .len (.tmp 64), none, []⟩, ⟨5, (some 66), .ibin .eql .i64 (.tmp 63) (.tmp 65), none, []⟩, ⟨6, (some 4), .move (.tmp 61), none, []⟩, ⟨7, (some 5), .move (.tmp 66), none, []⟩])
 .ret)))), [.tmp 4, .tmp 5]⟩
/- slices.Index[[]int,int] -/
def pf52 : PF := ⟨19, (.seq (.region false [⟨0, (some 4), .move (.const (.int .i64 0)), none, []⟩])
 (.seq (.seq (.region false [⟨0, (some 6), .move (.tmp 0), none, []⟩, ⟨1, (some 7), .len (.tmp 6), none, []⟩, ⟨2, (some 8), .move (.const (.int .i64 0)), none, []⟩])
 (.block 0 (.loop (.seq (.region false [⟨0, (some 9), .ibin .lss .i64 (.tmp 8) (.tmp 7), none, []⟩])
 (.seq (.cond (.tmp 9) .skip (.exit 0))
 (.seq (.block 1 (.seq (.region false [⟨0, (some 10), .move (.tmp 8), none, []⟩, ⟨1, (some 5), .move (.tmp 10), none, []⟩])
 (.seq (.region false [⟨0, (some 11), .move (.tmp 1), none, []⟩, ⟨1, (some 12), .move (.tmp 0), none, []⟩, ⟨2, (some 13), .move (.tmp 5), none, []⟩, ⟨3, (some 14), .idxS (.tmp 12) (.tmp 13) 1, none, []⟩, ⟨4, (some 15), .load1 (.tmp 14), none, []⟩, ⟨5, (some 16), .ibin .eql .i64 (.tmp 11) (.tmp 15), none, []⟩])
 (.cond (.tmp 16) (.seq (.region false [⟨0, (some 17), .move (.tmp 5), none, []⟩, ⟨1, (some 4), .move (.tmp 17), none, []⟩])
 .ret) .skip))))
 (.region false [⟨0, (some 18), .ibin .add .i64 (.tmp 8) (.const (.int .i64 1)), none, []⟩, ⟨1, (some 8), .move (.tmp 18), none, []⟩])))))))
 (.seq (.region false [⟨0, (some 4), .move (.const (.int .i64 (-1))), none, []⟩])
 .ret))), [.tmp 4]⟩
/- bellarmine/lock.passed -/
def pf61 : PF := ⟨8, (.seq (.region false [⟨0, (some 2), .move (.const (.slice none 0 0)), none, []⟩])
 (.seq (.region false [⟨0, (some 3), .new 22 [(.slice none 0 0)], none, []⟩])
 (.seq (.region false [⟨0, (some 4), .move (.tmp 0), none, []⟩, ⟨1, (some 5), .callF 66 [(.tmp 3)], none, []⟩, ⟨2, (some 6), .callF 63 [(.tmp 4), (.tmp 5)], none, []⟩])
 (.seq (.region false [⟨0, (some 7), .load1 (.tmp 3), none, []⟩, ⟨1, (some 2), .move (.tmp 7), none, []⟩])
 .ret)))), [.tmp 2]⟩
/- bellarmine/bellarmineref11.pass -/
def pf62 : PF := ⟨44, (.seq (.region false [⟨0, (some 2), .move (.const (.slice none 0 0)), none, []⟩])
 (.seq (.seq (.region false [⟨0, (some 6), .move (.tmp 0), none, []⟩, ⟨1, (some 7), .len (.tmp 6), none, []⟩, ⟨2, (some 8), .ibin .eql .i64 (.tmp 7) (.const (.int .i64 0)), none, []⟩])
 (.cond (.tmp 8) (.seq (.region false [⟨0, (some 2), .move (.const (.slice none 0 0)), none, []⟩])
 .ret) .skip))
 (.seq (.region false [⟨0, (some 3), .move (.const (.int .i64 0)), none, []⟩])
 (.seq (.seq (.region false [⟨0, (some 4), .move (.const (.int .i64 0)), none, []⟩])
 (.block 0 (.loop (.seq (.seq (.region false [⟨0, (some 9), .move (.tmp 4), none, []⟩, ⟨1, (some 10), .move (.tmp 0), none, []⟩, ⟨2, (some 11), .len (.tmp 10), none, []⟩, ⟨3, (some 12), .ibin .lss .i64 (.tmp 9) (.tmp 11), none, []⟩])
 (.cond (.tmp 12) .skip (.exit 0)))
 (.seq (.block 1 (.seq (.region true [⟨0, (some 15), .move (.tmp 0), none, []⟩, ⟨1, (some 16), .move (.tmp 4), none, []⟩, ⟨2, (some 17), .idxS (.tmp 15) (.tmp 16) 1, none, []⟩, ⟨3, (some 18), .load1 (.tmp 17), none, []⟩, ⟨4, (some 19), .move (.tmp 0), none, []⟩, ⟨5, (some 20), .move (.tmp 3), none, []⟩, ⟨6, (some 21), .idxS (.tmp 19) (.tmp 20) 1, none, []⟩, ⟨7, (some 22), .load1 (.tmp 21), none, []⟩, ⟨8, (some 23), .ibin .gtr .i64 (.tmp 18) (.tmp 22), none, []⟩])
 (.cond (.tmp 23) (.region false [⟨0, (some 24), .move (.tmp 4), none, []⟩, ⟨1, (some 3), .move (.tmp 24), none, []⟩]) .skip)))
 (.region false [⟨0, (some 13), .move (.tmp 4), none, []⟩, ⟨1, (some 14), .ibin .add .i64 (.tmp 13) (.const (.int .i64 1)), none, []⟩, ⟨2, (some 4), .move (.tmp 14), none, []⟩]))))))
 (.seq (.region true [⟨1, (some 26), .move (.tmp 0), none, []⟩, ⟨2, (some 27), .move (.tmp 3), none, []⟩, ⟨3, (some 28), .slS (.tmp 26) 1 none (some (.tmp 27)) none, none, []⟩, ⟨6, (some 31), .move (.tmp 0), none, []⟩, ⟨7, (some 32), .move (.tmp 3), none, []⟩, ⟨8, (some 33), .ibin .add .i64 (.tmp 32) (.const (.int .i64 1)), none, []⟩, ⟨9, (some 34), .slS (.tmp 31) 1 (some (.tmp 33)) none none, none, []⟩, ⟨4, (some 29), .callF 62 [(.tmp 28)], none, []⟩, ⟨0, (some 25), .bldS 3 1 [] 0 [], none, []⟩, ⟨5, (some 30), .append 3 1 (.tmp 25) (.tmp 29), none, []⟩, ⟨10, (some 35), .callF 62 [(.tmp 34)], none, []⟩, ⟨11, (some 36), .append 3 1 (.tmp 30) (.tmp 35), none, []⟩, ⟨12, (some 5), .move (.tmp 36), none, []⟩])
 (.seq (.region false [⟨0, (some 37), .move (.tmp 5), none, []⟩, ⟨1, (some 38), .move (.tmp 0), none, []⟩, ⟨2, (some 39), .move (.tmp 3), none, []⟩, ⟨3, (some 40), .idxS (.tmp 38) (.tmp 39) 1, none, []⟩, ⟨4, (some 41), .load1 (.tmp 40), none, []⟩, ⟨5, (some 42), .bldS 3 1 [(.int .i64 0)] 1 [(0, (.tmp 41))], none, []⟩, ⟨6, (some 43), .append 3 1 (.tmp 37) (.tmp 42), none, []⟩, ⟨7, (some 2), .move (.tmp 43), none, []⟩])
 .ret)))))), [.tmp 2]⟩
/- bellarmine/lock.pass -/
def pf63 : PF := ⟨34, (.seq (.region false [⟨0, (some 4), .new 103 [(.slice none 0 0)], none, []⟩])
 (.seq (.seq (.region false [⟨0, (some 7), .move (.tmp 0), none, []⟩, ⟨1, (some 8), .len (.tmp 7), none, []⟩, ⟨2, (some 9), .move (.const (.int .i64 0)), none, []⟩])
 (.block 0 (.loop (.seq (.region false [⟨0, (some 10), .ibin .lss .i64 (.tmp 9) (.tmp 8), none, []⟩])
 (.seq (.cond (.tmp 10) .skip (.exit 0))
 (.seq (.block 1 (.seq (.region false [⟨0, (some 11), .idxS (.tmp 7) (.tmp 9) 1, none, []⟩, ⟨1, (some 12), .load1 (.tmp 11), none, []⟩, ⟨2, (some 6), .move (.tmp 12), none, []⟩])
 (.seq (.block 2 (.loop (.seq (.seq (.region false [⟨0, (some 13), .callF 95 [(.tmp 4)], none, []⟩, ⟨1, (some 14), .not (.tmp 13), none, []⟩, ⟨2, (some 15), .move (.tmp 14), none, []⟩, ⟨3, (some 16), .callF 96 [(.tmp 4)], (some (15, true)), []⟩, ⟨4, (some 17), .move (.tmp 6), (some (15, true)), []⟩, ⟨5, (some 18), .ibin .lss .i64 (.tmp 16) (.tmp 17), (some (15, true)), []⟩, ⟨6, (some 19), .pick (.tmp 15) (.tmp 18) (.const (.bool false)), none, []⟩])
 (.cond (.tmp 19) .skip (.exit 2)))
 (.block 3 (.region false [⟨0, (some 20), .move (.tmp 1), none, []⟩, ⟨1, (some 21), .callF 97 [(.tmp 4)], none, []⟩, ⟨2, (some 22), .callV (.tmp 20) [(.const (.int .u8 111)), (.tmp 21)], none, []⟩])))))
 (.seq (.region false [⟨0, (some 23), .move (.tmp 6), none, []⟩, ⟨1, (some 24), .callF 98 [(.tmp 4), (.tmp 23)], none, []⟩])
 (.region false [⟨0, (some 25), .move (.tmp 1), none, []⟩, ⟨1, (some 26), .move (.tmp 6), none, []⟩, ⟨2, (some 27), .callV (.tmp 25) [(.const (.int .u8 105)), (.tmp 26)], none, []⟩])))))
 (.region false [⟨0, (some 28), .ibin .add .i64 (.tmp 9) (.const (.int .i64 1)), none, []⟩, ⟨1, (some 9), .move (.tmp 28), none, []⟩])))))))
 (.block 4 (.loop (.seq (.seq (.region false [⟨0, (some 29), .callF 95 [(.tmp 4)], none, []⟩, ⟨1, (some 30), .not (.tmp 29), none, []⟩])
 (.cond (.tmp 30) .skip (.exit 4)))
 (.block 5 (.region false [⟨0, (some 31), .move (.tmp 1), none, []⟩, ⟨1, (some 32), .callF 97 [(.tmp 4)], none, []⟩, ⟨2, (some 33), .callV (.tmp 31) [(.const (.int .u8 111)), (.tmp 32)], none, []⟩]))))))), []⟩
/- bellarmine/lock.letters -/
def pf64 : PF := ⟨4, (.seq (.region false [⟨0, (some 1), .box 79 (.tmp 0), none, []⟩, ⟨1, (some 2), .move (.const .nilFunc), none, []⟩])
 (.seq (.region false [⟨0, (some 3), .mkF (.func 99) #[] #[(.tmp 1)], none, []⟩, ⟨1, (some 2), .move (.tmp 3), none, []⟩])
 .ret)), [.tmp 2]⟩
/- bellarmine/lock.carryOut -/
def pf65 : PF := ⟨47, (.seq (.region false [⟨0, (some 6), .move (.const (.int .i64 0)), none, []⟩])
 (.seq (.region false [⟨0, (some 7), .new 103 [(.slice none 0 0)], none, []⟩])
 (.seq (.seq (.region false [⟨0, (some 9), .move (.tmp 1), none, []⟩, ⟨1, (some 10), .plain ⟨(some 10), .call ⟨.builtin .len, #[(.tmp 9)], #[9]⟩, 3, (String.ofList [Char.ofNat 115, Char.ofNat 104, Char.ofNat 117, Char.ofNat 110, Char.ofNat 116, Char.ofNat 46, Char.ofNat 103, Char.ofNat 111, Char.ofNat 58, Char.ofNat 53, Char.ofNat 51]), #[⟨0, .data⟩], none⟩, none, []⟩, ⟨2, (some 11), .move (.const (.int .i64 0)), none, []⟩])
 (.block 0 (.loop (.seq (.region false [⟨0, (some 12), .ibin .lss .i64 (.tmp 11) (.tmp 10), none, []⟩])
 (.seq (.cond (.tmp 12) .skip (.exit 0))
 (.seq (.block 1 (.seq (.region false [⟨0, (some 13), .move (.tmp 11), none, []⟩, ⟨1, (some 8), .move (.tmp 13), none, []⟩])
 (.seq (.region false [⟨0, (some 14), .move (.tmp 1), none, []⟩, ⟨1, (some 15), .move (.tmp 8), none, []⟩, ⟨2, (some 16), .plain ⟨(some 16), .index 9 (.tmp 14) (.tmp 15), 5, (String.ofList [Char.ofNat 115, Char.ofNat 104, Char.ofNat 117, Char.ofNat 110, Char.ofNat 116, Char.ofNat 46, Char.ofNat 103, Char.ofNat 111, Char.ofNat 58, Char.ofNat 53, Char.ofNat 52]), #[⟨0, .data⟩, ⟨1, .data⟩], none⟩, none, []⟩])
 (.block 2 (.seq (.region false [⟨0, (some 18), .ibin .eql .u8 (.tmp 16) (.const (.int .u8 105)), none, []⟩, ⟨1, (some 17), .move (.tmp 18), none, []⟩])
 (.cond (.tmp 17) (.seq (.seq (.region false [⟨0, (some 19), .move (.tmp 0), none, []⟩, ⟨1, (some 20), .len (.tmp 19), none, []⟩, ⟨2, (some 21), .ibin .eql .i64 (.tmp 20) (.const (.int .i64 0)), none, []⟩])
 (.cond (.tmp 21) (.seq (.region false [⟨0, (some 6), .move (.const (.int .i64 2)), none, []⟩])
 .ret) .skip))
 (.seq (.region false [⟨0, (some 22), .move (.tmp 0), none, []⟩, ⟨1, (some 23), .idxS (.tmp 22) (.const (.int .i64 0)) 1, none, []⟩, ⟨2, (some 24), .load1 (.tmp 23), none, []⟩, ⟨3, (some 25), .callF 98 [(.tmp 7), (.tmp 24)], none, []⟩])
 (.seq (.region false [⟨0, (some 26), .move (.tmp 2), none, []⟩, ⟨1, (some 27), .move (.tmp 0), none, []⟩, ⟨2, (some 28), .idxS (.tmp 27) (.const (.int .i64 0)) 1, none, []⟩, ⟨3, (some 29), .load1 (.tmp 28), none, []⟩, ⟨4, (some 30), .callV (.tmp 26) [(.const (.int .u8 105)), (.tmp 29)], none, []⟩])
 (.region false [⟨0, (some 31), .move (.tmp 0), none, []⟩, ⟨1, (some 32), .slS (.tmp 31) 1 (some (.const (.int .i64 1))) none none, none, []⟩, ⟨2, (some 0), .move (.tmp 32), none, []⟩])))) (.seq (.region false [⟨0, (some 34), .ibin .eql .u8 (.tmp 16) (.const (.int .u8 111)), none, []⟩, ⟨1, (some 33), .move (.tmp 34), none, []⟩])
 (.cond (.tmp 33) (.seq (.seq (.region false [⟨0, (some 35), .callF 95 [(.tmp 7)], none, []⟩])
 (.cond (.tmp 35) (.seq (.region false [⟨0, (some 6), .move (.const (.int .i64 4)), none, []⟩])
 .ret) .skip))
 (.region false [⟨0, (some 36), .move (.tmp 2), none, []⟩, ⟨1, (some 37), .callF 97 [(.tmp 7)], none, []⟩, ⟨2, (some 38), .callV (.tmp 36) [(.const (.int .u8 111)), (.tmp 37)], none, []⟩])) (.seq (.region false [⟨0, (some 6), .move (.const (.int .i64 10)), none, []⟩])
 .ret)))))))))
 (.region false [⟨0, (some 39), .ibin .add .i64 (.tmp 11) (.const (.int .i64 1)), none, []⟩, ⟨1, (some 11), .move (.tmp 39), none, []⟩])))))))
 (.seq (.seq (.region false [⟨0, (some 40), .move (.tmp 0), none, []⟩, ⟨1, (some 41), .len (.tmp 40), none, []⟩, ⟨2, (some 42), .ibin .gtr .i64 (.tmp 41) (.const (.int .i64 0)), none, []⟩, ⟨3, (some 43), .move (.tmp 42), none, []⟩, ⟨4, (some 44), .callF 95 [(.tmp 7)], (some (43, false)), []⟩, ⟨5, (some 45), .not (.tmp 44), (some (43, false)), []⟩, ⟨6, (some 46), .pick (.tmp 43) (.const (.bool true)) (.tmp 45), none, []⟩])
 (.cond (.tmp 46) (.seq (.region false [⟨0, (some 6), .move (.const (.int .i64 21)), none, []⟩])
 .ret) .skip))
 (.seq (.region false [⟨0, (some 6), .move (.const (.int .i64 0)), none, []⟩])
 .ret))))), [.tmp 6]⟩
/- bellarmine/lock.leavers -/
def pf66 : PF := ⟨4, (.seq (.region false [⟨0, (some 1), .box 82 (.tmp 0), none, []⟩, ⟨1, (some 2), .move (.const .nilFunc), none, []⟩])
 (.seq (.region false [⟨0, (some 3), .mkF (.func 100) #[] #[(.tmp 1)], none, []⟩, ⟨1, (some 2), .move (.tmp 3), none, []⟩])
 .ret)), [.tmp 2]⟩
/- bellarmine/lock.isPlace -/
def pf67 : PF := ⟨13, (.seq (.region false [⟨0, (some 4), .move (.const (.bool false)), none, []⟩])
 (.seq (.region false [⟨0, (some 5), .move (.tmp 1), none, []⟩, ⟨1, (some 6), .ibin .geq .i64 (.tmp 5) (.const (.int .i64 0)), none, []⟩, ⟨2, (some 7), .move (.tmp 6), none, []⟩, ⟨3, (some 8), .move (.tmp 1), (some (7, true)), []⟩, ⟨4, (some 9), .move (.tmp 0), (some (7, true)), []⟩, ⟨5, (some 10), .len (.tmp 9), (some (7, true)), []⟩, ⟨6, (some 11), .ibin .lss .i64 (.tmp 8) (.tmp 10), (some (7, true)), []⟩, ⟨7, (some 12), .pick (.tmp 7) (.tmp 11) (.const (.bool false)), none, []⟩, ⟨8, (some 4), .move (.tmp 12), none, []⟩])
 .ret)), [.tmp 4]⟩
/- slices.Contains[[]int,int] -/
def pf68 : PF := ⟨9, (.seq (.region false [⟨0, (some 4), .move (.const (.bool false)), none, []⟩])
 (.seq (.region false [⟨0, (some 5), .move (.tmp 0), none, []⟩, ⟨1, (some 6), .move (.tmp 1), none, []⟩, ⟨2, (some 7), .callF 52 [(.tmp 5), (.tmp 6)], none, []⟩, ⟨3, (some 8), .ibin .geq .i64 (.tmp 7) (.const (.int .i64 0)), none, []⟩, ⟨4, (some 4), .move (.tmp 8), none, []⟩])
 .ret)), [.tmp 4]⟩
/- bellarmine/bellarmineref11.in -/
def pf69 : PF := ⟨15, (.seq (.region false [⟨0, (some 6), .move (.const (.bool false)), none, []⟩])
 (.seq (.region false [⟨0, (some 7), .move (.tmp 0), none, []⟩, ⟨1, (some 8), .move (.tmp 1), none, []⟩, ⟨2, (some 9), .ibin .geq .i64 (.tmp 7) (.tmp 8), none, []⟩, ⟨3, (some 10), .move (.tmp 9), none, []⟩, ⟨4, (some 11), .move (.tmp 0), (some (10, true)), []⟩, ⟨5, (some 12), .move (.tmp 2), (some (10, true)), []⟩, ⟨6, (some 13), .ibin .leq .i64 (.tmp 11) (.tmp 12), (some (10, true)), []⟩, ⟨7, (some 14), .pick (.tmp 10) (.tmp 13) (.const (.bool false)), none, []⟩, ⟨8, (some 6), .move (.tmp 14), none, []⟩])
 .ret)), [.tmp 6]⟩
/- bellarmine/bellarmineref11.place -/
def pf70 : PF := ⟨19, (.seq (.region false [⟨0, (some 4), .move (.const (.int .i64 0)), none, []⟩])
 (.seq (.seq (.region false [⟨0, (some 5), .move (.const (.int .i64 0)), none, []⟩])
 (.block 0 (.loop (.seq (.seq (.region false [⟨0, (some 6), .move (.tmp 5), none, []⟩, ⟨1, (some 7), .move (.tmp 0), none, []⟩, ⟨2, (some 8), .len (.tmp 7), none, []⟩, ⟨3, (some 9), .ibin .lss .i64 (.tmp 6) (.tmp 8), none, []⟩])
 (.cond (.tmp 9) .skip (.exit 0)))
 (.seq (.block 1 (.seq (.region false [⟨0, (some 12), .move (.tmp 0), none, []⟩, ⟨1, (some 13), .move (.tmp 5), none, []⟩, ⟨2, (some 14), .idxS (.tmp 12) (.tmp 13) 1, none, []⟩, ⟨3, (some 15), .load1 (.tmp 14), none, []⟩, ⟨4, (some 16), .move (.tmp 1), none, []⟩, ⟨5, (some 17), .ibin .eql .i64 (.tmp 15) (.tmp 16), none, []⟩])
 (.cond (.tmp 17) (.seq (.region false [⟨0, (some 18), .move (.tmp 5), none, []⟩, ⟨1, (some 4), .move (.tmp 18), none, []⟩])
 .ret) .skip)))
 (.region false [⟨0, (some 10), .move (.tmp 5), none, []⟩, ⟨1, (some 11), .ibin .add .i64 (.tmp 10) (.const (.int .i64 1)), none, []⟩, ⟨2, (some 5), .move (.tmp 11), none, []⟩]))))))
 (.seq (.region false [⟨0, (some 4), .move (.const (.int .i64 (-1))), none, []⟩])
 .ret))), [.tmp 4]⟩
/- bellarmine/lock.canAscend -/
def pf71 : PF := ⟨11, (.seq (.region false [⟨0, (some 4), .move (.const (.bool false)), none, []⟩])
 (.seq (.region false [⟨0, (some 5), .move (.tmp 0), none, []⟩, ⟨1, (some 6), .move (.tmp 0), none, []⟩, ⟨2, (some 7), .len (.tmp 6), none, []⟩, ⟨3, (some 8), .callF 81 [(.tmp 7)], none, []⟩, ⟨4, (some 9), .move (.tmp 1), none, []⟩, ⟨5, (some 10), .callF 80 [(.tmp 5), (.tmp 8), (.tmp 9), (.func 101)], none, []⟩, ⟨6, (some 4), .move (.tmp 10), none, []⟩])
 .ret)), [.tmp 4]⟩
/- bellarmine/bellarmineref11.barred -/
def pf72 : PF := ⟨39, (.seq (.region false [⟨0, (some 2), .move (.const (.int .i64 0)), none, []⟩, ⟨1, (some 3), .move (.const (.int .i64 0)), none, []⟩, ⟨2, (some 4), .move (.const (.int .i64 0)), none, []⟩, ⟨3, (some 5), .move (.const (.bool false)), none, []⟩])
 (.seq (.seq (.region false [⟨0, (some 6), .move (.const (.int .i64 0)), none, []⟩])
 (.block 0 (.loop (.seq (.seq (.region false [⟨0, (some 9), .move (.tmp 6), none, []⟩, ⟨1, (some 10), .move (.tmp 0), none, []⟩, ⟨2, (some 11), .len (.tmp 10), none, []⟩, ⟨3, (some 12), .ibin .lss .i64 (.tmp 9) (.tmp 11), none, []⟩])
 (.cond (.tmp 12) .skip (.exit 0)))
 (.seq (.block 1 (.seq (.region false [⟨0, (some 15), .move (.tmp 6), none, []⟩, ⟨1, (some 16), .ibin .add .i64 (.tmp 15) (.const (.int .i64 1)), none, []⟩, ⟨2, (some 7), .move (.tmp 16), none, []⟩])
 (.block 2 (.loop (.seq (.seq (.region false [⟨0, (some 17), .move (.tmp 7), none, []⟩, ⟨1, (some 18), .move (.tmp 0), none, []⟩, ⟨2, (some 19), .len (.tmp 18), none, []⟩, ⟨3, (some 20), .ibin .lss .i64 (.tmp 17) (.tmp 19), none, []⟩])
 (.cond (.tmp 20) .skip (.exit 2)))
 (.seq (.block 3 (.seq (.region false [⟨0, (some 23), .move (.tmp 7), none, []⟩, ⟨1, (some 24), .ibin .add .i64 (.tmp 23) (.const (.int .i64 1)), none, []⟩, ⟨2, (some 8), .move (.tmp 24), none, []⟩])
 (.block 4 (.loop (.seq (.seq (.region false [⟨0, (some 25), .move (.tmp 8), none, []⟩, ⟨1, (some 26), .move (.tmp 0), none, []⟩, ⟨2, (some 27), .len (.tmp 26), none, []⟩, ⟨3, (some 28), .ibin .lss .i64 (.tmp 25) (.tmp 27), none, []⟩])
 (.cond (.tmp 28) .skip (.exit 4)))
 (.seq (.block 5 (.seq (.region false [⟨0, (some 31), .move (.tmp 0), none, []⟩, ⟨1, (some 32), .move (.tmp 6), none, []⟩, ⟨2, (some 33), .move (.tmp 7), none, []⟩, ⟨3, (some 34), .move (.tmp 8), none, []⟩, ⟨4, (some 35), .callF 76 [(.tmp 31), (.tmp 32), (.tmp 33), (.tmp 34)], none, []⟩])
 (.cond (.tmp 35) (.seq (.region false [⟨0, (some 36), .move (.tmp 6), none, []⟩, ⟨1, (some 37), .move (.tmp 7), none, []⟩, ⟨2, (some 38), .move (.tmp 8), none, []⟩, ⟨3, (some 2), .move (.tmp 36), none, []⟩, ⟨4, (some 3), .move (.tmp 37), none, []⟩, ⟨5, (some 4), .move (.tmp 38), none, []⟩, ⟨6, (some 5), .move (.const (.bool true)), none, []⟩])
 .ret) .skip)))
 (.region false [⟨0, (some 29), .move (.tmp 8), none, []⟩, ⟨1, (some 30), .ibin .add .i64 (.tmp 29) (.const (.int .i64 1)), none, []⟩, ⟨2, (some 8), .move (.tmp 30), none, []⟩])))))))
 (.region false [⟨0, (some 21), .move (.tmp 7), none, []⟩, ⟨1, (some 22), .ibin .add .i64 (.tmp 21) (.const (.int .i64 1)), none, []⟩, ⟨2, (some 7), .move (.tmp 22), none, []⟩])))))))
 (.region false [⟨0, (some 13), .move (.tmp 6), none, []⟩, ⟨1, (some 14), .ibin .add .i64 (.tmp 13) (.const (.int .i64 1)), none, []⟩, ⟨2, (some 6), .move (.tmp 14), none, []⟩]))))))
 (.seq (.region false [⟨0, (some 2), .move (.const (.int .i64 0)), none, []⟩, ⟨1, (some 3), .move (.const (.int .i64 0)), none, []⟩, ⟨2, (some 4), .move (.const (.int .i64 0)), none, []⟩, ⟨3, (some 5), .move (.const (.bool false)), none, []⟩])
 .ret))), [.tmp 2, .tmp 3, .tmp 4, .tmp 5]⟩
/- bellarmine/lock.bar -/
def pf73 : PF := ⟨29, (.seq (.region false [⟨0, (some 8), .move (.const (.bool false)), none, []⟩])
 (.seq (.region true [⟨0, (some 9), .move (.tmp 0), none, []⟩, ⟨1, (some 10), .move (.tmp 3), none, []⟩, ⟨2, (some 11), .idxS (.tmp 9) (.tmp 10) 1, none, []⟩, ⟨3, (some 12), .load1 (.tmp 11), none, []⟩, ⟨4, (some 13), .move (.tmp 0), none, []⟩, ⟨5, (some 14), .move (.tmp 1), none, []⟩, ⟨6, (some 15), .idxS (.tmp 13) (.tmp 14) 1, none, []⟩, ⟨7, (some 16), .load1 (.tmp 15), none, []⟩, ⟨8, (some 17), .ibin .lss .i64 (.tmp 12) (.tmp 16), none, []⟩, ⟨9, (some 18), .move (.tmp 17), none, []⟩, ⟨10, (some 19), .move (.tmp 0), (some (18, true)), []⟩, ⟨11, (some 20), .move (.tmp 1), (some (18, true)), []⟩, ⟨12, (some 21), .idxS (.tmp 19) (.tmp 20) 1, (some (18, true)), []⟩, ⟨13, (some 22), .load1 (.tmp 21), (some (18, true)), []⟩, ⟨14, (some 23), .move (.tmp 0), (some (18, true)), []⟩, ⟨15, (some 24), .move (.tmp 2), (some (18, true)), []⟩, ⟨16, (some 25), .idxS (.tmp 23) (.tmp 24) 1, (some (18, true)), []⟩, ⟨17, (some 26), .load1 (.tmp 25), (some (18, true)), []⟩, ⟨18, (some 27), .ibin .lss .i64 (.tmp 22) (.tmp 26), (some (18, true)), []⟩, ⟨19, (some 28), .pick (.tmp 18) (.tmp 27) (.const (.bool false)), none, []⟩, ⟨20, (some 8), .move (.tmp 28), none, []⟩])
 .ret)), [.tmp 8]⟩
/- bellarmine/lock.passesOf -/
def pf74 : PF := ⟨12, (.seq (.region false [⟨0, (some 2), .move (.const (.int .i64 0)), none, []⟩])
 (.seq (.region false [⟨0, (some 3), .move (.const (.int .i64 0)), none, []⟩])
 (.seq (.block 0 (.loop (.seq (.seq (.region false [⟨0, (some 4), .move (.tmp 0), none, []⟩, ⟨1, (some 5), .callF 45 [(.tmp 4)], none, []⟩, ⟨2, (some 6), .not (.tmp 5), none, []⟩])
 (.cond (.tmp 6) .skip (.exit 0)))
 (.seq (.block 1 (.region false [⟨0, (some 9), .move (.tmp 0), none, []⟩, ⟨1, (some 10), .callF 61 [(.tmp 9)], none, []⟩, ⟨2, (some 0), .move (.tmp 10), none, []⟩]))
 (.region false [⟨0, (some 7), .move (.tmp 3), none, []⟩, ⟨1, (some 8), .ibin .add .i64 (.tmp 7) (.const (.int .i64 1)), none, []⟩, ⟨2, (some 3), .move (.tmp 8), none, []⟩])))))
 (.seq (.region false [⟨0, (some 11), .move (.tmp 3), none, []⟩, ⟨1, (some 2), .move (.tmp 11), none, []⟩])
 .ret)))), [.tmp 2]⟩
/- bellarmine/bellarmineref11.passes -/
def pf75 : PF := ⟨12, (.seq (.region false [⟨0, (some 2), .move (.const (.int .i64 0)), none, []⟩])
 (.seq (.region false [⟨0, (some 3), .move (.const (.int .i64 0)), none, []⟩])
 (.seq (.block 0 (.loop (.seq (.seq (.region false [⟨0, (some 4), .move (.tmp 0), none, []⟩, ⟨1, (some 5), .callF 102 [(.tmp 4)], none, []⟩, ⟨2, (some 6), .not (.tmp 5), none, []⟩])
 (.cond (.tmp 6) .skip (.exit 0)))
 (.block 1 (.seq (.region false [⟨0, (some 7), .move (.tmp 0), none, []⟩, ⟨1, (some 8), .callF 62 [(.tmp 7)], none, []⟩, ⟨2, (some 0), .move (.tmp 8), none, []⟩])
 (.region false [⟨0, (some 9), .move (.tmp 3), none, []⟩, ⟨1, (some 10), .ibin .add .i64 (.tmp 9) (.const (.int .i64 1)), none, []⟩, ⟨2, (some 3), .move (.tmp 10), none, []⟩]))))))
 (.seq (.region false [⟨0, (some 11), .move (.tmp 3), none, []⟩, ⟨1, (some 2), .move (.tmp 11), none, []⟩])
 .ret)))), [.tmp 2]⟩
/- bellarmine/bellarmineref11.bars -/
def pf76 : PF := ⟨29, (.seq (.region false [⟨0, (some 8), .move (.const (.bool false)), none, []⟩])
 (.seq (.region true [⟨0, (some 9), .move (.tmp 0), none, []⟩, ⟨1, (some 10), .move (.tmp 3), none, []⟩, ⟨2, (some 11), .idxS (.tmp 9) (.tmp 10) 1, none, []⟩, ⟨3, (some 12), .load1 (.tmp 11), none, []⟩, ⟨4, (some 13), .move (.tmp 0), none, []⟩, ⟨5, (some 14), .move (.tmp 1), none, []⟩, ⟨6, (some 15), .idxS (.tmp 13) (.tmp 14) 1, none, []⟩, ⟨7, (some 16), .load1 (.tmp 15), none, []⟩, ⟨8, (some 17), .ibin .lss .i64 (.tmp 12) (.tmp 16), none, []⟩, ⟨9, (some 18), .move (.tmp 17), none, []⟩, ⟨10, (some 19), .move (.tmp 0), (some (18, true)), []⟩, ⟨11, (some 20), .move (.tmp 1), (some (18, true)), []⟩, ⟨12, (some 21), .idxS (.tmp 19) (.tmp 20) 1, (some (18, true)), []⟩, ⟨13, (some 22), .load1 (.tmp 21), (some (18, true)), []⟩, ⟨14, (some 23), .move (.tmp 0), (some (18, true)), []⟩, ⟨15, (some 24), .move (.tmp 2), (some (18, true)), []⟩, ⟨16, (some 25), .idxS (.tmp 23) (.tmp 24) 1, (some (18, true)), []⟩, ⟨17, (some 26), .load1 (.tmp 25), (some (18, true)), []⟩, ⟨18, (some 27), .ibin .lss .i64 (.tmp 22) (.tmp 26), (some (18, true)), []⟩, ⟨19, (some 28), .pick (.tmp 18) (.tmp 27) (.const (.bool false)), none, []⟩, ⟨20, (some 8), .move (.tmp 28), none, []⟩])
 .ret)), [.tmp 8]⟩
/- bellarmine/lock.lists -/
def pf77 : PF := ⟨8, (.seq (.region false [⟨0, (some 3), .box 3 (.tmp 0), none, []⟩, ⟨1, (some 4), .box 3 (.tmp 1), none, []⟩, ⟨2, (some 5), .box 83 (.tmp 2), none, []⟩, ⟨3, (some 6), .move (.const .nilFunc), none, []⟩])
 (.seq (.region false [⟨0, (some 7), .mkF (.func 103) #[] #[(.tmp 3), (.tmp 4), (.tmp 5)], none, []⟩, ⟨1, (some 6), .move (.tmp 7), none, []⟩])
 .ret)), [.tmp 6]⟩
/- bellarmine/lock.fetch -/
def pf80 : PF := ⟨50, (.seq (.region false [⟨0, (some 8), .move (.const (.bool false)), none, []⟩])
 (.seq (.region false [⟨0, (some 9), .new 109 [(.slice none 0 0), (.slice none 0 0)], none, []⟩])
 (.seq (.seq (.region false [⟨0, (some 12), .move (.tmp 0), none, []⟩, ⟨1, (some 13), .len (.tmp 12), none, []⟩, ⟨2, (some 14), .move (.const (.int .i64 0)), none, []⟩])
 (.block 0 (.loop (.seq (.region false [⟨0, (some 15), .ibin .lss .i64 (.tmp 14) (.tmp 13), none, []⟩])
 (.seq (.cond (.tmp 15) .skip (.exit 0))
 (.seq (.block 1 (.seq (.region false [⟨0, (some 16), .move (.tmp 14), none, []⟩, ⟨1, (some 17), .idxS (.tmp 12) (.tmp 14) 1, none, []⟩, ⟨2, (some 18), .load1 (.tmp 17), none, []⟩, ⟨3, (some 10), .move (.tmp 16), none, []⟩, ⟨4, (some 11), .move (.tmp 18), none, []⟩])
 (.seq (.region false [⟨0, (some 19), .move (.tmp 2), none, []⟩, ⟨1, (some 20), .move (.tmp 10), none, []⟩, ⟨2, (some 21), .idxS (.tmp 19) (.tmp 20) 1, none, []⟩, ⟨3, (some 22), .load1 (.tmp 21), none, []⟩, ⟨4, (some 23), .idxA (.tmp 9) (.tmp 22) 2 1, none, []⟩, ⟨5, (some 24), .move (.tmp 11), none, []⟩, ⟨6, (some 25), .callF 98 [(.tmp 23), (.tmp 24)], none, []⟩])
 (.seq (.region false [⟨0, (some 26), .move (.tmp 3), none, []⟩, ⟨1, (some 27), .move (.tmp 11), none, []⟩, ⟨2, (some 28), .callV (.tmp 26) [(.const (.int .u8 105)), (.tmp 27)], none, []⟩])
 (.block 2 (.loop (.seq (.seq (.region true [⟨0, (some 29), .move (.tmp 1), none, []⟩, ⟨1, (some 30), .len (.tmp 29), none, []⟩, ⟨2, (some 31), .ibin .gtr .i64 (.tmp 30) (.const (.int .i64 0)), none, []⟩, ⟨3, (some 32), .move (.tmp 31), none, []⟩, ⟨4, (some 33), .slA (.tmp 9) 2 1 none none none, (some (32, true)), []⟩, ⟨5, (some 34), .move (.tmp 1), (some (32, true)), []⟩, ⟨6, (some 35), .idxS (.tmp 34) (.const (.int .i64 0)) 1, (some (32, true)), []⟩, ⟨7, (some 36), .load1 (.tmp 35), (some (32, true)), []⟩, ⟨8, (some 37), .callF 108 [(.tmp 33), (.tmp 36)], (some (32, true)), []⟩, ⟨9, (some 38), .pick (.tmp 32) (.tmp 37) (.const (.bool false)), none, []⟩])
 (.cond (.tmp 38) .skip (.exit 2)))
 (.block 3 (.seq (.region false [⟨0, (some 39), .move (.tmp 3), none, []⟩, ⟨1, (some 40), .move (.tmp 1), none, []⟩, ⟨2, (some 41), .idxS (.tmp 40) (.const (.int .i64 0)) 1, none, []⟩, ⟨3, (some 42), .load1 (.tmp 41), none, []⟩, ⟨4, (some 43), .callV (.tmp 39) [(.const (.int .u8 111)), (.tmp 42)], none, []⟩])
 (.region false [⟨0, (some 44), .move (.tmp 1), none, []⟩, ⟨1, (some 45), .slS (.tmp 44) 1 (some (.const (.int .i64 1))) none none, none, []⟩, ⟨2, (some 1), .move (.tmp 45), none, []⟩]))))))))))
 (.region false [⟨0, (some 46), .ibin .add .i64 (.tmp 14) (.const (.int .i64 1)), none, []⟩, ⟨1, (some 14), .move (.tmp 46), none, []⟩])))))))
 (.seq (.region false [⟨0, (some 47), .move (.tmp 1), none, []⟩, ⟨1, (some 48), .len (.tmp 47), none, []⟩, ⟨2, (some 49), .ibin .eql .i64 (.tmp 48) (.const (.int .i64 0)), none, []⟩, ⟨3, (some 8), .move (.tmp 49), none, []⟩])
 .ret)))), [.tmp 8]⟩
/- bellarmine/lock.upTo -/
def pf81 : PF := ⟨15, (.seq (.region false [⟨0, (some 2), .move (.const (.slice none 0 0)), none, []⟩])
 (.seq (.region false [⟨0, (some 3), .move (.const (.slice none 0 0)), none, []⟩])
 (.seq (.seq (.region false [⟨0, (some 5), .move (.tmp 0), none, []⟩, ⟨1, (some 6), .move (.const (.int .i64 0)), none, []⟩])
 (.block 0 (.loop (.seq (.region false [⟨0, (some 7), .ibin .lss .i64 (.tmp 6) (.tmp 5), none, []⟩])
 (.seq (.cond (.tmp 7) .skip (.exit 0))
 (.seq (.block 1 (.seq (.region false [⟨0, (some 8), .move (.tmp 6), none, []⟩, ⟨1, (some 4), .move (.tmp 8), none, []⟩])
 (.region false [⟨0, (some 9), .move (.tmp 3), none, []⟩, ⟨1, (some 10), .move (.tmp 4), none, []⟩, ⟨2, (some 11), .bldS 3 1 [(.int .i64 0)] 1 [(0, (.tmp 10))], none, []⟩, ⟨3, (some 12), .append 3 1 (.tmp 9) (.tmp 11), none, []⟩, ⟨4, (some 3), .move (.tmp 12), none, []⟩])))
 (.region false [⟨0, (some 13), .ibin .add .i64 (.tmp 6) (.const (.int .i64 1)), none, []⟩, ⟨1, (some 6), .move (.tmp 13), none, []⟩])))))))
 (.seq (.region false [⟨0, (some 14), .move (.tmp 3), none, []⟩, ⟨1, (some 2), .move (.tmp 14), none, []⟩])
 .ret)))), [.tmp 2]⟩
/- bellarmine/lock.isAny -/
def pf85 : PF := ⟨5, (.seq (.region false [⟨0, (some 4), .move (.const (.bool false)), none, []⟩])
 (.seq (.region false [⟨0, (some 4), .move (.const (.bool true)), none, []⟩])
 .ret)), [.tmp 4]⟩
/- slices.Delete[[]int,int] -/
def pf87 : PF := ⟨33, (.seq (.region false [⟨0, (some 6), .move (.const (.slice none 0 0)), none, []⟩])
 (.seq (.region false [⟨0, (some 8), .move (.tmp 0), none, []⟩, ⟨1, (some 9), .move (.tmp 1), none, []⟩, ⟨2, (some 10), .move (.tmp 2), none, []⟩, ⟨3, (some 11), .move (.tmp 0), none, []⟩, ⟨4, (some 12), .len (.tmp 11), none, []⟩, ⟨5, (some 13), .slS (.tmp 8) 1 (some (.tmp 9)) (some (.tmp 10)) (some (.tmp 12)), none, []⟩])
 (.seq (.seq (.region false [⟨0, (some 14), .move (.tmp 1), none, []⟩, ⟨1, (some 15), .move (.tmp 2), none, []⟩, ⟨2, (some 16), .ibin .eql .i64 (.tmp 14) (.tmp 15), none, []⟩])
 (.cond (.tmp 16) (.seq (.region false [⟨0, (some 17), .move (.tmp 0), none, []⟩, ⟨1, (some 6), .move (.tmp 17), none, []⟩])
 .ret) .skip))
 (.seq (.region false [⟨0, (some 18), .move (.tmp 0), none, []⟩, ⟨1, (some 19), .len (.tmp 18), none, []⟩, ⟨2, (some 7), .move (.tmp 19), none, []⟩])
 (.seq (.region true [⟨0, (some 20), .move (.tmp 0), none, []⟩, ⟨1, (some 21), .move (.tmp 1), none, []⟩, ⟨2, (some 22), .slS (.tmp 20) 1 none (some (.tmp 21)) none, none, []⟩, ⟨3, (some 23), .move (.tmp 0), none, []⟩, ⟨4, (some 24), .move (.tmp 2), none, []⟩, ⟨5, (some 25), .slS (.tmp 23) 1 (some (.tmp 24)) none none, none, []⟩, ⟨6, (some 26), .append 3 1 (.tmp 22) (.tmp 25), none, []⟩, ⟨7, (some 0), .move (.tmp 26), none, []⟩])
 (.seq (.region false [⟨0, (some 27), .move (.tmp 0), none, []⟩, ⟨1, (some 28), .move (.tmp 0), none, []⟩, ⟨2, (some 29), .len (.tmp 28), none, []⟩, ⟨3, (some 30), .move (.tmp 7), none, []⟩, ⟨4, (some 31), .slS (.tmp 27) 1 (some (.tmp 29)) (some (.tmp 30)) none, none, []⟩, ⟨5, none, .clr 1 [(.int .i64 0)] (.tmp 31), none, []⟩])
 (.seq (.region false [⟨0, (some 32), .move (.tmp 0), none, []⟩, ⟨1, (some 6), .move (.tmp 32), none, []⟩])
 .ret))))))), [.tmp 6]⟩
/- cmp.Less[int] -/
def pf89 : PF := ⟨17, (.seq (.region false [⟨0, (some 4), .move (.const (.bool false)), none, []⟩])
 (.seq (.region false [⟨0, (some 5), .move (.tmp 0), none, []⟩, ⟨1, (some 6), .callF 109 [(.tmp 5)], none, []⟩, ⟨2, (some 7), .move (.tmp 6), none, []⟩, ⟨3, (some 8), .move (.tmp 1), (some (7, true)), []⟩, ⟨4, (some 9), .callF 109 [(.tmp 8)], (some (7, true)), []⟩, ⟨5, (some 10), .not (.tmp 9), (some (7, true)), []⟩, ⟨6, (some 11), .pick (.tmp 7) (.tmp 10) (.const (.bool false)), none, []⟩, ⟨7, (some 12), .move (.tmp 11), none, []⟩, ⟨8, (some 13), .move (.tmp 0), (some (12, false)), []⟩, ⟨9, (some 14), .move (.tmp 1), (some (12, false)), []⟩, ⟨10, (some 15), .ibin .lss .i64 (.tmp 13) (.tmp 14), (some (12, false)), []⟩, ⟨11, (some 16), .pick (.tmp 12) (.const (.bool true)) (.tmp 15), none, []⟩, ⟨12, (some 4), .move (.tmp 16), none, []⟩])
 .ret)), [.tmp 4]⟩
/- slices.Max[[]int,int] -/
def pf90 : PF := ⟨25, (.seq (.region false [⟨0, (some 2), .move (.const (.int .i64 0)), none, []⟩])
 (.seq (.seq (.region false [⟨0, (some 5), .move (.tmp 0), none, []⟩, ⟨1, (some 6), .len (.tmp 5), none, []⟩, ⟨2, (some 7), .ibin .lss .i64 (.tmp 6) (.const (.int .i64 1)), none, []⟩])
 (.cond (.tmp 7) (.region false [⟨0, (some 8), .mkI 9 (.const (.string ⟨#[115, 108, 105, 99, 101, 115, 46, 77, 97, 120, 58, 32, 101, 109, 112, 116, 121, 32, 108, 105, 115, 116]⟩)), none, []⟩, ⟨1, none, .never, none, []⟩]) .skip))
 (.seq (.region false [⟨0, (some 9), .move (.tmp 0), none, []⟩, ⟨1, (some 10), .idxS (.tmp 9) (.const (.int .i64 0)) 1, none, []⟩, ⟨2, (some 11), .load1 (.tmp 10), none, []⟩, ⟨3, (some 3), .move (.tmp 11), none, []⟩])
 (.seq (.seq (.region false [⟨0, (some 4), .move (.const (.int .i64 1)), none, []⟩])
 (.block 0 (.loop (.seq (.seq (.region false [⟨0, (some 12), .move (.tmp 4), none, []⟩, ⟨1, (some 13), .move (.tmp 0), none, []⟩, ⟨2, (some 14), .len (.tmp 13), none, []⟩, ⟨3, (some 15), .ibin .lss .i64 (.tmp 12) (.tmp 14), none, []⟩])
 (.cond (.tmp 15) .skip (.exit 0)))
 (.seq (.block 1 (.region false [⟨0, (some 18), .move (.tmp 3), none, []⟩, ⟨1, (some 19), .move (.tmp 0), none, []⟩, ⟨2, (some 20), .move (.tmp 4), none, []⟩, ⟨3, (some 21), .idxS (.tmp 19) (.tmp 20) 1, none, []⟩, ⟨4, (some 22), .load1 (.tmp 21), none, []⟩, ⟨5, (some 23), .plain ⟨(some 23), .call ⟨.builtin .max, #[(.tmp 18), (.tmp 22)], #[3, 3]⟩, 3, (String.ofList [Char.ofNat 115, Char.ofNat 111, Char.ofNat 114, Char.ofNat 116, Char.ofNat 46, Char.ofNat 103, Char.ofNat 111, Char.ofNat 58, Char.ofNat 49, Char.ofNat 48, Char.ofNat 49]), #[⟨0, .data⟩, ⟨4, .data⟩], none⟩, none, []⟩, ⟨6, (some 3), .move (.tmp 23), none, []⟩]))
 (.region false [⟨0, (some 16), .move (.tmp 4), none, []⟩, ⟨1, (some 17), .ibin .add .i64 (.tmp 16) (.const (.int .i64 1)), none, []⟩, ⟨2, (some 4), .move (.tmp 17), none, []⟩]))))))
 (.seq (.region false [⟨0, (some 24), .move (.tmp 3), none, []⟩, ⟨1, (some 2), .move (.tmp 24), none, []⟩])
 .ret))))), [.tmp 2]⟩
/- (*bellarmine/lock.basin[int]).isEmpty -/
def pf95 : PF := ⟨9, (.seq (.region false [⟨0, (some 2), .move (.const (.bool false)), none, []⟩])
 (.seq (.region false [⟨0, (some 3), .move (.tmp 0), none, []⟩, ⟨1, (some 4), .nilCheck (.tmp 3), none, []⟩, ⟨2, (some 5), .fieldAddr (.tmp 4) 0, none, []⟩, ⟨3, (some 6), .load1 (.tmp 5), none, []⟩, ⟨4, (some 7), .len (.tmp 6), none, []⟩, ⟨5, (some 8), .ibin .eql .i64 (.tmp 7) (.const (.int .i64 0)), none, []⟩, ⟨6, (some 2), .move (.tmp 8), none, []⟩])
 .ret)), [.tmp 2]⟩
/- (*bellarmine/lock.basin[int]).last -/
def pf96 : PF := ⟨15, (.seq (.region false [⟨0, (some 2), .move (.const (.int .i64 0)), none, []⟩])
 (.seq (.region true [⟨0, (some 3), .move (.tmp 0), none, []⟩, ⟨1, (some 4), .nilCheck (.tmp 3), none, []⟩, ⟨2, (some 5), .fieldAddr (.tmp 4) 0, none, []⟩, ⟨3, (some 6), .load1 (.tmp 5), none, []⟩, ⟨4, (some 7), .move (.tmp 0), none, []⟩, ⟨5, (some 8), .nilCheck (.tmp 7), none, []⟩, ⟨6, (some 9), .fieldAddr (.tmp 8) 0, none, []⟩, ⟨7, (some 10), .load1 (.tmp 9), none, []⟩, ⟨8, (some 11), .len (.tmp 10), none, []⟩, ⟨9, (some 12), .ibin .sub .i64 (.tmp 11) (.const (.int .i64 1)), none, []⟩, ⟨10, (some 13), .idxS (.tmp 6) (.tmp 12) 1, none, []⟩, ⟨11, (some 14), .load1 (.tmp 13), none, []⟩, ⟨12, (some 2), .move (.tmp 14), none, []⟩])
 .ret)), [.tmp 2]⟩
/- (*bellarmine/lock.basin[int]).take -/
def pf97 : PF := ⟨21, (.seq (.region false [⟨0, (some 2), .move (.const (.int .i64 0)), none, []⟩])
 (.seq (.region false [⟨0, (some 4), .move (.tmp 0), none, []⟩, ⟨1, (some 5), .callF 96 [(.tmp 4)], none, []⟩, ⟨2, (some 3), .move (.tmp 5), none, []⟩])
 (.seq (.region true [⟨0, (some 6), .move (.tmp 0), none, []⟩, ⟨1, (some 7), .move (.tmp 0), none, []⟩, ⟨2, (some 8), .nilCheck (.tmp 7), none, []⟩, ⟨3, (some 9), .fieldAddr (.tmp 8) 0, none, []⟩, ⟨4, (some 10), .load1 (.tmp 9), none, []⟩, ⟨5, (some 11), .move (.tmp 0), none, []⟩, ⟨6, (some 12), .nilCheck (.tmp 11), none, []⟩, ⟨7, (some 13), .fieldAddr (.tmp 12) 0, none, []⟩, ⟨8, (some 14), .load1 (.tmp 13), none, []⟩, ⟨9, (some 15), .len (.tmp 14), none, []⟩, ⟨10, (some 16), .ibin .sub .i64 (.tmp 15) (.const (.int .i64 1)), none, []⟩, ⟨11, (some 17), .slS (.tmp 10) 1 none (some (.tmp 16)) none, none, []⟩, ⟨12, (some 18), .nilCheck (.tmp 6), none, []⟩, ⟨13, (some 19), .fieldAddr (.tmp 18) 0, none, []⟩, ⟨14, none, .store (.tmp 19) (.tmp 17) 1, none, []⟩])
 (.seq (.region false [⟨0, (some 20), .move (.tmp 3), none, []⟩, ⟨1, (some 2), .move (.tmp 20), none, []⟩])
 .ret)))), [.tmp 2]⟩
/- (*bellarmine/lock.basin[int]).bring -/
def pf98 : PF := ⟨14, (.region false [⟨0, (some 4), .move (.tmp 0), none, []⟩, ⟨1, (some 5), .move (.tmp 0), none, []⟩, ⟨2, (some 6), .nilCheck (.tmp 5), none, []⟩, ⟨3, (some 7), .fieldAddr (.tmp 6) 0, none, []⟩, ⟨4, (some 8), .load1 (.tmp 7), none, []⟩, ⟨5, (some 9), .move (.tmp 1), none, []⟩, ⟨6, (some 10), .bldS 3 1 [(.int .i64 0)] 1 [(0, (.tmp 9))], none, []⟩, ⟨7, (some 11), .append 3 1 (.tmp 8) (.tmp 10), none, []⟩, ⟨8, (some 12), .nilCheck (.tmp 4), none, []⟩, ⟨9, (some 13), .fieldAddr (.tmp 12) 0, none, []⟩, ⟨10, none, .store (.tmp 13) (.tmp 11) 1, none, []⟩]), []⟩
/- bellarmine/lock.letters$1 -/
def pf99 : PF := ⟨13, (.region true [⟨0, (some 5), .load1 (.tmp 2), none, []⟩, ⟨1, (some 6), .load1 (.tmp 2), none, []⟩, ⟨2, (some 7), .nilCheck (.tmp 6), none, []⟩, ⟨3, (some 8), .load1 (.tmp 7), none, []⟩, ⟨4, (some 9), .move (.tmp 0), none, []⟩, ⟨5, (some 10), .bldS 5 1 [(.int .u8 0)] 1 [(0, (.tmp 9))], none, [0, 1, 3]⟩, ⟨6, (some 11), .append 5 1 (.tmp 8) (.tmp 10), none, [0]⟩, ⟨7, (some 12), .nilCheck (.tmp 5), none, []⟩, ⟨8, none, .store (.tmp 12) (.tmp 11) 1, none, []⟩]), []⟩
/- bellarmine/lock.leavers$1 -/
def pf100 : PF := ⟨15, (.seq (.region false [⟨0, (some 5), .move (.tmp 0), none, []⟩, ⟨1, (some 6), .ibin .eql .u8 (.tmp 5) (.const (.int .u8 111)), none, []⟩])
 (.cond (.tmp 6) (.region true [⟨0, (some 7), .load1 (.tmp 2), none, []⟩, ⟨1, (some 8), .load1 (.tmp 2), none, []⟩, ⟨2, (some 9), .nilCheck (.tmp 8), none, []⟩, ⟨3, (some 10), .load1 (.tmp 9), none, []⟩, ⟨4, (some 11), .move (.tmp 1), none, []⟩, ⟨5, (some 12), .bldS 3 1 [(.int .i64 0)] 1 [(0, (.tmp 11))], none, [0, 1, 3]⟩, ⟨6, (some 13), .append 3 1 (.tmp 10) (.tmp 12), none, [0]⟩, ⟨7, (some 14), .nilCheck (.tmp 7), none, []⟩, ⟨8, none, .store (.tmp 14) (.tmp 13) 1, none, []⟩]) .skip)), []⟩
/- bellarmine/lock.canAscend$1 -/
def pf101 : PF := ⟨4, .skip, []⟩
/- bellarmine/bellarmineref11.ascending -/
def pf102 : PF := ⟨16, (.seq (.region false [⟨0, (some 2), .move (.const (.bool false)), none, []⟩])
 (.seq (.seq (.region false [⟨0, (some 3), .move (.const (.int .i64 0)), none, []⟩])
 (.block 0 (.loop (.seq (.seq (.region false [⟨0, (some 4), .move (.tmp 3), none, []⟩, ⟨1, (some 5), .move (.tmp 0), none, []⟩, ⟨2, (some 6), .len (.tmp 5), none, []⟩, ⟨3, (some 7), .ibin .lss .i64 (.tmp 4) (.tmp 6), none, []⟩])
 (.cond (.tmp 7) .skip (.exit 0)))
 (.seq (.block 1 (.seq (.region false [⟨0, (some 10), .move (.tmp 0), none, []⟩, ⟨1, (some 11), .move (.tmp 3), none, []⟩, ⟨2, (some 12), .idxS (.tmp 10) (.tmp 11) 1, none, []⟩, ⟨3, (some 13), .load1 (.tmp 12), none, []⟩, ⟨4, (some 14), .move (.tmp 3), none, []⟩, ⟨5, (some 15), .ibin .neq .i64 (.tmp 13) (.tmp 14), none, []⟩])
 (.cond (.tmp 15) (.seq (.region false [⟨0, (some 2), .move (.const (.bool false)), none, []⟩])
 .ret) .skip)))
 (.region false [⟨0, (some 8), .move (.tmp 3), none, []⟩, ⟨1, (some 9), .ibin .add .i64 (.tmp 8) (.const (.int .i64 1)), none, []⟩, ⟨2, (some 3), .move (.tmp 9), none, []⟩]))))))
 (.seq (.region false [⟨0, (some 2), .move (.const (.bool true)), none, []⟩])
 .ret))), [.tmp 2]⟩
/- bellarmine/lock.lists$1 -/
def pf103 : PF := ⟨36, (.seq (.region false [⟨0, (some 5), .new 108 [(.slice none 0 0)], none, []⟩])
 (.seq (.region false [⟨0, (some 8), .callF 104 [(.tmp 5), (.const (.slice none 0 0))], none, []⟩])
 (.block 0 (.loop (.seq (.seq (.region false [⟨0, (some 9), .callF 105 [(.tmp 5)], none, []⟩, ⟨1, (some 10), .not (.tmp 9), none, []⟩])
 (.cond (.tmp 10) .skip (.exit 0)))
 (.block 1 (.seq (.region false [⟨0, (some 11), .callF 106 [(.tmp 5)], none, []⟩, ⟨1, (some 6), .move (.tmp 11), none, []⟩])
 (.seq (.seq (.region false [⟨0, (some 12), .move (.tmp 6), none, []⟩, ⟨1, (some 13), .len (.tmp 12), none, []⟩, ⟨2, (some 14), .load1 (.tmp 1), none, []⟩, ⟨3, (some 15), .ibin .eql .i64 (.tmp 13) (.tmp 14), none, []⟩])
 (.cond (.tmp 15) (.seq (.seq (.region false [⟨0, (some 16), .move (.tmp 0), none, []⟩, ⟨1, (some 17), .move (.tmp 6), none, []⟩, ⟨2, (some 18), .callV (.tmp 16) [(.tmp 17)], none, []⟩, ⟨3, (some 19), .not (.tmp 18), none, []⟩])
 (.cond (.tmp 19) .ret .skip))
 (.exit 1)) .skip))
 (.seq (.region false [⟨0, (some 20), .load1 (.tmp 2), none, []⟩, ⟨1, (some 21), .ibin .sub .i64 (.tmp 20) (.const (.int .i64 1)), none, []⟩, ⟨2, (some 7), .move (.tmp 21), none, []⟩])
 (.block 2 (.loop (.seq (.seq (.region false [⟨0, (some 22), .move (.tmp 7), none, []⟩, ⟨1, (some 23), .ibin .geq .i64 (.tmp 22) (.const (.int .i64 0)), none, []⟩])
 (.cond (.tmp 23) .skip (.exit 2)))
 (.seq (.block 3 (.seq (.region false [⟨0, (some 26), .load1 (.tmp 3), none, []⟩, ⟨1, (some 27), .move (.tmp 6), none, []⟩, ⟨2, (some 28), .move (.tmp 7), none, []⟩, ⟨3, (some 29), .callV (.tmp 26) [(.tmp 27), (.tmp 28)], none, []⟩])
 (.cond (.tmp 29) (.region false [⟨0, (some 30), .move (.tmp 6), none, []⟩, ⟨1, (some 31), .callF 107 [(.tmp 30)], none, []⟩, ⟨2, (some 32), .move (.tmp 7), none, []⟩, ⟨3, (some 33), .bldS 3 1 [(.int .i64 0)] 1 [(0, (.tmp 32))], none, []⟩, ⟨4, (some 34), .append 3 1 (.tmp 31) (.tmp 33), none, []⟩, ⟨5, (some 35), .callF 104 [(.tmp 5), (.tmp 34)], none, []⟩]) .skip)))
 (.region false [⟨0, (some 24), .move (.tmp 7), none, []⟩, ⟨1, (some 25), .ibin .sub .i64 (.tmp 24) (.const (.int .i64 1)), none, []⟩, ⟨2, (some 7), .move (.tmp 25), none, []⟩])))))))))))))), []⟩
/- (*bellarmine/lock.basin[[]int]).bring -/
def pf104 : PF := ⟨14, (.region false [⟨0, (some 4), .move (.tmp 0), none, []⟩, ⟨1, (some 5), .move (.tmp 0), none, []⟩, ⟨2, (some 6), .nilCheck (.tmp 5), none, []⟩, ⟨3, (some 7), .fieldAddr (.tmp 6) 0, none, []⟩, ⟨4, (some 8), .load1 (.tmp 7), none, []⟩, ⟨5, (some 9), .move (.tmp 1), none, []⟩, ⟨6, (some 10), .bldS 22 1 [(.slice none 0 0)] 1 [(0, (.tmp 9))], none, []⟩, ⟨7, (some 11), .append 22 1 (.tmp 8) (.tmp 10), none, []⟩, ⟨8, (some 12), .nilCheck (.tmp 4), none, []⟩, ⟨9, (some 13), .fieldAddr (.tmp 12) 0, none, []⟩, ⟨10, none, .store (.tmp 13) (.tmp 11) 1, none, []⟩]), []⟩
/- (*bellarmine/lock.basin[[]int]).isEmpty -/
def pf105 : PF := ⟨9, (.seq (.region false [⟨0, (some 2), .move (.const (.bool false)), none, []⟩])
 (.seq (.region false [⟨0, (some 3), .move (.tmp 0), none, []⟩, ⟨1, (some 4), .nilCheck (.tmp 3), none, []⟩, ⟨2, (some 5), .fieldAddr (.tmp 4) 0, none, []⟩, ⟨3, (some 6), .load1 (.tmp 5), none, []⟩, ⟨4, (some 7), .len (.tmp 6), none, []⟩, ⟨5, (some 8), .ibin .eql .i64 (.tmp 7) (.const (.int .i64 0)), none, []⟩, ⟨6, (some 2), .move (.tmp 8), none, []⟩])
 .ret)), [.tmp 2]⟩
/- (*bellarmine/lock.basin[[]int]).take -/
def pf106 : PF := ⟨21, (.seq (.region false [⟨0, (some 2), .move (.const (.slice none 0 0)), none, []⟩])
 (.seq (.region false [⟨0, (some 4), .move (.tmp 0), none, []⟩, ⟨1, (some 5), .callF 120 [(.tmp 4)], none, []⟩, ⟨2, (some 3), .move (.tmp 5), none, []⟩])
 (.seq (.region true [⟨0, (some 6), .move (.tmp 0), none, []⟩, ⟨1, (some 7), .move (.tmp 0), none, []⟩, ⟨2, (some 8), .nilCheck (.tmp 7), none, []⟩, ⟨3, (some 9), .fieldAddr (.tmp 8) 0, none, []⟩, ⟨4, (some 10), .load1 (.tmp 9), none, []⟩, ⟨5, (some 11), .move (.tmp 0), none, []⟩, ⟨6, (some 12), .nilCheck (.tmp 11), none, []⟩, ⟨7, (some 13), .fieldAddr (.tmp 12) 0, none, []⟩, ⟨8, (some 14), .load1 (.tmp 13), none, []⟩, ⟨9, (some 15), .len (.tmp 14), none, []⟩, ⟨10, (some 16), .ibin .sub .i64 (.tmp 15) (.const (.int .i64 1)), none, []⟩, ⟨11, (some 17), .slS (.tmp 10) 1 none (some (.tmp 16)) none, none, []⟩, ⟨12, (some 18), .nilCheck (.tmp 6), none, []⟩, ⟨13, (some 19), .fieldAddr (.tmp 18) 0, none, []⟩, ⟨14, none, .store (.tmp 19) (.tmp 17) 1, none, []⟩])
 (.seq (.region false [⟨0, (some 20), .move (.tmp 3), none, []⟩, ⟨1, (some 2), .move (.tmp 20), none, []⟩])
 .ret)))), [.tmp 2]⟩
/- slices.Clone[[]int,int] -/
def pf107 : PF := ⟨8, (.seq (.region false [⟨0, (some 2), .move (.const (.slice none 0 0)), none, []⟩])
 (.seq (.seq (.region false [⟨0, (some 3), .move (.tmp 0), none, []⟩, ⟨1, (some 4), .nilEq false .sl (.tmp 3), none, []⟩])
 (.cond (.tmp 4) (.seq (.region false [⟨0, (some 2), .move (.const (.slice none 0 0)), none, []⟩])
 .ret) .skip))
 (.seq (.region false [⟨0, (some 5), .bldS 3 1 [] 0 [], none, []⟩, ⟨1, (some 6), .move (.tmp 0), none, []⟩, ⟨2, (some 7), .append 3 1 (.tmp 5) (.tmp 6), none, []⟩, ⟨3, (some 2), .move (.tmp 7), none, []⟩])
 .ret))), [.tmp 2]⟩
/- bellarmine/lock.takeLast -/
def pf108 : PF := ⟨27, (.seq (.region false [⟨0, (some 4), .move (.const (.bool false)), none, []⟩])
 (.seq (.seq (.region false [⟨0, (some 7), .move (.tmp 0), none, []⟩, ⟨1, (some 8), .len (.tmp 7), none, []⟩, ⟨2, (some 9), .move (.const (.int .i64 0)), none, []⟩])
 (.block 0 (.loop (.seq (.region false [⟨0, (some 10), .ibin .lss .i64 (.tmp 9) (.tmp 8), none, []⟩])
 (.seq (.cond (.tmp 10) .skip (.exit 0))
 (.seq (.block 1 (.seq (.region false [⟨0, (some 11), .move (.tmp 9), none, []⟩, ⟨1, (some 5), .move (.tmp 11), none, []⟩])
 (.seq (.region false [⟨0, (some 12), .move (.tmp 0), none, []⟩, ⟨1, (some 13), .move (.tmp 5), none, []⟩, ⟨2, (some 14), .idxS (.tmp 12) (.tmp 13) 1, none, []⟩, ⟨3, (some 6), .move (.tmp 14), none, []⟩])
 (.seq (.region false [⟨0, (some 15), .move (.tmp 6), none, []⟩, ⟨1, (some 16), .callF 95 [(.tmp 15)], none, []⟩, ⟨2, (some 17), .not (.tmp 16), none, []⟩, ⟨3, (some 18), .move (.tmp 17), none, []⟩, ⟨4, (some 19), .move (.tmp 6), (some (18, true)), []⟩, ⟨5, (some 20), .callF 96 [(.tmp 19)], (some (18, true)), []⟩, ⟨6, (some 21), .move (.tmp 1), (some (18, true)), []⟩, ⟨7, (some 22), .ibin .eql .i64 (.tmp 20) (.tmp 21), (some (18, true)), []⟩, ⟨8, (some 23), .pick (.tmp 18) (.tmp 22) (.const (.bool false)), none, []⟩])
 (.cond (.tmp 23) (.seq (.region false [⟨0, (some 24), .move (.tmp 6), none, []⟩, ⟨1, (some 25), .callF 97 [(.tmp 24)], none, []⟩])
 (.seq (.region false [⟨0, (some 4), .move (.const (.bool true)), none, []⟩])
 .ret)) .skip)))))
 (.region false [⟨0, (some 26), .ibin .add .i64 (.tmp 9) (.const (.int .i64 1)), none, []⟩, ⟨1, (some 9), .move (.tmp 26), none, []⟩])))))))
 (.seq (.region false [⟨0, (some 4), .move (.const (.bool false)), none, []⟩])
 .ret))), [.tmp 4]⟩
/- cmp.isNaN[int] -/
def pf109 : PF := ⟨6, (.seq (.region false [⟨0, (some 2), .move (.const (.bool false)), none, []⟩])
 (.seq (.region false [⟨0, (some 3), .move (.tmp 0), none, []⟩, ⟨1, (some 4), .move (.tmp 0), none, []⟩, ⟨2, (some 5), .ibin .neq .i64 (.tmp 3) (.tmp 4), none, []⟩, ⟨3, (some 2), .move (.tmp 5), none, []⟩])
 .ret)), [.tmp 2]⟩
/- (*bellarmine/lock.basin[[]int]).last -/
def pf120 : PF := ⟨15, (.seq (.region false [⟨0, (some 2), .move (.const (.slice none 0 0)), none, []⟩])
 (.seq (.region true [⟨0, (some 3), .move (.tmp 0), none, []⟩, ⟨1, (some 4), .nilCheck (.tmp 3), none, []⟩, ⟨2, (some 5), .fieldAddr (.tmp 4) 0, none, []⟩, ⟨3, (some 6), .load1 (.tmp 5), none, []⟩, ⟨4, (some 7), .move (.tmp 0), none, []⟩, ⟨5, (some 8), .nilCheck (.tmp 7), none, []⟩, ⟨6, (some 9), .fieldAddr (.tmp 8) 0, none, []⟩, ⟨7, (some 10), .load1 (.tmp 9), none, []⟩, ⟨8, (some 11), .len (.tmp 10), none, []⟩, ⟨9, (some 12), .ibin .sub .i64 (.tmp 11) (.const (.int .i64 1)), none, []⟩, ⟨10, (some 13), .idxS (.tmp 6) (.tmp 12) 1, none, []⟩, ⟨11, (some 14), .load1 (.tmp 13), none, []⟩, ⟨12, (some 2), .move (.tmp 14), none, []⟩])
 .ret)), [.tmp 2]⟩
def funcs : Tr PF := (.node none (.node none (.node none (.node none (.node none (.node (some pf31) (.node (some pf63) .nil .nil) (.node (some pf95) .nil .nil)) (.node (some pf47) .nil .nil)) (.node (some pf23) (.node (some pf39) (.node (some pf71) .nil .nil) (.node (some pf103) .nil .nil)) (.node none (.node (some pf87) .nil .nil) .nil))) (.node none (.node (some pf19) (.node none (.node (some pf67) .nil .nil) (.node (some pf99) .nil .nil)) .nil) (.node (some pf27) (.node none (.node (some pf75) .nil .nil) (.node (some pf107) .nil .nil)) .nil))) (.node none (.node none (.node none (.node none (.node (some pf65) .nil .nil) (.node (some pf97) .nil .nil)) (.node none (.node (some pf81) .nil .nil) .nil)) (.node (some pf25) (.node none (.node (some pf73) .nil .nil) (.node (some pf105) .nil .nil)) (.node none (.node (some pf89) .nil .nil) .nil))) (.node none (.node (some pf21) (.node none (.node (some pf69) .nil .nil) (.node (some pf101) .nil .nil)) (.node none (.node (some pf85) .nil .nil) .nil)) (.node (some pf29) (.node (some pf45) (.node (some pf77) .nil .nil) (.node (some pf109) .nil .nil)) (.node (some pf61) .nil .nil))))) (.node none (.node none (.node (some pf8) (.node (some pf16) (.node none (.node (some pf64) .nil .nil) (.node (some pf96) .nil .nil)) (.node (some pf48) (.node (some pf80) .nil .nil) .nil)) (.node (some pf24) (.node none (.node (some pf72) .nil .nil) (.node (some pf104) .nil .nil)) (.node none .nil (.node (some pf120) .nil .nil)))) (.node none (.node (some pf20) (.node none (.node (some pf68) .nil .nil) (.node (some pf100) .nil .nil)) (.node (some pf52) .nil .nil)) (.node (some pf28) (.node none (.node (some pf76) .nil .nil) (.node (some pf108) .nil .nil)) .nil))) (.node none (.node none (.node (some pf18) (.node none (.node (some pf66) .nil .nil) (.node (some pf98) .nil .nil)) .nil) (.node (some pf26) (.node (some pf42) (.node (some pf74) .nil .nil) (.node (some pf106) .nil .nil)) (.node none (.node (some pf90) .nil .nil) .nil))) (.node none (.node (some pf22) (.node none (.node (some pf70) .nil .nil) (.node (some pf102) .nil .nil)) .nil) (.node (some pf30) (.node (some pf46) .nil .nil) (.node (some pf62) .nil .nil))))))
noncomputable def C : CW := ⟨{ P := Try.prog, funcs := funcs }, 15⟩
end Go.Proofs.Ytfnflkcjhefddaa.Lk
