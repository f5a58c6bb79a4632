/- The program's functions, prepared: written by program, checked below. -/
import Derived.Test.YtnmlfjohoeebiaaSymMono
import Derived.Test.YtnmlfjohoeebiaaGl0
import Derived.Test.YtnmlfjohoeebiaaRows
namespace Go.Proofs.Ytnmlfjohoeebiaa.Wk
open Go Go.Abs
set_option maxRecDepth 100000
set_option maxHeartbeats 4000000
/- bellarmine/bellarminelaw08.WalkEven -/
def pf9 : PF := ⟨72, (.seq (.region false [⟨0, (some 1), .box 45 (.tmp 0), none, []⟩, ⟨1, (some 2), .move (.const (.bool false)), none, []⟩])
 (.seq (.region false [⟨0, (some 3), .move (.const (.slice none 0 0)), none, []⟩])
 (.seq (.seq (.region false [⟨0, (some 8), .fieldAddr (.tmp 1) 1, none, []⟩, ⟨1, (some 9), .fieldAddr (.tmp 1) 0, none, []⟩, ⟨2, (some 10), .load1 (.tmp 9), none, []⟩, ⟨3, (some 11), .plain ⟨(some 11), .convert 5 3 (.tmp 10), 3, (String.ofList [Char.ofNat 111, Char.ofNat 117, Char.ofNat 116, Char.ofNat 114, Char.ofNat 105, Char.ofNat 103, Char.ofNat 104, Char.ofNat 116, Char.ofNat 46, Char.ofNat 103, Char.ofNat 111, Char.ofNat 58, Char.ofNat 49, Char.ofNat 54, Char.ofNat 53]), #[⟨2, .data⟩], none⟩, none, []⟩, ⟨4, (some 12), .ibin .rem .i64 (.tmp 11) (.const (.int .i64 4)), none, []⟩, ⟨5, (some 13), .ibin .add .i64 (.const (.int .i64 1)) (.tmp 12), none, []⟩, ⟨6, (some 14), .slA (.tmp 8) 4 1 none (some (.tmp 13)) none, none, []⟩, ⟨7, (some 15), .len (.tmp 14), none, []⟩, ⟨8, (some 16), .move (.const (.int .i64 0)), none, []⟩])
 (.block 0 (.loop (.seq (.region false [⟨0, (some 17), .ibin .lss .i64 (.tmp 16) (.tmp 15), none, []⟩])
 (.seq (.cond (.tmp 17) .skip (.exit 0))
 (.seq (.block 1 (.seq (.region false [⟨0, (some 18), .idxS (.tmp 14) (.tmp 16) 1, none, []⟩, ⟨1, (some 19), .load1 (.tmp 18), none, []⟩, ⟨2, (some 5), .move (.tmp 19), none, []⟩])
 (.seq (.region false [⟨0, (some 20), .move (.tmp 3), none, []⟩, ⟨1, (some 21), .move (.tmp 5), none, []⟩, ⟨2, (some 22), .ibin .rem .u8 (.tmp 21) (.const (.int .u8 4)), none, []⟩, ⟨3, (some 23), .plain ⟨(some 23), .binOp .shl 3 (.const (.int .i64 1)) (.tmp 22) 5, 3, (String.ofList [Char.ofNat 111, Char.ofNat 117, Char.ofNat 116, Char.ofNat 114, Char.ofNat 105, Char.ofNat 103, Char.ofNat 104, Char.ofNat 116, Char.ofNat 46, Char.ofNat 103, Char.ofNat 111, Char.ofNat 58, Char.ofNat 49, Char.ofNat 54, Char.ofNat 54]), #[⟨2, .data⟩], none⟩, none, []⟩, ⟨4, (some 24), .bldS 3 1 [(.int .i64 0)] 1 [(0, (.tmp 23))], none, []⟩, ⟨5, (some 25), .append 3 1 (.tmp 20) (.tmp 24), none, []⟩, ⟨6, (some 3), .move (.tmp 25), none, []⟩])
 (.seq (.seq (.region false [⟨0, (some 26), .fieldAddr (.tmp 1) 0, none, []⟩, ⟨1, (some 27), .load1 (.tmp 26), none, []⟩, ⟨2, (some 28), .ibin .rem .u8 (.tmp 27) (.const (.int .u8 8)), none, []⟩, ⟨3, (some 29), .ibin .gtr .u8 (.tmp 28) (.const (.int .u8 4)), none, []⟩])
 (.cond (.tmp 29) (.region false [⟨0, (some 30), .move (.tmp 3), none, []⟩, ⟨1, (some 31), .move (.tmp 3), none, []⟩, ⟨2, (some 32), .len (.tmp 31), none, []⟩, ⟨3, (some 33), .ibin .sub .i64 (.tmp 32) (.const (.int .i64 1)), none, []⟩, ⟨4, (some 34), .bldS 3 1 [(.int .i64 0), (.int .i64 0), (.int .i64 0), (.int .i64 0)] 4 [(0, (.const (.int .i64 1))), (1, (.const (.int .i64 2))), (2, (.const (.int .i64 6))), (3, (.const (.int .i64 6)))], none, []⟩, ⟨5, (some 35), .move (.tmp 5), none, []⟩, ⟨6, (some 36), .ibin .rem .u8 (.tmp 35) (.const (.int .u8 4)), none, []⟩, ⟨7, (some 37), .idxS (.tmp 34) (.tmp 36) 1, none, []⟩, ⟨8, (some 38), .load1 (.tmp 37), none, []⟩, ⟨9, (some 39), .idxS (.tmp 30) (.tmp 33) 1, none, []⟩, ⟨10, none, .store (.tmp 39) (.tmp 38) 1, none, []⟩]) .skip))
 (.seq (.region false [⟨0, (some 40), .fieldAddr (.tmp 1) 0, none, []⟩, ⟨1, (some 41), .load1 (.tmp 40), none, []⟩, ⟨2, (some 42), .ibin .rem .u8 (.tmp 41) (.const (.int .u8 8)), none, []⟩, ⟨3, (some 43), .ibin .eql .u8 (.tmp 42) (.const (.int .u8 4)), none, []⟩])
 (.cond (.tmp 43) (.region false [⟨0, (some 44), .move (.tmp 3), none, []⟩, ⟨1, (some 45), .move (.tmp 3), none, []⟩, ⟨2, (some 46), .len (.tmp 45), none, []⟩, ⟨3, (some 47), .ibin .sub .i64 (.tmp 46) (.const (.int .i64 1)), none, []⟩, ⟨4, (some 48), .bldS 3 1 [(.int .i64 0), (.int .i64 0), (.int .i64 0), (.int .i64 0)] 4 [(0, (.const (.int .i64 1))), (1, (.const (.int .i64 3))), (2, (.const (.int .i64 3))), (3, (.const (.int .i64 6)))], none, []⟩, ⟨5, (some 49), .move (.tmp 5), none, []⟩, ⟨6, (some 50), .ibin .rem .u8 (.tmp 49) (.const (.int .u8 4)), none, []⟩, ⟨7, (some 51), .idxS (.tmp 48) (.tmp 50) 1, none, []⟩, ⟨8, (some 52), .load1 (.tmp 51), none, []⟩, ⟨9, (some 53), .idxS (.tmp 44) (.tmp 47) 1, none, []⟩, ⟨10, none, .store (.tmp 53) (.tmp 52) 1, none, []⟩]) .skip))))))
 (.region false [⟨0, (some 54), .ibin .add .i64 (.tmp 16) (.const (.int .i64 1)), none, []⟩, ⟨1, (some 16), .move (.tmp 54), none, []⟩])))))))
 (.seq (.region false [⟨0, (some 56), .move (.tmp 3), none, []⟩, ⟨1, (some 57), .callF 19 [(.tmp 56)], none, []⟩, ⟨2, (some 55), .move (.tmp 57), none, []⟩, ⟨3, (some 58), .ext (.tmp 55) 0, none, []⟩, ⟨4, (some 59), .ext (.tmp 55) 1, none, []⟩, ⟨5, (some 6), .move (.tmp 58), none, []⟩, ⟨6, (some 7), .move (.tmp 59), none, []⟩])
 (.seq (.region false [⟨0, (some 60), .move (.tmp 7), none, []⟩, ⟨1, (some 61), .ibin .eql .i64 (.tmp 60) (.const (.int .i64 0)), none, []⟩, ⟨2, (some 62), .move (.tmp 61), none, []⟩, ⟨3, (some 63), .move (.tmp 6), (some (62, true)), []⟩, ⟨4, (some 64), .move (.tmp 3), (some (62, true)), []⟩, ⟨5, (some 65), .callF 39 [(.tmp 64), (.const (.int .i64 1)), (.const (.int .i64 1))], (some (62, true)), []⟩, ⟨6, (some 66), .ibin .leq .i64 (.tmp 65) (.const (.int .i64 0)), (some (62, true)), []⟩, ⟨7, (some 67), .plain ⟨(some 67), .binOp .eql 4 (.tmp 63) (.tmp 66) 4, 4, (String.ofList [Char.ofNat 111, Char.ofNat 117, Char.ofNat 116, Char.ofNat 114, Char.ofNat 105, Char.ofNat 103, Char.ofNat 104, Char.ofNat 116, Char.ofNat 46, Char.ofNat 103, Char.ofNat 111, Char.ofNat 58, Char.ofNat 49, Char.ofNat 55, Char.ofNat 53]), #[⟨3, .data⟩, ⟨6, .data⟩, ⟨2, .guard⟩], (some (2, true))⟩, (some (62, true)), []⟩, ⟨8, (some 68), .pick (.tmp 62) (.tmp 67) (.const (.bool false)), none, []⟩, ⟨9, (some 69), .move (.tmp 68), none, []⟩, ⟨10, (some 70), .callF 16 [], (some (69, true)), []⟩, ⟨11, (some 71), .pick (.tmp 69) (.tmp 70) (.const (.bool false)), none, []⟩, ⟨12, (some 2), .move (.tmp 71), none, []⟩])
 .ret))))), [.tmp 2]⟩
/- bellarmine/walk.Can -/
def pf19 : PF := ⟨13, (.seq (.region false [⟨0, (some 2), .move (.const (.bool false)), none, []⟩, ⟨1, (some 3), .move (.const (.int .i64 0)), none, []⟩])
 (.seq (.seq (.region false [⟨0, (some 5), .move (.tmp 0), none, []⟩, ⟨1, (some 6), .callF 23 [(.tmp 5)], none, []⟩, ⟨2, (some 4), .move (.tmp 6), none, []⟩])
 (.seq (.region false [⟨0, (some 7), .move (.tmp 4), none, []⟩, ⟨1, (some 8), .ibin .neq .i64 (.tmp 7) (.const (.int .i64 0)), none, []⟩])
 (.cond (.tmp 8) (.seq (.region false [⟨0, (some 9), .move (.tmp 4), none, []⟩, ⟨1, (some 2), .move (.const (.bool false)), none, []⟩, ⟨2, (some 3), .move (.tmp 9), none, []⟩])
 .ret) .skip)))
 (.seq (.region false [⟨0, (some 10), .move (.tmp 0), none, []⟩, ⟨1, (some 11), .callF 54 [(.tmp 10)], none, []⟩, ⟨2, (some 12), .callF 55 [(.tmp 11)], none, []⟩, ⟨3, (some 2), .move (.tmp 12), none, []⟩, ⟨4, (some 3), .move (.const (.int .i64 0)), none, []⟩])
 .ret))), [.tmp 2, .tmp 3]⟩
/- bellarmine/walk.Longest -/
def pf21 : PF := ⟨19, (.seq (.region false [⟨0, (some 2), .move (.const (.int .i64 0)), none, []⟩, ⟨1, (some 3), .move (.const (.int .i64 0)), none, []⟩])
 (.seq (.seq (.region false [⟨0, (some 6), .move (.tmp 0), none, []⟩, ⟨1, (some 7), .callF 23 [(.tmp 6)], none, []⟩, ⟨2, (some 4), .move (.tmp 7), none, []⟩])
 (.seq (.region false [⟨0, (some 8), .move (.tmp 4), none, []⟩, ⟨1, (some 9), .ibin .neq .i64 (.tmp 8) (.const (.int .i64 0)), none, []⟩])
 (.cond (.tmp 9) (.seq (.region false [⟨0, (some 10), .move (.tmp 4), none, []⟩, ⟨1, (some 2), .move (.const (.int .i64 0)), none, []⟩, ⟨2, (some 3), .move (.tmp 10), none, []⟩])
 .ret) .skip)))
 (.seq (.region false [⟨0, (some 11), .move (.tmp 0), none, []⟩, ⟨1, (some 12), .callF 54 [(.tmp 11)], none, []⟩, ⟨2, (some 13), .move (.tmp 0), none, []⟩, ⟨3, (some 14), .callF 58 [(.tmp 13)], none, []⟩, ⟨4, (some 15), .callF 57 [(.tmp 12), (.tmp 14)], none, []⟩, ⟨5, (some 5), .move (.tmp 15), none, []⟩])
 (.seq (.seq (.region false [⟨0, (some 16), .move (.tmp 5), none, []⟩, ⟨1, (some 17), .ibin .eql .i64 (.tmp 16) (.const (.int .i64 (-1))), none, []⟩])
 (.cond (.tmp 17) (.seq (.region false [⟨0, (some 2), .move (.const (.int .i64 0)), none, []⟩, ⟨1, (some 3), .move (.const (.int .i64 13)), none, []⟩])
 .ret) .skip))
 (.seq (.region false [⟨0, (some 18), .move (.tmp 5), none, []⟩, ⟨1, (some 2), .move (.tmp 18), none, []⟩, ⟨2, (some 3), .move (.const (.int .i64 0)), none, []⟩])
 .ret))))), [.tmp 2, .tmp 3]⟩
/- bellarmine/walk.Check -/
def pf23 : PF := ⟨24, (.seq (.region false [⟨0, (some 2), .move (.const (.int .i64 0)), none, []⟩])
 (.seq (.seq (.region false [⟨0, (some 5), .move (.tmp 0), none, []⟩, ⟨1, (some 6), .len (.tmp 5), none, []⟩, ⟨2, (some 7), .ibin .eql .i64 (.tmp 6) (.const (.int .i64 0)), none, []⟩])
 (.cond (.tmp 7) (.seq (.region false [⟨0, (some 2), .move (.const (.int .i64 4)), none, []⟩])
 .ret) .skip))
 (.seq (.seq (.region false [⟨0, (some 8), .move (.tmp 0), none, []⟩, ⟨1, (some 9), .len (.tmp 8), none, []⟩, ⟨2, (some 10), .ibin .gtr .i64 (.tmp 9) (.const (.int .i64 4)), none, []⟩])
 (.cond (.tmp 10) (.seq (.region false [⟨0, (some 2), .move (.const (.int .i64 3)), none, []⟩])
 .ret) .skip))
 (.seq (.seq (.region false [⟨0, (some 11), .move (.tmp 0), none, []⟩, ⟨1, (some 12), .len (.tmp 11), none, []⟩, ⟨2, (some 13), .move (.const (.int .i64 0)), none, []⟩])
 (.block 0 (.loop (.seq (.region false [⟨0, (some 14), .ibin .lss .i64 (.tmp 13) (.tmp 12), none, []⟩])
 (.seq (.cond (.tmp 14) .skip (.exit 0))
 (.seq (.block 1 (.seq (.region false [⟨0, (some 15), .idxS (.tmp 11) (.tmp 13) 1, none, []⟩, ⟨1, (some 16), .load1 (.tmp 15), none, []⟩, ⟨2, (some 4), .move (.tmp 16), none, []⟩])
 (.seq (.region false [⟨0, (some 17), .move (.tmp 4), none, []⟩, ⟨1, (some 18), .ibin .lss .i64 (.tmp 17) (.const (.int .i64 1)), none, []⟩, ⟨2, (some 19), .move (.tmp 18), none, []⟩, ⟨3, (some 20), .move (.tmp 4), (some (19, false)), []⟩, ⟨4, (some 21), .ibin .gtr .i64 (.tmp 20) (.const (.int .i64 8)), (some (19, false)), []⟩, ⟨5, (some 22), .pick (.tmp 19) (.const (.bool true)) (.tmp 21), none, []⟩])
 (.cond (.tmp 22) (.seq (.region false [⟨0, (some 2), .move (.const (.int .i64 1)), none, []⟩])
 .ret) .skip))))
 (.region false [⟨0, (some 23), .ibin .add .i64 (.tmp 13) (.const (.int .i64 1)), none, []⟩, ⟨1, (some 13), .move (.tmp 23), none, []⟩])))))))
 (.seq (.region false [⟨0, (some 2), .move (.const (.int .i64 0)), none, []⟩])
 .ret))))), [.tmp 2]⟩
/- (bellarmine/bellarminelaw08.Beach).made -/
def pf38 : PF := ⟨33, (.seq (.region false [⟨0, (some 3), .box 45 (.tmp 0), none, []⟩, ⟨1, (some 6), .move (.const (.slice none 0 0)), none, []⟩])
 (.seq (.region false [⟨0, (some 7), .move (.const (.slice none 0 0)), none, []⟩])
 (.seq (.seq (.region false [⟨0, (some 10), .fieldAddr (.tmp 3) 1, none, []⟩, ⟨1, (some 11), .fieldAddr (.tmp 3) 0, none, []⟩, ⟨2, (some 12), .load1 (.tmp 11), none, []⟩, ⟨3, (some 13), .plain ⟨(some 13), .convert 5 3 (.tmp 12), 3, (String.ofList [Char.ofNat 111, Char.ofNat 117, Char.ofNat 116, Char.ofNat 114, Char.ofNat 105, Char.ofNat 103, Char.ofNat 104, Char.ofNat 116, Char.ofNat 46, Char.ofNat 103, Char.ofNat 111, Char.ofNat 58, Char.ofNat 50, Char.ofNat 49]), #[⟨2, .data⟩], none⟩, none, []⟩, ⟨4, (some 14), .move (.tmp 1), none, []⟩, ⟨5, (some 15), .ibin .rem .i64 (.tmp 13) (.tmp 14), none, []⟩, ⟨6, (some 16), .ibin .add .i64 (.const (.int .i64 1)) (.tmp 15), none, []⟩, ⟨7, (some 17), .slA (.tmp 10) 4 1 none (some (.tmp 16)) none, none, []⟩, ⟨8, (some 18), .len (.tmp 17), none, []⟩, ⟨9, (some 19), .move (.const (.int .i64 0)), none, []⟩])
 (.block 0 (.loop (.seq (.region false [⟨0, (some 20), .ibin .lss .i64 (.tmp 19) (.tmp 18), none, []⟩])
 (.seq (.cond (.tmp 20) .skip (.exit 0))
 (.seq (.block 1 (.seq (.region false [⟨0, (some 21), .idxS (.tmp 17) (.tmp 19) 1, none, []⟩, ⟨1, (some 22), .load1 (.tmp 21), none, []⟩, ⟨2, (some 9), .move (.tmp 22), none, []⟩])
 (.region false [⟨0, (some 23), .move (.tmp 7), none, []⟩, ⟨1, (some 24), .move (.tmp 9), none, []⟩, ⟨2, (some 25), .plain ⟨(some 25), .convert 5 3 (.tmp 24), 3, (String.ofList [Char.ofNat 111, Char.ofNat 117, Char.ofNat 116, Char.ofNat 114, Char.ofNat 105, Char.ofNat 103, Char.ofNat 104, Char.ofNat 116, Char.ofNat 46, Char.ofNat 103, Char.ofNat 111, Char.ofNat 58, Char.ofNat 50, Char.ofNat 50]), #[⟨1, .data⟩], none⟩, none, []⟩, ⟨3, (some 26), .move (.tmp 2), none, []⟩, ⟨4, (some 27), .ibin .rem .i64 (.tmp 25) (.tmp 26), none, []⟩, ⟨5, (some 28), .ibin .add .i64 (.const (.int .i64 1)) (.tmp 27), none, []⟩, ⟨6, (some 29), .bldS 3 1 [(.int .i64 0)] 1 [(0, (.tmp 28))], none, []⟩, ⟨7, (some 30), .append 3 1 (.tmp 23) (.tmp 29), none, []⟩, ⟨8, (some 7), .move (.tmp 30), none, []⟩])))
 (.region false [⟨0, (some 31), .ibin .add .i64 (.tmp 19) (.const (.int .i64 1)), none, []⟩, ⟨1, (some 19), .move (.tmp 31), none, []⟩])))))))
 (.seq (.region false [⟨0, (some 32), .move (.tmp 7), none, []⟩, ⟨1, (some 6), .move (.tmp 32), none, []⟩])
 .ret)))), [.tmp 6]⟩
/- bellarmine/bellarminelaw08.weighs -/
def pf39 : PF := ⟨29, (.seq (.region false [⟨0, (some 6), .move (.const (.int .i64 0)), none, []⟩])
 (.seq (.region false [⟨0, (some 7), .move (.const (.int .i64 0)), none, []⟩])
 (.seq (.seq (.region false [⟨0, (some 10), .move (.tmp 0), none, []⟩, ⟨1, (some 11), .len (.tmp 10), none, []⟩, ⟨2, (some 12), .move (.const (.int .i64 0)), none, []⟩])
 (.block 0 (.loop (.seq (.region false [⟨0, (some 13), .ibin .lss .i64 (.tmp 12) (.tmp 11), none, []⟩])
 (.seq (.cond (.tmp 13) .skip (.exit 0))
 (.seq (.block 1 (.seq (.region false [⟨0, (some 14), .idxS (.tmp 10) (.tmp 12) 1, none, []⟩, ⟨1, (some 15), .load1 (.tmp 14), none, []⟩, ⟨2, (some 9), .move (.tmp 15), none, []⟩])
 (.region false [⟨0, (some 16), .move (.tmp 7), none, []⟩, ⟨1, (some 17), .move (.tmp 9), none, []⟩, ⟨2, (some 18), .ibin .quo .i64 (.const (.int .i64 840)) (.tmp 17), none, []⟩, ⟨3, (some 19), .move (.tmp 2), none, []⟩, ⟨4, (some 20), .ibin .mul .i64 (.tmp 18) (.tmp 19), none, []⟩, ⟨5, (some 21), .ibin .add .i64 (.tmp 16) (.tmp 20), none, []⟩, ⟨6, (some 7), .move (.tmp 21), none, []⟩])))
 (.region false [⟨0, (some 22), .ibin .add .i64 (.tmp 12) (.const (.int .i64 1)), none, []⟩, ⟨1, (some 12), .move (.tmp 22), none, []⟩])))))))
 (.seq (.region false [⟨0, (some 23), .move (.tmp 7), none, []⟩, ⟨1, (some 24), .move (.tmp 1), none, []⟩, ⟨2, (some 25), .ibin .mul .i64 (.const (.int .i64 840)) (.tmp 24), none, []⟩, ⟨3, (some 26), .ibin .sub .i64 (.tmp 23) (.tmp 25), none, []⟩, ⟨4, (some 27), .plain ⟨(some 27), .call ⟨.builtin .max, #[(.const (.int .i64 (-1))), (.tmp 26)], #[3, 3]⟩, 3, (String.ofList [Char.ofNat 111, Char.ofNat 117, Char.ofNat 116, Char.ofNat 114, Char.ofNat 105, Char.ofNat 103, Char.ofNat 104, Char.ofNat 116, Char.ofNat 46, Char.ofNat 103, Char.ofNat 111, Char.ofNat 58, Char.ofNat 49, Char.ofNat 48, Char.ofNat 52]), #[⟨3, .data⟩], none⟩, none, []⟩, ⟨5, (some 28), .plain ⟨(some 28), .call ⟨.builtin .min, #[(.const (.int .i64 1)), (.tmp 27)], #[3, 3]⟩, 3, (String.ofList [Char.ofNat 111, Char.ofNat 117, Char.ofNat 116, Char.ofNat 114, Char.ofNat 105, Char.ofNat 103, Char.ofNat 104, Char.ofNat 116, Char.ofNat 46, Char.ofNat 103, Char.ofNat 111, Char.ofNat 58, Char.ofNat 49, Char.ofNat 48, Char.ofNat 52]), #[⟨4, .data⟩], none⟩, none, []⟩, ⟨6, (some 6), .move (.tmp 28), none, []⟩])
 .ret)))), [.tmp 6]⟩
/- bellarmine/walk.look -/
def pf54 : PF := ⟨6, (.seq (.region false [⟨0, (some 2), .new 69 [(.slice none 0 0), (.map none)], none, []⟩])
 (.seq (.region false [⟨0, (some 3), .move (.tmp 0), none, []⟩, ⟨1, (some 4), .mkM none, none, []⟩, ⟨2, (some 5), .bldT [(.slice none 0 0), (.map none)] [(0, 1), (1, 1)] [(0, (.tmp 3)), (1, (.tmp 4))], none, []⟩, ⟨3, none, .store (.tmp 2) (.tmp 5) 2, none, []⟩])
 .ret)), [.cell 2 (some 2)]⟩
/- (bellarmine/walk.outlook).can -/
def pf55 : PF := ⟨9, (.seq (.region false [⟨0, (some 1), .box 69 (.tmp 0), none, []⟩, ⟨1, (some 2), .move (.const (.bool false)), none, []⟩])
 (.seq (.region true [⟨0, (some 3), .loadN (.tmp 1) 2, none, []⟩, ⟨1, (some 4), .fieldAddr (.tmp 1) 0, none, []⟩, ⟨2, (some 5), .load1 (.tmp 4), none, []⟩, ⟨3, (some 6), .callF 58 [(.tmp 5)], none, [0]⟩, ⟨4, (some 7), .callF 57 [(.tmp 3), (.tmp 6)], none, []⟩, ⟨5, (some 8), .ibin .eql .i64 (.tmp 7) (.const (.int .i64 (-1))), none, []⟩, ⟨6, (some 2), .move (.tmp 8), none, []⟩])
 .ret)), [.tmp 2]⟩
/- (bellarmine/walk.outlook).more -/
def pf57 : PF := ⟨55, (.seq (.region false [⟨0, (some 2), .box 69 (.tmp 0), none, []⟩, ⟨1, (some 3), .box 72 (.tmp 1), none, []⟩, ⟨2, (some 4), .move (.const (.int .i64 0)), none, []⟩])
 (.seq (.seq (.region false [⟨0, (some 13), .fieldAddr (.tmp 2) 1, none, []⟩, ⟨1, (some 14), .load1 (.tmp 13), none, []⟩, ⟨2, (some 15), .loadN (.tmp 3) 4, none, []⟩, ⟨3, (some 16), .mget 7 (.int .i64 0) (.tmp 14) (.tmp 15) true, none, []⟩, ⟨4, (some 12), .move (.tmp 16), none, []⟩, ⟨5, (some 17), .ext (.tmp 12) 0, none, []⟩, ⟨6, (some 18), .ext (.tmp 12) 1, none, []⟩, ⟨7, (some 5), .move (.tmp 17), none, []⟩, ⟨8, (some 6), .move (.tmp 18), none, []⟩])
 (.seq (.region false [⟨0, (some 19), .move (.tmp 6), none, []⟩])
 (.cond (.tmp 19) (.seq (.region false [⟨0, (some 20), .move (.tmp 5), none, []⟩, ⟨1, (some 4), .move (.tmp 20), none, []⟩])
 .ret) .skip)))
 (.seq (.region false [⟨0, (some 21), .fieldAddr (.tmp 2) 1, none, []⟩, ⟨1, (some 22), .load1 (.tmp 21), none, []⟩, ⟨2, (some 23), .loadN (.tmp 3) 4, none, []⟩, ⟨3, none, .mput 7 (.tmp 22) (.tmp 23) (.const (.int .i64 (-1))), none, []⟩])
 (.seq (.region false [⟨0, (some 7), .move (.const (.int .i64 0)), none, []⟩])
 (.seq (.seq (.region false [⟨0, (some 24), .fieldAddr (.tmp 2) 0, none, []⟩, ⟨1, (some 25), .load1 (.tmp 24), none, []⟩, ⟨2, (some 26), .len (.tmp 25), none, []⟩, ⟨3, (some 27), .move (.const (.int .i64 0)), none, []⟩])
 (.block 0 (.loop (.seq (.region false [⟨0, (some 28), .ibin .lss .i64 (.tmp 27) (.tmp 26), none, []⟩])
 (.seq (.cond (.tmp 28) .skip (.exit 0))
 (.seq (.block 1 (.seq (.region false [⟨0, (some 29), .move (.tmp 27), none, []⟩, ⟨1, (some 8), .move (.tmp 29), none, []⟩])
 (.seq (.region false [⟨0, (some 31), .loadN (.tmp 3) 4, none, []⟩, ⟨1, (some 32), .fieldAddr (.tmp 2) 0, none, []⟩, ⟨2, (some 33), .load1 (.tmp 32), none, []⟩, ⟨3, (some 34), .move (.tmp 8), none, []⟩, ⟨4, (some 35), .callF 79 [(.tmp 31), (.tmp 33), (.tmp 34)], none, []⟩, ⟨5, (some 30), .move (.tmp 35), none, []⟩, ⟨6, (some 36), .ext (.tmp 30) 0, none, []⟩, ⟨7, (some 37), .ext (.tmp 30) 1, none, []⟩, ⟨8, (some 9), .new 72 [(.int .i64 0), (.int .i64 0), (.int .i64 0), (.int .i64 0)], none, []⟩, ⟨9, none, .store (.tmp 9) (.tmp 36) 4, none, []⟩, ⟨10, (some 10), .move (.tmp 37), none, []⟩])
 (.seq (.seq (.region false [⟨0, (some 38), .move (.tmp 10), none, []⟩, ⟨1, (some 39), .not (.tmp 38), none, []⟩])
 (.cond (.tmp 39) (.exit 1) .skip))
 (.seq (.region false [⟨0, (some 40), .loadN (.tmp 2) 2, none, []⟩, ⟨1, (some 41), .loadN (.tmp 9) 4, none, []⟩, ⟨2, (some 42), .callF 57 [(.tmp 40), (.tmp 41)], none, []⟩, ⟨3, (some 11), .move (.tmp 42), none, []⟩])
 (.seq (.seq (.region false [⟨0, (some 43), .move (.tmp 11), none, []⟩, ⟨1, (some 44), .ibin .eql .i64 (.tmp 43) (.const (.int .i64 (-1))), none, []⟩])
 (.cond (.tmp 44) (.seq (.region false [⟨0, (some 4), .move (.const (.int .i64 (-1))), none, []⟩])
 .ret) .skip))
 (.region false [⟨0, (some 45), .move (.tmp 7), none, []⟩, ⟨1, (some 46), .move (.tmp 11), none, []⟩, ⟨2, (some 47), .ibin .add .i64 (.const (.int .i64 1)) (.tmp 46), none, []⟩, ⟨3, (some 48), .plain ⟨(some 48), .call ⟨.builtin .max, #[(.tmp 45), (.tmp 47)], #[3, 3]⟩, 3, (String.ofList [Char.ofNat 111, Char.ofNat 117, Char.ofNat 116, Char.ofNat 108, Char.ofNat 111, Char.ofNat 111, Char.ofNat 107, Char.ofNat 46, Char.ofNat 103, Char.ofNat 111, Char.ofNat 58, Char.ofNat 51, Char.ofNat 56]), #[⟨0, .data⟩, ⟨2, .data⟩], none⟩, none, []⟩, ⟨4, (some 7), .move (.tmp 48), none, []⟩])))))))
 (.region false [⟨0, (some 49), .ibin .add .i64 (.tmp 27) (.const (.int .i64 1)), none, []⟩, ⟨1, (some 27), .move (.tmp 49), none, []⟩])))))))
 (.seq (.region false [⟨0, (some 50), .fieldAddr (.tmp 2) 1, none, []⟩, ⟨1, (some 51), .load1 (.tmp 50), none, []⟩, ⟨2, (some 52), .loadN (.tmp 3) 4, none, []⟩, ⟨3, (some 53), .move (.tmp 7), none, []⟩, ⟨4, none, .mput 7 (.tmp 51) (.tmp 52) (.tmp 53), none, []⟩])
 (.seq (.region false [⟨0, (some 54), .move (.tmp 7), none, []⟩, ⟨1, (some 4), .move (.tmp 54), none, []⟩])
 .ret))))))), [.tmp 4]⟩
/- bellarmine/walk.start -/
def pf58 : PF := ⟨8, (.seq (.region false [⟨0, (some 2), .new 72 [(.int .i64 0), (.int .i64 0), (.int .i64 0), (.int .i64 0)], none, []⟩])
 (.seq (.region false [⟨0, (some 3), .new 72 [(.int .i64 0), (.int .i64 0), (.int .i64 0), (.int .i64 0)], none, []⟩])
 (.seq (.region false [⟨0, (some 4), .slA (.tmp 3) 4 1 none none none, none, []⟩, ⟨1, (some 5), .move (.tmp 0), none, []⟩, ⟨2, (some 6), .copy 1 (.tmp 4) (.tmp 5), none, []⟩])
 (.seq (.region false [⟨0, (some 7), .loadN (.tmp 3) 4, none, []⟩, ⟨1, none, .store (.tmp 2) (.tmp 7) 4, none, []⟩])
 .ret)))), [.cell 2 (some 4)]⟩
/- bellarmine/walk.checked -/
def pf61 : PF := ⟨33, (.seq (.region false [⟨0, (some 4), .new 72 [(.int .i64 0), (.int .i64 0), (.int .i64 0), (.int .i64 0)], none, []⟩, ⟨1, (some 5), .move (.const (.int .i64 0)), none, []⟩])
 (.seq (.seq (.region false [⟨0, (some 10), .move (.tmp 0), none, []⟩, ⟨1, (some 11), .callF 23 [(.tmp 10)], none, []⟩, ⟨2, (some 6), .move (.tmp 11), none, []⟩])
 (.seq (.region false [⟨0, (some 12), .move (.tmp 6), none, []⟩, ⟨1, (some 13), .ibin .neq .i64 (.tmp 12) (.const (.int .i64 0)), none, []⟩])
 (.cond (.tmp 13) (.seq (.region false [⟨0, (some 14), .bldA [(.int .i64 0), (.int .i64 0), (.int .i64 0), (.int .i64 0)] 1 [], none, []⟩, ⟨1, (some 15), .move (.tmp 6), none, []⟩, ⟨2, none, .store (.tmp 4) (.tmp 14) 4, none, []⟩, ⟨3, (some 5), .move (.tmp 15), none, []⟩])
 .ret) .skip)))
 (.seq (.seq (.region false [⟨0, (some 16), .move (.tmp 0), none, []⟩, ⟨1, (some 17), .move (.tmp 1), none, []⟩, ⟨2, (some 18), .callF 65 [(.tmp 16), (.tmp 17)], none, []⟩, ⟨3, (some 7), .move (.tmp 18), none, []⟩])
 (.seq (.region false [⟨0, (some 19), .move (.tmp 7), none, []⟩, ⟨1, (some 20), .ibin .neq .i64 (.tmp 19) (.const (.int .i64 0)), none, []⟩])
 (.cond (.tmp 20) (.seq (.region false [⟨0, (some 21), .bldA [(.int .i64 0), (.int .i64 0), (.int .i64 0), (.int .i64 0)] 1 [], none, []⟩, ⟨1, (some 22), .move (.tmp 7), none, []⟩, ⟨2, none, .store (.tmp 4) (.tmp 21) 4, none, []⟩, ⟨3, (some 5), .move (.tmp 22), none, []⟩])
 .ret) .skip)))
 (.seq (.region false [⟨0, (some 24), .move (.tmp 0), none, []⟩, ⟨1, (some 25), .move (.tmp 1), none, []⟩, ⟨2, (some 26), .callF 67 [(.tmp 24), (.tmp 25)], none, []⟩, ⟨3, (some 23), .move (.tmp 26), none, []⟩, ⟨4, (some 27), .ext (.tmp 23) 0, none, []⟩, ⟨5, (some 28), .ext (.tmp 23) 1, none, []⟩, ⟨6, (some 8), .new 72 [(.int .i64 0), (.int .i64 0), (.int .i64 0), (.int .i64 0)], none, []⟩, ⟨7, none, .store (.tmp 8) (.tmp 27) 4, none, []⟩, ⟨8, (some 9), .move (.tmp 28), none, []⟩])
 (.seq (.seq (.region false [⟨0, (some 29), .move (.tmp 9), none, []⟩, ⟨1, (some 30), .not (.tmp 29), none, []⟩])
 (.cond (.tmp 30) (.seq (.region false [⟨0, (some 31), .bldA [(.int .i64 0), (.int .i64 0), (.int .i64 0), (.int .i64 0)] 1 [], none, []⟩, ⟨1, none, .store (.tmp 4) (.tmp 31) 4, none, []⟩, ⟨2, (some 5), .move (.const (.int .i64 12)), none, []⟩])
 .ret) .skip))
 (.seq (.region false [⟨0, (some 32), .loadN (.tmp 8) 4, none, []⟩, ⟨1, none, .store (.tmp 4) (.tmp 32) 4, none, []⟩, ⟨2, (some 5), .move (.const (.int .i64 0)), none, []⟩])
 .ret)))))), [.cell 4 (some 4), .tmp 5]⟩
/- bellarmine/walk.checkStretches -/
def pf65 : PF := ⟨25, (.seq (.region false [⟨0, (some 4), .move (.const (.int .i64 0)), none, []⟩])
 (.seq (.seq (.region false [⟨0, (some 7), .move (.tmp 1), none, []⟩, ⟨1, (some 8), .len (.tmp 7), none, []⟩, ⟨2, (some 9), .ibin .gtr .i64 (.tmp 8) (.const (.int .i64 60)), none, []⟩])
 (.cond (.tmp 9) (.seq (.region false [⟨0, (some 4), .move (.const (.int .i64 19)), none, []⟩])
 .ret) .skip))
 (.seq (.seq (.region false [⟨0, (some 10), .move (.tmp 1), none, []⟩, ⟨1, (some 11), .len (.tmp 10), none, []⟩, ⟨2, (some 12), .move (.const (.int .i64 0)), none, []⟩])
 (.block 0 (.loop (.seq (.region false [⟨0, (some 13), .ibin .lss .i64 (.tmp 12) (.tmp 11), none, []⟩])
 (.seq (.cond (.tmp 13) .skip (.exit 0))
 (.seq (.block 1 (.seq (.region false [⟨0, (some 14), .idxS (.tmp 10) (.tmp 12) 1, none, []⟩, ⟨1, (some 15), .load1 (.tmp 14), none, []⟩, ⟨2, (some 6), .move (.tmp 15), none, []⟩])
 (.seq (.region false [⟨0, (some 16), .move (.tmp 6), none, []⟩, ⟨1, (some 17), .ibin .lss .i64 (.tmp 16) (.const (.int .i64 0)), none, []⟩, ⟨2, (some 18), .move (.tmp 17), none, []⟩, ⟨3, (some 19), .move (.tmp 6), (some (18, false)), []⟩, ⟨4, (some 20), .move (.tmp 0), (some (18, false)), []⟩, ⟨5, (some 21), .len (.tmp 20), (some (18, false)), []⟩, ⟨6, (some 22), .ibin .geq .i64 (.tmp 19) (.tmp 21), (some (18, false)), []⟩, ⟨7, (some 23), .pick (.tmp 18) (.const (.bool true)) (.tmp 22), none, []⟩])
 (.cond (.tmp 23) (.seq (.region false [⟨0, (some 4), .move (.const (.int .i64 2)), none, []⟩])
 .ret) .skip))))
 (.region false [⟨0, (some 24), .ibin .add .i64 (.tmp 12) (.const (.int .i64 1)), none, []⟩, ⟨1, (some 12), .move (.tmp 24), none, []⟩])))))))
 (.seq (.region false [⟨0, (some 4), .move (.const (.int .i64 0)), none, []⟩])
 .ret)))), [.tmp 4]⟩
/- bellarmine/walk.follow -/
def pf67 : PF := ⟨32, (.seq (.region false [⟨0, (some 4), .new 72 [(.int .i64 0), (.int .i64 0), (.int .i64 0), (.int .i64 0)], none, []⟩, ⟨1, (some 5), .move (.const (.bool false)), none, []⟩])
 (.seq (.region false [⟨0, (some 11), .move (.tmp 0), none, []⟩, ⟨1, (some 12), .callF 58 [(.tmp 11)], none, []⟩, ⟨2, (some 6), .new 72 [(.int .i64 0), (.int .i64 0), (.int .i64 0), (.int .i64 0)], none, []⟩, ⟨3, none, .store (.tmp 6) (.tmp 12) 4, none, []⟩])
 (.seq (.seq (.region false [⟨0, (some 13), .move (.tmp 1), none, []⟩, ⟨1, (some 14), .len (.tmp 13), none, []⟩, ⟨2, (some 15), .move (.const (.int .i64 0)), none, []⟩])
 (.block 0 (.loop (.seq (.region false [⟨0, (some 16), .ibin .lss .i64 (.tmp 15) (.tmp 14), none, []⟩])
 (.seq (.cond (.tmp 16) .skip (.exit 0))
 (.seq (.block 1 (.seq (.region false [⟨0, (some 17), .idxS (.tmp 13) (.tmp 15) 1, none, []⟩, ⟨1, (some 18), .load1 (.tmp 17), none, []⟩, ⟨2, (some 8), .move (.tmp 18), none, []⟩])
 (.seq (.region false [⟨0, (some 20), .loadN (.tmp 6) 4, none, []⟩, ⟨1, (some 21), .move (.tmp 0), none, []⟩, ⟨2, (some 22), .move (.tmp 8), none, []⟩, ⟨3, (some 23), .callF 79 [(.tmp 20), (.tmp 21), (.tmp 22)], none, []⟩, ⟨4, (some 19), .move (.tmp 23), none, []⟩, ⟨5, (some 24), .ext (.tmp 19) 0, none, []⟩, ⟨6, (some 25), .ext (.tmp 19) 1, none, []⟩, ⟨7, (some 9), .new 72 [(.int .i64 0), (.int .i64 0), (.int .i64 0), (.int .i64 0)], none, []⟩, ⟨8, none, .store (.tmp 9) (.tmp 24) 4, none, []⟩, ⟨9, (some 10), .move (.tmp 25), none, []⟩])
 (.seq (.seq (.region false [⟨0, (some 26), .move (.tmp 10), none, []⟩, ⟨1, (some 27), .not (.tmp 26), none, []⟩])
 (.cond (.tmp 27) (.seq (.region false [⟨0, (some 28), .bldA [(.int .i64 0), (.int .i64 0), (.int .i64 0), (.int .i64 0)] 1 [], none, []⟩, ⟨1, none, .store (.tmp 4) (.tmp 28) 4, none, []⟩, ⟨2, (some 5), .move (.const (.bool false)), none, []⟩])
 .ret) .skip))
 (.region false [⟨0, (some 29), .loadN (.tmp 9) 4, none, []⟩, ⟨1, none, .store (.tmp 6) (.tmp 29) 4, none, []⟩])))))
 (.region false [⟨0, (some 30), .ibin .add .i64 (.tmp 15) (.const (.int .i64 1)), none, []⟩, ⟨1, (some 15), .move (.tmp 30), none, []⟩])))))))
 (.seq (.region false [⟨0, (some 31), .loadN (.tmp 6) 4, none, []⟩, ⟨1, none, .store (.tmp 4) (.tmp 31) 4, none, []⟩, ⟨2, (some 5), .move (.const (.bool true)), none, []⟩])
 .ret)))), [.cell 4 (some 4), .tmp 5]⟩
/- slices.Contains[[]int,int] -/
def pf73 : PF := ⟨9, (.seq (.region false [⟨0, (some 4), .move (.const (.bool false)), none, []⟩])
 (.seq (.region false [⟨0, (some 5), .move (.tmp 0), none, []⟩, ⟨1, (some 6), .move (.tmp 1), none, []⟩, ⟨2, (some 7), .callF 85 [(.tmp 5), (.tmp 6)], none, []⟩, ⟨3, (some 8), .ibin .geq .i64 (.tmp 7) (.const (.int .i64 0)), none, []⟩, ⟨4, (some 4), .move (.tmp 8), none, []⟩])
 .ret)), [.tmp 4]⟩
/- (bellarmine/walk.left).meet -/
def pf79 : PF := ⟨32, (.seq (.region false [⟨0, (some 3), .box 72 (.tmp 0), none, []⟩, ⟨1, (some 6), .new 72 [(.int .i64 0), (.int .i64 0), (.int .i64 0), (.int .i64 0)], none, []⟩, ⟨2, (some 7), .move (.const (.bool false)), none, []⟩])
 (.seq (.seq (.region false [⟨0, (some 9), .move (.tmp 1), none, []⟩, ⟨1, (some 10), .len (.tmp 9), none, []⟩, ⟨2, (some 11), .move (.const (.int .i64 0)), none, []⟩])
 (.block 0 (.loop (.seq (.region false [⟨0, (some 12), .ibin .lss .i64 (.tmp 11) (.tmp 10), none, []⟩])
 (.seq (.cond (.tmp 12) .skip (.exit 0))
 (.seq (.block 1 (.seq (.region false [⟨0, (some 13), .move (.tmp 11), none, []⟩, ⟨1, (some 8), .move (.tmp 13), none, []⟩])
 (.region false [⟨0, (some 14), .move (.tmp 8), none, []⟩, ⟨1, (some 15), .idxA (.tmp 3) (.tmp 14) 4 1, none, []⟩, ⟨2, (some 16), .load1 (.tmp 15), none, []⟩, ⟨3, (some 17), .ibin .sub .i64 (.tmp 16) (.const (.int .i64 1)), none, []⟩, ⟨4, (some 18), .idxA (.tmp 3) (.tmp 14) 4 1, none, []⟩, ⟨5, none, .store (.tmp 18) (.tmp 17) 1, none, []⟩])))
 (.region false [⟨0, (some 19), .ibin .add .i64 (.tmp 11) (.const (.int .i64 1)), none, []⟩, ⟨1, (some 11), .move (.tmp 19), none, []⟩])))))))
 (.seq (.region false [⟨0, (some 20), .move (.tmp 2), none, []⟩, ⟨1, (some 21), .move (.tmp 1), none, []⟩, ⟨2, (some 22), .move (.tmp 2), none, []⟩, ⟨3, (some 23), .idxS (.tmp 21) (.tmp 22) 1, none, []⟩, ⟨4, (some 24), .load1 (.tmp 23), none, []⟩, ⟨5, (some 25), .idxA (.tmp 3) (.tmp 20) 4 1, none, []⟩, ⟨6, none, .store (.tmp 25) (.tmp 24) 1, none, []⟩])
 (.seq (.region true [⟨0, (some 26), .loadN (.tmp 3) 4, none, []⟩, ⟨1, (some 27), .move (.tmp 1), none, []⟩, ⟨2, (some 28), .len (.tmp 27), none, []⟩, ⟨3, (some 29), .slA (.tmp 3) 4 1 none (some (.tmp 28)) none, none, []⟩, ⟨4, (some 30), .callF 73 [(.tmp 29), (.const (.int .i64 0))], none, [0]⟩, ⟨5, (some 31), .not (.tmp 30), none, []⟩, ⟨6, none, .store (.tmp 6) (.tmp 26) 4, none, []⟩, ⟨7, (some 7), .move (.tmp 31), none, []⟩])
 .ret)))), [.cell 6 (some 4), .tmp 7]⟩
/- slices.Index[[]int,int] -/
def pf85 : PF := ⟨19, (.seq (.region false [⟨0, (some 4), .move (.const (.int .i64 0)), none, []⟩])
 (.seq (.seq (.region false [⟨0, (some 6), .move (.tmp 0), none, []⟩, ⟨1, (some 7), .len (.tmp 6), none, []⟩, ⟨2, (some 8), .move (.const (.int .i64 0)), none, []⟩])
 (.block 0 (.loop (.seq (.region false [⟨0, (some 9), .ibin .lss .i64 (.tmp 8) (.tmp 7), none, []⟩])
 (.seq (.cond (.tmp 9) .skip (.exit 0))
 (.seq (.block 1 (.seq (.region false [⟨0, (some 10), .move (.tmp 8), none, []⟩, ⟨1, (some 5), .move (.tmp 10), none, []⟩])
 (.seq (.region false [⟨0, (some 11), .move (.tmp 1), none, []⟩, ⟨1, (some 12), .move (.tmp 0), none, []⟩, ⟨2, (some 13), .move (.tmp 5), none, []⟩, ⟨3, (some 14), .idxS (.tmp 12) (.tmp 13) 1, none, []⟩, ⟨4, (some 15), .load1 (.tmp 14), none, []⟩, ⟨5, (some 16), .ibin .eql .i64 (.tmp 11) (.tmp 15), none, []⟩])
 (.cond (.tmp 16) (.seq (.region false [⟨0, (some 17), .move (.tmp 5), none, []⟩, ⟨1, (some 4), .move (.tmp 17), none, []⟩])
 .ret) .skip))))
 (.region false [⟨0, (some 18), .ibin .add .i64 (.tmp 8) (.const (.int .i64 1)), none, []⟩, ⟨1, (some 8), .move (.tmp 18), none, []⟩])))))))
 (.seq (.region false [⟨0, (some 4), .move (.const (.int .i64 (-1))), none, []⟩])
 .ret))), [.tmp 4]⟩
def funcs : Tr PF := (.node none (.node none (.node none (.node none (.node none .nil (.node none (.node (some pf79) .nil .nil) .nil)) (.node (some pf23) (.node (some pf39) .nil .nil) (.node (some pf55) .nil .nil))) (.node none (.node (some pf19) (.node none (.node (some pf67) .nil .nil) .nil) .nil) .nil)) (.node none (.node (some pf9) (.node none (.node none (.node (some pf65) .nil .nil) .nil) .nil) (.node none (.node none (.node (some pf73) .nil .nil) .nil) (.node (some pf57) .nil .nil))) (.node none (.node (some pf21) .nil (.node none (.node (some pf85) .nil .nil) .nil)) (.node none .nil (.node (some pf61) .nil .nil))))) (.node none .nil (.node none (.node none .nil (.node none .nil (.node (some pf58) .nil .nil))) (.node none (.node none (.node (some pf38) .nil .nil) (.node (some pf54) .nil .nil)) .nil))))
noncomputable def C : CW := ⟨{ P := Try.prog, funcs := funcs }, 16⟩
end Go.Proofs.Ytnmlfjohoeebiaa.Wk
