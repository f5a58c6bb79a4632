/- The program's functions, prepared: written by program, checked below. -/
import Derived.Test.YtaipmdhnhffckaaSymMono
import Derived.Test.YtaipmdhnhffckaaGl0
import Derived.Test.YtaipmdhnhffckaaRows
namespace Go.Proofs.Ytaipmdhnhffckaa.Sh
open Go Go.Abs
set_option maxRecDepth 100000
set_option maxHeartbeats 4000000
/- bellarmine/bellarminelaw07.ShareAlike -/
def pf15 : PF := ⟨155, (.seq (.region false [⟨0, (some 2), .box 49 (.tmp 0), none, []⟩, ⟨1, (some 3), .box 46 (.tmp 1), none, []⟩, ⟨2, (some 4), .move (.const (.bool false)), none, []⟩])
 (.seq (.region false [⟨0, (some 19), .loadN (.tmp 2) 26, none, []⟩, ⟨1, (some 20), .callF 46 [(.tmp 19), (.const (.int .i64 4)), (.const (.int .i64 6)), (.const (.int .i64 20))], none, []⟩, ⟨2, (some 5), .move (.tmp 20), none, []⟩])
 (.seq (.seq (.region false [⟨0, (some 21), .move (.tmp 5), none, []⟩, ⟨1, (some 22), .len (.tmp 21), none, []⟩, ⟨2, (some 23), .move (.const (.int .i64 0)), none, []⟩])
 (.block 0 (.loop (.seq (.region false [⟨0, (some 24), .ibin .lss .i64 (.tmp 23) (.tmp 22), none, []⟩])
 (.seq (.cond (.tmp 24) .skip (.exit 0))
 (.seq (.block 1 (.seq (.region false [⟨0, (some 25), .move (.tmp 23), none, []⟩, ⟨1, (some 6), .move (.tmp 25), none, []⟩])
 (.region false [⟨0, (some 26), .move (.tmp 5), none, []⟩, ⟨1, (some 27), .move (.tmp 6), none, []⟩, ⟨2, (some 28), .move (.tmp 5), none, []⟩, ⟨3, (some 29), .idxS (.tmp 28) (.const (.int .i64 0)) 1, none, []⟩, ⟨4, (some 30), .load1 (.tmp 29), none, []⟩, ⟨5, (some 31), .idxS (.tmp 26) (.tmp 27) 1, none, []⟩, ⟨6, none, .store (.tmp 31) (.tmp 30) 1, none, []⟩])))
 (.region false [⟨0, (some 32), .ibin .add .i64 (.tmp 23) (.const (.int .i64 1)), none, []⟩, ⟨1, (some 23), .move (.tmp 32), none, []⟩])))))))
 (.seq (.region false [⟨0, (some 7), .move (.const (.slice none 0 0)), none, []⟩])
 (.seq (.seq (.region false [⟨0, (some 33), .move (.tmp 5), none, []⟩, ⟨1, (some 34), .idxS (.tmp 33) (.const (.int .i64 0)) 1, none, []⟩, ⟨2, (some 35), .load1 (.tmp 34), none, []⟩, ⟨3, (some 36), .len (.tmp 35), none, []⟩, ⟨4, (some 37), .move (.const (.int .i64 0)), none, []⟩])
 (.block 2 (.loop (.seq (.region false [⟨0, (some 38), .ibin .lss .i64 (.tmp 37) (.tmp 36), none, []⟩])
 (.seq (.cond (.tmp 38) .skip (.exit 2))
 (.seq (.block 3 (.seq (.region false [⟨0, (some 39), .move (.tmp 37), none, []⟩, ⟨1, (some 8), .move (.tmp 39), none, []⟩])
 (.region false [⟨0, (some 40), .move (.tmp 7), none, []⟩, ⟨1, (some 41), .move (.tmp 8), none, []⟩, ⟨2, (some 42), .idxA (.tmp 3) (.tmp 41) 6 1, none, []⟩, ⟨3, (some 43), .load1 (.tmp 42), none, []⟩, ⟨4, (some 44), .plain ⟨(some 44), .convert 5 3 (.tmp 43), 3, (String.ofList [Char.ofNat 111, Char.ofNat 117, Char.ofNat 116, Char.ofNat 114, Char.ofNat 105, Char.ofNat 103, Char.ofNat 104, Char.ofNat 116, Char.ofNat 46, Char.ofNat 103, Char.ofNat 111, Char.ofNat 58, Char.ofNat 52, Char.ofNat 51, Char.ofNat 55]), #[⟨3, .data⟩], none⟩, none, []⟩, ⟨5, (some 45), .move (.tmp 5), none, []⟩, ⟨6, (some 46), .len (.tmp 45), none, []⟩, ⟨7, (some 47), .ibin .rem .i64 (.tmp 44) (.tmp 46), none, []⟩, ⟨8, (some 48), .bldS 3 1 [(.int .i64 0)] 1 [(0, (.tmp 47))], none, []⟩, ⟨9, (some 49), .append 3 1 (.tmp 40) (.tmp 48), none, []⟩, ⟨10, (some 7), .move (.tmp 49), none, []⟩])))
 (.region false [⟨0, (some 50), .ibin .add .i64 (.tmp 37) (.const (.int .i64 1)), none, []⟩, ⟨1, (some 37), .move (.tmp 50), none, []⟩])))))))
 (.seq (.region false [⟨0, (some 51), .move (.tmp 5), none, []⟩, ⟨1, (some 52), .len (.tmp 51), none, []⟩, ⟨2, (some 53), .mkS 3 [(.int .i64 0)] (.tmp 52) (.tmp 52), none, []⟩, ⟨3, (some 9), .move (.tmp 53), none, []⟩])
 (.seq (.region false [⟨0, (some 54), .move (.tmp 5), none, []⟩, ⟨1, (some 55), .len (.tmp 54), none, []⟩, ⟨2, (some 56), .mkS 3 [(.int .i64 0)] (.tmp 55) (.tmp 55), none, []⟩, ⟨3, (some 10), .move (.tmp 56), none, []⟩])
 (.seq (.seq (.region false [⟨0, (some 57), .move (.tmp 7), none, []⟩, ⟨1, (some 58), .len (.tmp 57), none, []⟩, ⟨2, (some 59), .move (.const (.int .i64 0)), none, []⟩])
 (.block 4 (.loop (.seq (.region false [⟨0, (some 60), .ibin .lss .i64 (.tmp 59) (.tmp 58), none, []⟩])
 (.seq (.cond (.tmp 60) .skip (.exit 4))
 (.seq (.block 5 (.seq (.region false [⟨0, (some 61), .move (.tmp 59), none, []⟩, ⟨1, (some 62), .idxS (.tmp 57) (.tmp 59) 1, none, []⟩, ⟨2, (some 63), .load1 (.tmp 62), none, []⟩, ⟨3, (some 11), .move (.tmp 61), none, []⟩, ⟨4, (some 12), .move (.tmp 63), none, []⟩])
 (.seq (.region true [⟨0, (some 64), .move (.tmp 9), none, []⟩, ⟨1, (some 65), .move (.tmp 12), none, []⟩, ⟨2, (some 66), .idxS (.tmp 64) (.tmp 65) 1, none, []⟩, ⟨3, (some 67), .load1 (.tmp 66), none, []⟩, ⟨4, (some 68), .move (.tmp 5), none, []⟩, ⟨5, (some 69), .idxS (.tmp 68) (.const (.int .i64 0)) 1, none, []⟩, ⟨6, (some 70), .load1 (.tmp 69), none, []⟩, ⟨7, (some 71), .move (.tmp 11), none, []⟩, ⟨8, (some 72), .idxS (.tmp 70) (.tmp 71) 1, none, []⟩, ⟨9, (some 73), .load1 (.tmp 72), none, []⟩, ⟨10, (some 74), .ibin .add .i64 (.tmp 67) (.tmp 73), none, []⟩, ⟨11, (some 75), .idxS (.tmp 64) (.tmp 65) 1, none, []⟩, ⟨12, none, .store (.tmp 75) (.tmp 74) 1, none, []⟩])
 (.region true [⟨0, (some 76), .move (.tmp 10), none, []⟩, ⟨1, (some 77), .move (.tmp 12), none, []⟩, ⟨2, (some 78), .move (.tmp 10), none, []⟩, ⟨3, (some 79), .move (.tmp 12), none, []⟩, ⟨4, (some 80), .idxS (.tmp 78) (.tmp 79) 1, none, []⟩, ⟨5, (some 81), .load1 (.tmp 80), none, []⟩, ⟨6, (some 82), .move (.tmp 5), none, []⟩, ⟨7, (some 83), .idxS (.tmp 82) (.const (.int .i64 0)) 1, none, []⟩, ⟨8, (some 84), .load1 (.tmp 83), none, []⟩, ⟨9, (some 85), .move (.tmp 11), none, []⟩, ⟨10, (some 86), .idxS (.tmp 84) (.tmp 85) 1, none, []⟩, ⟨11, (some 87), .load1 (.tmp 86), none, []⟩, ⟨12, (some 88), .plain ⟨(some 88), .call ⟨.builtin .max, #[(.tmp 81), (.tmp 87)], #[3, 3]⟩, 3, (String.ofList [Char.ofNat 111, Char.ofNat 117, Char.ofNat 116, Char.ofNat 114, Char.ofNat 105, Char.ofNat 103, Char.ofNat 104, Char.ofNat 116, Char.ofNat 46, Char.ofNat 103, Char.ofNat 111, Char.ofNat 58, Char.ofNat 52, Char.ofNat 52, Char.ofNat 51]), #[⟨5, .data⟩, ⟨11, .data⟩], none⟩, none, []⟩, ⟨13, (some 89), .idxS (.tmp 76) (.tmp 77) 1, none, []⟩, ⟨14, none, .store (.tmp 89) (.tmp 88) 1, none, []⟩]))))
 (.region false [⟨0, (some 90), .ibin .add .i64 (.tmp 59) (.const (.int .i64 1)), none, []⟩, ⟨1, (some 59), .move (.tmp 90), none, []⟩])))))))
 (.seq (.region false [⟨0, (some 13), .move (.const (.bool true)), none, []⟩, ⟨1, (some 14), .move (.const (.bool true)), none, []⟩])
 (.seq (.seq (.region false [⟨0, (some 91), .move (.tmp 9), none, []⟩, ⟨1, (some 92), .len (.tmp 91), none, []⟩, ⟨2, (some 93), .move (.const (.int .i64 0)), none, []⟩])
 (.block 6 (.loop (.seq (.region false [⟨0, (some 94), .ibin .lss .i64 (.tmp 93) (.tmp 92), none, []⟩])
 (.seq (.cond (.tmp 94) .skip (.exit 6))
 (.seq (.block 7 (.seq (.region false [⟨0, (some 95), .move (.tmp 93), none, []⟩, ⟨1, (some 15), .move (.tmp 95), none, []⟩])
 (.seq (.region false [⟨0, (some 96), .move (.tmp 9), none, []⟩, ⟨1, (some 97), .len (.tmp 96), none, []⟩, ⟨2, (some 98), .move (.const (.int .i64 0)), none, []⟩])
 (.block 8 (.loop (.seq (.region false [⟨0, (some 99), .ibin .lss .i64 (.tmp 98) (.tmp 97), none, []⟩])
 (.seq (.cond (.tmp 99) .skip (.exit 8))
 (.seq (.block 9 (.seq (.region false [⟨0, (some 100), .move (.tmp 98), none, []⟩, ⟨1, (some 16), .move (.tmp 100), none, []⟩])
 (.seq (.region true [⟨0, (some 101), .move (.tmp 13), none, []⟩, ⟨1, (some 102), .move (.tmp 101), none, []⟩, ⟨2, (some 103), .move (.tmp 9), (some (102, true)), []⟩, ⟨3, (some 104), .move (.tmp 16), (some (102, true)), []⟩, ⟨4, (some 105), .idxS (.tmp 103) (.tmp 104) 1, (some (102, true)), []⟩, ⟨5, (some 106), .load1 (.tmp 105), (some (102, true)), []⟩, ⟨6, (some 107), .move (.tmp 10), (some (102, true)), []⟩, ⟨7, (some 108), .move (.tmp 16), (some (102, true)), []⟩, ⟨8, (some 109), .idxS (.tmp 107) (.tmp 108) 1, (some (102, true)), []⟩, ⟨9, (some 110), .load1 (.tmp 109), (some (102, true)), []⟩, ⟨10, (some 111), .ibin .sub .i64 (.tmp 106) (.tmp 110), (some (102, true)), []⟩, ⟨11, (some 112), .move (.tmp 9), (some (102, true)), []⟩, ⟨12, (some 113), .move (.tmp 15), (some (102, true)), []⟩, ⟨13, (some 114), .idxS (.tmp 112) (.tmp 113) 1, (some (102, true)), []⟩, ⟨14, (some 115), .load1 (.tmp 114), (some (102, true)), []⟩, ⟨15, (some 116), .ibin .leq .i64 (.tmp 111) (.tmp 115), (some (102, true)), []⟩, ⟨16, (some 117), .pick (.tmp 102) (.tmp 116) (.const (.bool false)), none, []⟩, ⟨17, (some 13), .move (.tmp 117), none, []⟩])
 (.region true [⟨0, (some 118), .move (.tmp 14), none, []⟩, ⟨1, (some 119), .move (.tmp 118), none, []⟩, ⟨2, (some 120), .move (.tmp 9), (some (119, true)), []⟩, ⟨3, (some 121), .move (.tmp 15), (some (119, true)), []⟩, ⟨4, (some 122), .idxS (.tmp 120) (.tmp 121) 1, (some (119, true)), []⟩, ⟨5, (some 123), .load1 (.tmp 122), (some (119, true)), []⟩, ⟨6, (some 124), .move (.tmp 9), (some (119, true)), []⟩, ⟨7, (some 125), .move (.tmp 16), (some (119, true)), []⟩, ⟨8, (some 126), .idxS (.tmp 124) (.tmp 125) 1, (some (119, true)), []⟩, ⟨9, (some 127), .load1 (.tmp 126), (some (119, true)), []⟩, ⟨10, (some 128), .ibin .eql .i64 (.tmp 123) (.tmp 127), (some (119, true)), []⟩, ⟨11, (some 129), .pick (.tmp 119) (.tmp 128) (.const (.bool false)), none, []⟩, ⟨12, (some 14), .move (.tmp 129), none, []⟩]))))
 (.region false [⟨0, (some 130), .ibin .add .i64 (.tmp 98) (.const (.int .i64 1)), none, []⟩, ⟨1, (some 98), .move (.tmp 130), none, []⟩])))))))))
 (.region false [⟨0, (some 131), .ibin .add .i64 (.tmp 93) (.const (.int .i64 1)), none, []⟩, ⟨1, (some 93), .move (.tmp 131), none, []⟩])))))))
 (.seq (.region false [⟨0, (some 133), .move (.tmp 5), none, []⟩, ⟨1, (some 134), .move (.tmp 7), none, []⟩, ⟨2, (some 135), .callF 23 [(.tmp 133), (.tmp 134)], none, []⟩, ⟨3, (some 132), .move (.tmp 135), none, []⟩, ⟨4, (some 136), .ext (.tmp 132) 0, none, []⟩, ⟨5, (some 137), .ext (.tmp 132) 1, none, []⟩, ⟨6, (some 17), .move (.tmp 136), none, []⟩, ⟨7, (some 18), .move (.tmp 137), none, []⟩])
 (.seq (.region false [⟨0, (some 138), .move (.tmp 18), none, []⟩, ⟨1, (some 139), .ibin .eql .i64 (.tmp 138) (.const (.int .i64 0)), none, []⟩, ⟨2, (some 140), .move (.tmp 139), none, []⟩, ⟨3, (some 141), .move (.tmp 17), (some (140, true)), []⟩, ⟨4, (some 142), .ibin .gtr .i64 (.tmp 141) (.const (.int .i64 0)), (some (140, true)), []⟩, ⟨5, (some 143), .move (.tmp 13), (some (140, true)), []⟩, ⟨6, (some 144), .plain ⟨(some 144), .binOp .eql 4 (.tmp 142) (.tmp 143) 4, 4, (String.ofList [Char.ofNat 111, Char.ofNat 117, Char.ofNat 116, Char.ofNat 114, Char.ofNat 105, Char.ofNat 103, Char.ofNat 104, Char.ofNat 116, Char.ofNat 46, Char.ofNat 103, Char.ofNat 111, Char.ofNat 58, Char.ofNat 52, Char.ofNat 53, Char.ofNat 51]), #[⟨4, .data⟩, ⟨5, .data⟩, ⟨2, .guard⟩], (some (2, true))⟩, (some (140, true)), []⟩, ⟨7, (some 145), .pick (.tmp 140) (.tmp 144) (.const (.bool false)), none, []⟩, ⟨8, (some 146), .move (.tmp 145), none, []⟩, ⟨9, (some 147), .move (.tmp 17), (some (146, true)), []⟩, ⟨10, (some 148), .ibin .eql .i64 (.tmp 147) (.const (.int .i64 2)), (some (146, true)), []⟩, ⟨11, (some 149), .move (.tmp 14), (some (146, true)), []⟩, ⟨12, (some 150), .plain ⟨(some 150), .binOp .eql 4 (.tmp 148) (.tmp 149) 4, 4, (String.ofList [Char.ofNat 111, Char.ofNat 117, Char.ofNat 116, Char.ofNat 114, Char.ofNat 105, Char.ofNat 103, Char.ofNat 104, Char.ofNat 116, Char.ofNat 46, Char.ofNat 103, Char.ofNat 111, Char.ofNat 58, Char.ofNat 52, Char.ofNat 53, Char.ofNat 51]), #[⟨10, .data⟩, ⟨11, .data⟩, ⟨8, .guard⟩], (some (8, true))⟩, (some (146, true)), []⟩, ⟨13, (some 151), .pick (.tmp 146) (.tmp 150) (.const (.bool false)), none, []⟩, ⟨14, (some 152), .move (.tmp 151), none, []⟩, ⟨15, (some 153), .callF 18 [], (some (152, true)), []⟩, ⟨16, (some 154), .pick (.tmp 152) (.tmp 153) (.const (.bool false)), none, []⟩, ⟨17, (some 4), .move (.tmp 154), none, []⟩])
 .ret)))))))))))), [.tmp 4]⟩
/- bellarmine/share.Fair -/
def pf23 : PF := ⟨28, (.seq (.region false [⟨0, (some 4), .move (.const (.int .i64 0)), none, []⟩, ⟨1, (some 5), .move (.const (.int .i64 0)), none, []⟩])
 (.seq (.region false [⟨0, (some 11), .move (.tmp 0), none, []⟩, ⟨1, (some 12), .move (.tmp 1), none, []⟩, ⟨2, (some 13), .callF 70 [(.tmp 11), (.tmp 12)], none, []⟩, ⟨3, (some 10), .move (.tmp 13), none, []⟩, ⟨4, (some 14), .ext (.tmp 10) 0, none, []⟩, ⟨5, (some 15), .ext (.tmp 10) 1, none, []⟩, ⟨6, (some 6), .new 78 [(.slice none 0 0), (.slice none 0 0)], none, []⟩, ⟨7, none, .store (.tmp 6) (.tmp 14) 2, none, []⟩, ⟨8, (some 7), .move (.tmp 15), none, []⟩])
 (.seq (.seq (.region false [⟨0, (some 16), .move (.tmp 7), none, []⟩, ⟨1, (some 17), .ibin .neq .i64 (.tmp 16) (.const (.int .i64 0)), none, []⟩])
 (.cond (.tmp 17) (.seq (.region false [⟨0, (some 18), .move (.tmp 7), none, []⟩, ⟨1, (some 4), .move (.const (.int .i64 0)), none, []⟩, ⟨2, (some 5), .move (.tmp 18), none, []⟩])
 .ret) .skip))
 (.seq (.seq (.region false [⟨0, (some 19), .loadN (.tmp 6) 2, none, []⟩, ⟨1, (some 20), .callF 79 [(.tmp 19)], none, []⟩])
 (.cond (.tmp 20) (.seq (.region false [⟨0, (some 4), .move (.const (.int .i64 2)), none, []⟩, ⟨1, (some 5), .move (.const (.int .i64 0)), none, []⟩])
 .ret) .skip))
 (.seq (.seq (.region false [⟨0, (some 22), .loadN (.tmp 6) 2, none, []⟩, ⟨1, (some 23), .callF 80 [(.tmp 22), (.func 81)], none, []⟩, ⟨2, (some 21), .move (.tmp 23), none, []⟩, ⟨3, (some 24), .ext (.tmp 21) 0, none, []⟩, ⟨4, (some 25), .ext (.tmp 21) 1, none, []⟩, ⟨5, (some 8), .new 58 [(.int .i64 0), (.int .i64 0)], none, []⟩, ⟨6, none, .store (.tmp 8) (.tmp 24) 2, none, []⟩, ⟨7, (some 9), .move (.tmp 25), none, []⟩])
 (.seq (.region false [⟨0, (some 26), .move (.tmp 9), none, []⟩, ⟨1, (some 27), .not (.tmp 26), none, []⟩])
 (.cond (.tmp 27) (.seq (.region false [⟨0, (some 4), .move (.const (.int .i64 1)), none, []⟩, ⟨1, (some 5), .move (.const (.int .i64 0)), none, []⟩])
 .ret) .skip)))
 (.seq (.region false [⟨0, (some 4), .move (.const (.int .i64 0)), none, []⟩, ⟨1, (some 5), .move (.const (.int .i64 0)), none, []⟩])
 .ret)))))), [.tmp 4, .tmp 5]⟩
/- bellarmine/share.Check -/
def pf27 : PF := ⟨35, (.seq (.region false [⟨0, (some 2), .move (.const (.int .i64 0)), none, []⟩])
 (.seq (.seq (.region false [⟨0, (some 5), .move (.tmp 0), none, []⟩, ⟨1, (some 6), .len (.tmp 5), none, []⟩, ⟨2, (some 7), .ibin .eql .i64 (.tmp 6) (.const (.int .i64 0)), none, []⟩])
 (.cond (.tmp 7) (.seq (.region false [⟨0, (some 2), .move (.const (.int .i64 4)), none, []⟩])
 .ret) .skip))
 (.seq (.seq (.region false [⟨0, (some 8), .move (.tmp 0), none, []⟩, ⟨1, (some 9), .len (.tmp 8), none, []⟩, ⟨2, (some 10), .ibin .gtr .i64 (.tmp 9) (.const (.int .i64 4)), none, []⟩, ⟨3, (some 11), .move (.tmp 10), none, []⟩, ⟨4, (some 12), .move (.tmp 0), (some (11, false)), []⟩, ⟨5, (some 13), .idxS (.tmp 12) (.const (.int .i64 0)) 1, (some (11, false)), []⟩, ⟨6, (some 14), .load1 (.tmp 13), (some (11, false)), []⟩, ⟨7, (some 15), .len (.tmp 14), (some (11, false)), []⟩, ⟨8, (some 16), .ibin .gtr .i64 (.tmp 15) (.const (.int .i64 6)), (some (11, false)), []⟩, ⟨9, (some 17), .pick (.tmp 11) (.const (.bool true)) (.tmp 16), none, []⟩])
 (.cond (.tmp 17) (.seq (.region false [⟨0, (some 2), .move (.const (.int .i64 3)), none, []⟩])
 .ret) .skip))
 (.seq (.seq (.region false [⟨0, (some 18), .move (.tmp 0), none, []⟩, ⟨1, (some 19), .len (.tmp 18), none, []⟩, ⟨2, (some 20), .move (.const (.int .i64 0)), none, []⟩])
 (.block 0 (.loop (.seq (.region false [⟨0, (some 21), .ibin .lss .i64 (.tmp 20) (.tmp 19), none, []⟩])
 (.seq (.cond (.tmp 21) .skip (.exit 0))
 (.seq (.block 1 (.seq (.region false [⟨0, (some 22), .idxS (.tmp 18) (.tmp 20) 1, none, []⟩, ⟨1, (some 23), .load1 (.tmp 22), none, []⟩, ⟨2, (some 4), .move (.tmp 23), none, []⟩])
 (.seq (.seq (.region false [⟨0, (some 24), .move (.tmp 4), none, []⟩, ⟨1, (some 25), .len (.tmp 24), none, []⟩, ⟨2, (some 26), .move (.tmp 0), none, []⟩, ⟨3, (some 27), .idxS (.tmp 26) (.const (.int .i64 0)) 1, none, []⟩, ⟨4, (some 28), .load1 (.tmp 27), none, []⟩, ⟨5, (some 29), .len (.tmp 28), none, []⟩, ⟨6, (some 30), .ibin .neq .i64 (.tmp 25) (.tmp 29), none, []⟩])
 (.cond (.tmp 30) (.seq (.region false [⟨0, (some 2), .move (.const (.int .i64 5)), none, []⟩])
 .ret) .skip))
 (.seq (.region false [⟨0, (some 31), .move (.tmp 4), none, []⟩, ⟨1, (some 32), .callF 83 [(.const (.int .i64 21)), (.tmp 31)], none, []⟩, ⟨2, (some 33), .not (.tmp 32), none, []⟩])
 (.cond (.tmp 33) (.seq (.region false [⟨0, (some 2), .move (.const (.int .i64 1)), none, []⟩])
 .ret) .skip)))))
 (.region false [⟨0, (some 34), .ibin .add .i64 (.tmp 20) (.const (.int .i64 1)), none, []⟩, ⟨1, (some 20), .move (.tmp 34), none, []⟩])))))))
 (.seq (.region false [⟨0, (some 2), .move (.const (.int .i64 0)), none, []⟩])
 .ret))))), [.tmp 2]⟩
/- bellarmine/share.Why -/
def pf29 : PF := ⟨30, (.seq (.region false [⟨0, (some 4), .move (.const (.int .i64 0)), none, []⟩, ⟨1, (some 5), .move (.const (.int .i64 0)), none, []⟩, ⟨2, (some 6), .move (.const (.int .i64 0)), none, []⟩])
 (.seq (.region false [⟨0, (some 11), .move (.tmp 0), none, []⟩, ⟨1, (some 12), .move (.tmp 1), none, []⟩, ⟨2, (some 13), .callF 70 [(.tmp 11), (.tmp 12)], none, []⟩, ⟨3, (some 10), .move (.tmp 13), none, []⟩, ⟨4, (some 14), .ext (.tmp 10) 0, none, []⟩, ⟨5, (some 15), .ext (.tmp 10) 1, none, []⟩, ⟨6, (some 7), .new 78 [(.slice none 0 0), (.slice none 0 0)], none, []⟩, ⟨7, none, .store (.tmp 7) (.tmp 14) 2, none, []⟩, ⟨8, (some 6), .move (.tmp 15), none, []⟩])
 (.seq (.seq (.region false [⟨0, (some 16), .move (.tmp 6), none, []⟩, ⟨1, (some 17), .ibin .neq .i64 (.tmp 16) (.const (.int .i64 0)), none, []⟩])
 (.cond (.tmp 17) (.seq (.region false [⟨0, (some 18), .move (.tmp 6), none, []⟩, ⟨1, (some 4), .move (.const (.int .i64 0)), none, []⟩, ⟨2, (some 5), .move (.const (.int .i64 0)), none, []⟩, ⟨3, (some 6), .move (.tmp 18), none, []⟩])
 .ret) .skip))
 (.seq (.region false [⟨0, (some 20), .loadN (.tmp 7) 2, none, []⟩, ⟨1, (some 21), .callF 80 [(.tmp 20), (.func 81)], none, []⟩, ⟨2, (some 19), .move (.tmp 21), none, []⟩, ⟨3, (some 22), .ext (.tmp 19) 0, none, []⟩, ⟨4, (some 23), .ext (.tmp 19) 1, none, []⟩, ⟨5, (some 8), .new 58 [(.int .i64 0), (.int .i64 0)], none, []⟩, ⟨6, none, .store (.tmp 8) (.tmp 22) 2, none, []⟩, ⟨7, (some 9), .move (.tmp 23), none, []⟩])
 (.seq (.seq (.region false [⟨0, (some 24), .move (.tmp 9), none, []⟩, ⟨1, (some 25), .not (.tmp 24), none, []⟩])
 (.cond (.tmp 25) (.seq (.region false [⟨0, (some 4), .move (.const (.int .i64 0)), none, []⟩, ⟨1, (some 5), .move (.const (.int .i64 0)), none, []⟩, ⟨2, (some 6), .move (.const (.int .i64 13)), none, []⟩])
 .ret) .skip))
 (.seq (.region true [⟨0, (some 26), .idxA (.tmp 8) (.const (.int .i64 0)) 2 1, none, []⟩, ⟨1, (some 27), .load1 (.tmp 26), none, []⟩, ⟨2, (some 28), .idxA (.tmp 8) (.const (.int .i64 1)) 2 1, none, []⟩, ⟨3, (some 29), .load1 (.tmp 28), none, []⟩, ⟨4, (some 4), .move (.tmp 27), none, []⟩, ⟨5, (some 5), .move (.tmp 29), none, []⟩, ⟨6, (some 6), .move (.const (.int .i64 0)), none, []⟩])
 .ret)))))), [.tmp 4, .tmp 5, .tmp 6]⟩
/- (bellarmine/bellarminelaw07.Heap).made -/
def pf46 : PF := ⟨57, (.seq (.region false [⟨0, (some 4), .box 49 (.tmp 0), none, []⟩, ⟨1, (some 8), .move (.const (.slice none 0 0)), none, []⟩])
 (.seq (.region false [⟨0, (some 9), .move (.const (.slice none 0 0)), none, []⟩])
 (.seq (.region false [⟨0, (some 16), .fieldAddr (.tmp 4) 1, none, []⟩, ⟨1, (some 17), .load1 (.tmp 16), none, []⟩, ⟨2, (some 18), .plain ⟨(some 18), .convert 5 3 (.tmp 17), 3, (String.ofList [Char.ofNat 111, Char.ofNat 117, Char.ofNat 116, Char.ofNat 114, Char.ofNat 105, Char.ofNat 103, Char.ofNat 104, Char.ofNat 116, Char.ofNat 46, Char.ofNat 103, Char.ofNat 111, Char.ofNat 58, Char.ofNat 50, Char.ofNat 49]), #[⟨1, .data⟩], none⟩, none, []⟩, ⟨3, (some 19), .move (.tmp 2), none, []⟩, ⟨4, (some 20), .ibin .add .i64 (.tmp 19) (.const (.int .i64 1)), none, []⟩, ⟨5, (some 21), .ibin .rem .i64 (.tmp 18) (.tmp 20), none, []⟩, ⟨6, (some 10), .move (.tmp 21), none, []⟩])
 (.seq (.seq (.region false [⟨0, (some 22), .fieldAddr (.tmp 4) 2, none, []⟩, ⟨1, (some 23), .fieldAddr (.tmp 4) 0, none, []⟩, ⟨2, (some 24), .load1 (.tmp 23), none, []⟩, ⟨3, (some 25), .plain ⟨(some 25), .convert 5 3 (.tmp 24), 3, (String.ofList [Char.ofNat 111, Char.ofNat 117, Char.ofNat 116, Char.ofNat 114, Char.ofNat 105, Char.ofNat 103, Char.ofNat 104, Char.ofNat 116, Char.ofNat 46, Char.ofNat 103, Char.ofNat 111, Char.ofNat 58, Char.ofNat 50, Char.ofNat 50]), #[⟨2, .data⟩], none⟩, none, []⟩, ⟨4, (some 26), .move (.tmp 1), none, []⟩, ⟨5, (some 27), .ibin .rem .i64 (.tmp 25) (.tmp 26), none, []⟩, ⟨6, (some 28), .ibin .add .i64 (.const (.int .i64 1)) (.tmp 27), none, []⟩, ⟨7, (some 29), .slA (.tmp 22) 4 6 none (some (.tmp 28)) none, none, []⟩, ⟨8, (some 30), .len (.tmp 29), none, []⟩, ⟨9, (some 31), .move (.const (.int .i64 0)), none, []⟩])
 (.block 0 (.loop (.seq (.region false [⟨0, (some 32), .ibin .lss .i64 (.tmp 31) (.tmp 30), none, []⟩])
 (.seq (.cond (.tmp 32) .skip (.exit 0))
 (.seq (.block 1 (.seq (.region false [⟨0, (some 33), .idxS (.tmp 29) (.tmp 31) 6, none, []⟩, ⟨1, (some 34), .loadN (.tmp 33) 6, none, []⟩, ⟨2, (some 12), .new 46 [(.int .u8 0), (.int .u8 0), (.int .u8 0), (.int .u8 0), (.int .u8 0), (.int .u8 0)], none, []⟩, ⟨3, none, .store (.tmp 12) (.tmp 34) 6, none, []⟩])
 (.seq (.region false [⟨0, (some 13), .move (.const (.slice none 0 0)), none, []⟩])
 (.seq (.seq (.region false [⟨0, (some 35), .move (.tmp 10), none, []⟩, ⟨1, (some 36), .slA (.tmp 12) 6 1 none (some (.tmp 35)) none, none, []⟩, ⟨2, (some 37), .len (.tmp 36), none, []⟩, ⟨3, (some 38), .move (.const (.int .i64 0)), none, []⟩])
 (.block 2 (.loop (.seq (.region false [⟨0, (some 39), .ibin .lss .i64 (.tmp 38) (.tmp 37), none, []⟩])
 (.seq (.cond (.tmp 39) .skip (.exit 2))
 (.seq (.block 3 (.seq (.region false [⟨0, (some 40), .idxS (.tmp 36) (.tmp 38) 1, none, []⟩, ⟨1, (some 41), .load1 (.tmp 40), none, []⟩, ⟨2, (some 15), .move (.tmp 41), none, []⟩])
 (.region false [⟨0, (some 42), .move (.tmp 13), none, []⟩, ⟨1, (some 43), .move (.tmp 15), none, []⟩, ⟨2, (some 44), .plain ⟨(some 44), .convert 5 3 (.tmp 43), 3, (String.ofList [Char.ofNat 111, Char.ofNat 117, Char.ofNat 116, Char.ofNat 114, Char.ofNat 105, Char.ofNat 103, Char.ofNat 104, Char.ofNat 116, Char.ofNat 46, Char.ofNat 103, Char.ofNat 111, Char.ofNat 58, Char.ofNat 50, Char.ofNat 53]), #[⟨1, .data⟩], none⟩, none, []⟩, ⟨3, (some 45), .move (.tmp 3), none, []⟩, ⟨4, (some 46), .ibin .add .i64 (.tmp 45) (.const (.int .i64 1)), none, []⟩, ⟨5, (some 47), .ibin .rem .i64 (.tmp 44) (.tmp 46), none, []⟩, ⟨6, (some 48), .bldS 3 1 [(.int .i64 0)] 1 [(0, (.tmp 47))], none, []⟩, ⟨7, (some 49), .append 3 1 (.tmp 42) (.tmp 48), none, []⟩, ⟨8, (some 13), .move (.tmp 49), none, []⟩])))
 (.region false [⟨0, (some 50), .ibin .add .i64 (.tmp 38) (.const (.int .i64 1)), none, []⟩, ⟨1, (some 38), .move (.tmp 50), none, []⟩])))))))
 (.region false [⟨0, (some 51), .move (.tmp 9), none, []⟩, ⟨1, (some 52), .move (.tmp 13), none, []⟩, ⟨2, (some 53), .bldS 23 1 [(.slice none 0 0)] 1 [(0, (.tmp 52))], none, []⟩, ⟨3, (some 54), .append 23 1 (.tmp 51) (.tmp 53), none, []⟩, ⟨4, (some 9), .move (.tmp 54), none, []⟩])))))
 (.region false [⟨0, (some 55), .ibin .add .i64 (.tmp 31) (.const (.int .i64 1)), none, []⟩, ⟨1, (some 31), .move (.tmp 55), none, []⟩])))))))
 (.seq (.region false [⟨0, (some 56), .move (.tmp 9), none, []⟩, ⟨1, (some 8), .move (.tmp 56), none, []⟩])
 .ret))))), [.tmp 8]⟩
/- bellarmine/share.checked -/
def pf70 : PF := ⟨30, (.seq (.region false [⟨0, (some 4), .new 78 [(.slice none 0 0), (.slice none 0 0)], none, []⟩, ⟨1, (some 5), .move (.const (.int .i64 0)), none, []⟩])
 (.seq (.seq (.region false [⟨0, (some 7), .move (.tmp 0), none, []⟩, ⟨1, (some 8), .callF 27 [(.tmp 7)], none, []⟩, ⟨2, (some 6), .move (.tmp 8), none, []⟩])
 (.seq (.region false [⟨0, (some 9), .move (.tmp 6), none, []⟩, ⟨1, (some 10), .ibin .neq .i64 (.tmp 9) (.const (.int .i64 0)), none, []⟩])
 (.cond (.tmp 10) (.seq (.region false [⟨0, (some 11), .bldT [(.slice none 0 0), (.slice none 0 0)] [(0, 1), (1, 1)] [], none, []⟩, ⟨1, (some 12), .move (.tmp 6), none, []⟩, ⟨2, none, .store (.tmp 4) (.tmp 11) 2, none, []⟩, ⟨3, (some 5), .move (.tmp 12), none, []⟩])
 .ret) .skip)))
 (.seq (.seq (.region false [⟨0, (some 13), .move (.tmp 1), none, []⟩, ⟨1, (some 14), .len (.tmp 13), none, []⟩, ⟨2, (some 15), .move (.tmp 0), none, []⟩, ⟨3, (some 16), .idxS (.tmp 15) (.const (.int .i64 0)) 1, none, []⟩, ⟨4, (some 17), .load1 (.tmp 16), none, []⟩, ⟨5, (some 18), .len (.tmp 17), none, []⟩, ⟨6, (some 19), .ibin .neq .i64 (.tmp 14) (.tmp 18), none, []⟩])
 (.cond (.tmp 19) (.seq (.region false [⟨0, (some 20), .bldT [(.slice none 0 0), (.slice none 0 0)] [(0, 1), (1, 1)] [], none, []⟩, ⟨1, none, .store (.tmp 4) (.tmp 20) 2, none, []⟩, ⟨2, (some 5), .move (.const (.int .i64 5)), none, []⟩])
 .ret) .skip))
 (.seq (.seq (.region false [⟨0, (some 21), .move (.tmp 0), none, []⟩, ⟨1, (some 22), .len (.tmp 21), none, []⟩, ⟨2, (some 23), .move (.tmp 1), none, []⟩, ⟨3, (some 24), .callF 83 [(.tmp 22), (.tmp 23)], none, []⟩, ⟨4, (some 25), .not (.tmp 24), none, []⟩])
 (.cond (.tmp 25) (.seq (.region false [⟨0, (some 26), .bldT [(.slice none 0 0), (.slice none 0 0)] [(0, 1), (1, 1)] [], none, []⟩, ⟨1, none, .store (.tmp 4) (.tmp 26) 2, none, []⟩, ⟨2, (some 5), .move (.const (.int .i64 2)), none, []⟩])
 .ret) .skip))
 (.seq (.region false [⟨0, (some 27), .move (.tmp 0), none, []⟩, ⟨1, (some 28), .move (.tmp 1), none, []⟩, ⟨2, (some 29), .callF 92 [(.tmp 27), (.tmp 28)], none, []⟩, ⟨3, none, .store (.tmp 4) (.tmp 29) 2, none, []⟩, ⟨4, (some 5), .move (.const (.int .i64 0)), none, []⟩])
 .ret))))), [.cell 4 (some 2), .tmp 5]⟩
/- bellarmine/share.ask[int] -/
def pf71 : PF := ⟨26, (.seq (.region false [⟨0, (some 4), .move (.const (.slice none 0 0)), none, []⟩])
 (.seq (.region false [⟨0, (some 8), .move (.tmp 1), none, []⟩, ⟨1, (some 9), .len (.tmp 8), none, []⟩, ⟨2, (some 10), .mkS 3 [(.int .i64 0)] (.tmp 9) (.tmp 9), none, []⟩, ⟨3, (some 5), .move (.tmp 10), none, []⟩])
 (.seq (.seq (.region false [⟨0, (some 11), .move (.tmp 1), none, []⟩, ⟨1, (some 12), .len (.tmp 11), none, []⟩, ⟨2, (some 13), .move (.const (.int .i64 0)), none, []⟩])
 (.block 0 (.loop (.seq (.region false [⟨0, (some 14), .ibin .lss .i64 (.tmp 13) (.tmp 12), none, []⟩])
 (.seq (.cond (.tmp 14) .skip (.exit 0))
 (.seq (.block 1 (.seq (.region false [⟨0, (some 15), .move (.tmp 13), none, []⟩, ⟨1, (some 16), .idxS (.tmp 11) (.tmp 13) 1, none, []⟩, ⟨2, (some 17), .load1 (.tmp 16), none, []⟩, ⟨3, (some 6), .move (.tmp 15), none, []⟩, ⟨4, (some 7), .move (.tmp 17), none, []⟩])
 (.region false [⟨0, (some 18), .move (.tmp 5), none, []⟩, ⟨1, (some 19), .move (.tmp 6), none, []⟩, ⟨2, (some 20), .move (.tmp 0), none, []⟩, ⟨3, (some 21), .move (.tmp 7), none, []⟩, ⟨4, (some 22), .callV (.tmp 20) [(.tmp 21)], none, []⟩, ⟨5, (some 23), .idxS (.tmp 18) (.tmp 19) 1, none, []⟩, ⟨6, none, .store (.tmp 23) (.tmp 22) 1, none, []⟩])))
 (.region false [⟨0, (some 24), .ibin .add .i64 (.tmp 13) (.const (.int .i64 1)), none, []⟩, ⟨1, (some 13), .move (.tmp 24), none, []⟩])))))))
 (.seq (.region false [⟨0, (some 25), .move (.tmp 5), none, []⟩, ⟨1, (some 4), .move (.tmp 25), none, []⟩])
 .ret)))), [.tmp 4]⟩
/- (bellarmine/share.finder).worth -/
def pf72 : PF := ⟨23, (.seq (.region false [⟨0, (some 4), .move (.const (.int .i64 0)), none, []⟩])
 (.seq (.region false [⟨0, (some 5), .move (.const (.int .i64 0)), none, []⟩])
 (.seq (.seq (.region false [⟨0, (some 8), .move (.tmp 0), none, []⟩, ⟨1, (some 9), .len (.tmp 8), none, []⟩, ⟨2, (some 10), .move (.const (.int .i64 0)), none, []⟩])
 (.block 0 (.loop (.seq (.region false [⟨0, (some 11), .ibin .lss .i64 (.tmp 10) (.tmp 9), none, []⟩])
 (.seq (.cond (.tmp 11) .skip (.exit 0))
 (.seq (.block 1 (.seq (.region false [⟨0, (some 12), .move (.tmp 10), none, []⟩, ⟨1, (some 13), .idxS (.tmp 8) (.tmp 10) 1, none, []⟩, ⟨2, (some 14), .load1 (.tmp 13), none, []⟩, ⟨3, (some 6), .move (.tmp 12), none, []⟩, ⟨4, (some 7), .move (.tmp 14), none, []⟩])
 (.seq (.region false [⟨0, (some 15), .move (.tmp 1), none, []⟩, ⟨1, (some 16), .move (.tmp 6), none, []⟩, ⟨2, (some 17), .callF 104 [(.tmp 15), (.tmp 16)], none, []⟩])
 (.cond (.tmp 17) (.region false [⟨0, (some 18), .move (.tmp 5), none, []⟩, ⟨1, (some 19), .move (.tmp 7), none, []⟩, ⟨2, (some 20), .ibin .add .i64 (.tmp 18) (.tmp 19), none, []⟩, ⟨3, (some 5), .move (.tmp 20), none, []⟩]) .skip))))
 (.region false [⟨0, (some 21), .ibin .add .i64 (.tmp 10) (.const (.int .i64 1)), none, []⟩, ⟨1, (some 10), .move (.tmp 21), none, []⟩])))))))
 (.seq (.region false [⟨0, (some 22), .move (.tmp 5), none, []⟩, ⟨1, (some 4), .move (.tmp 22), none, []⟩])
 .ret)))), [.tmp 4]⟩
/- (bellarmine/share.division).pairs -/
def pf76 : PF := ⟨6, (.seq (.region false [⟨0, (some 2), .box 78 (.tmp 0), none, []⟩, ⟨1, (some 3), .box 90 (.tmp 1), none, []⟩, ⟨2, (some 4), .move (.const .nilFunc), none, []⟩])
 (.seq (.region false [⟨0, (some 5), .mkF (.func 106) #[] #[(.tmp 2), (.tmp 3)], none, []⟩, ⟨1, (some 4), .move (.tmp 5), none, []⟩])
 .ret)), [.tmp 4]⟩
/- (bellarmine/share.finder).envies -/
def pf77 : PF := ⟨10, (.seq (.region false [⟨0, (some 2), .box 83 (.tmp 0), none, []⟩, ⟨1, (some 4), .move (.const .nilFunc), none, []⟩])
 (.seq (.region false [⟨0, (some 6), .load1 (.tmp 2), none, []⟩, ⟨1, (some 7), .move (.tmp 1), none, []⟩, ⟨2, (some 8), .callF 72 [(.tmp 6), (.tmp 7)], none, []⟩, ⟨3, (some 5), .new 3 [(.int .i64 0)], none, []⟩, ⟨4, none, .store (.tmp 5) (.tmp 8) 1, none, []⟩])
 (.seq (.region false [⟨0, (some 9), .mkF (.func 108) #[] #[(.tmp 2), (.tmp 5)], none, []⟩, ⟨1, (some 4), .move (.tmp 9), none, []⟩])
 .ret))), [.tmp 4]⟩
/- (bellarmine/share.division).isFair -/
def pf79 : PF := ⟨12, (.seq (.region false [⟨0, (some 1), .box 78 (.tmp 0), none, []⟩, ⟨1, (some 2), .move (.const (.bool false)), none, []⟩])
 (.seq (.region false [⟨0, (some 6), .loadN (.tmp 1) 2, none, []⟩, ⟨1, (some 7), .callF 80 [(.tmp 6), (.func 77)], none, []⟩, ⟨2, (some 5), .move (.tmp 7), none, []⟩, ⟨3, (some 8), .ext (.tmp 5) 0, none, []⟩, ⟨4, (some 9), .ext (.tmp 5) 1, none, []⟩, ⟨5, (some 3), .new 58 [(.int .i64 0), (.int .i64 0)], none, []⟩, ⟨6, none, .store (.tmp 3) (.tmp 8) 2, none, []⟩, ⟨7, (some 4), .move (.tmp 9), none, []⟩])
 (.seq (.region false [⟨0, (some 10), .move (.tmp 4), none, []⟩, ⟨1, (some 11), .not (.tmp 10), none, []⟩, ⟨2, (some 2), .move (.tmp 11), none, []⟩])
 .ret))), [.tmp 2]⟩
/- (bellarmine/share.division).first -/
def pf80 : PF := ⟨13, (.seq (.region false [⟨0, (some 2), .box 78 (.tmp 0), none, []⟩, ⟨1, (some 4), .new 58 [(.int .i64 0), (.int .i64 0)], none, []⟩, ⟨2, (some 5), .new 4 [(.bool false)], none, []⟩])
 (.seq (.seq (.region false [⟨0, (some 7), .loadN (.tmp 2) 2, none, []⟩, ⟨1, (some 8), .move (.tmp 1), none, []⟩, ⟨2, (some 9), .callF 76 [(.tmp 7), (.tmp 8)], none, []⟩])
 (.block 0 (.rangeFunc (.tmp 9) [10] (.region false [⟨0, (some 6), .new 58 [(.int .i64 0), (.int .i64 0)], none, []⟩, ⟨1, none, .store (.tmp 6) (.tmp 10) 2, none, []⟩]) (.block 1 (.seq (.region false [⟨0, (some 11), .loadN (.tmp 6) 2, none, []⟩, ⟨1, none, .store (.tmp 4) (.tmp 11) 2, none, []⟩, ⟨2, none, .store (.tmp 5) (.const (.bool true)) 1, none, []⟩])
 .ret)))))
 (.seq (.region false [⟨0, (some 12), .bldA [(.int .i64 0), (.int .i64 0)] 1 [], none, []⟩, ⟨1, none, .store (.tmp 4) (.tmp 12) 2, none, []⟩, ⟨2, none, .store (.tmp 5) (.const (.bool false)) 1, none, []⟩])
 .ret))), [.cell 4 (some 2), .cell 5 none]⟩
/- (bellarmine/share.finder).enviesByMore -/
def pf81 : PF := ⟨10, (.seq (.region false [⟨0, (some 4), .move (.const .nilFunc), none, []⟩])
 (.seq (.region false [⟨0, (some 6), .move (.tmp 0), none, []⟩, ⟨1, (some 7), .move (.tmp 1), none, []⟩, ⟨2, (some 8), .callF 77 [(.tmp 6), (.tmp 7)], none, []⟩, ⟨3, (some 5), .new 121 [.nilFunc], none, []⟩, ⟨4, none, .store (.tmp 5) (.tmp 8) 1, none, []⟩])
 (.seq (.region false [⟨0, (some 9), .mkF (.func 109) #[] #[(.tmp 5)], none, []⟩, ⟨1, (some 4), .move (.tmp 9), none, []⟩])
 .ret))), [.tmp 4]⟩
/- bellarmine/share.areBelow -/
def pf83 : PF := ⟨21, (.seq (.region false [⟨0, (some 4), .move (.const (.bool false)), none, []⟩])
 (.seq (.seq (.region false [⟨0, (some 7), .move (.tmp 1), none, []⟩, ⟨1, (some 8), .len (.tmp 7), none, []⟩, ⟨2, (some 9), .move (.const (.int .i64 0)), none, []⟩])
 (.block 0 (.loop (.seq (.region false [⟨0, (some 10), .ibin .lss .i64 (.tmp 9) (.tmp 8), none, []⟩])
 (.seq (.cond (.tmp 10) .skip (.exit 0))
 (.seq (.block 1 (.seq (.region false [⟨0, (some 11), .idxS (.tmp 7) (.tmp 9) 1, none, []⟩, ⟨1, (some 12), .load1 (.tmp 11), none, []⟩, ⟨2, (some 6), .move (.tmp 12), none, []⟩])
 (.seq (.region false [⟨0, (some 13), .move (.tmp 6), none, []⟩, ⟨1, (some 14), .ibin .lss .i64 (.tmp 13) (.const (.int .i64 0)), none, []⟩, ⟨2, (some 15), .move (.tmp 14), none, []⟩, ⟨3, (some 16), .move (.tmp 6), (some (15, false)), []⟩, ⟨4, (some 17), .move (.tmp 0), (some (15, false)), []⟩, ⟨5, (some 18), .ibin .geq .i64 (.tmp 16) (.tmp 17), (some (15, false)), []⟩, ⟨6, (some 19), .pick (.tmp 15) (.const (.bool true)) (.tmp 18), none, []⟩])
 (.cond (.tmp 19) (.seq (.region false [⟨0, (some 4), .move (.const (.bool false)), none, []⟩])
 .ret) .skip))))
 (.region false [⟨0, (some 20), .ibin .add .i64 (.tmp 9) (.const (.int .i64 1)), none, []⟩, ⟨1, (some 9), .move (.tmp 20), none, []⟩])))))))
 (.seq (.region false [⟨0, (some 4), .move (.const (.bool true)), none, []⟩])
 .ret))), [.tmp 4]⟩
/- bellarmine/share.divide -/
def pf92 : PF := ⟨26, (.seq (.region false [⟨0, (some 4), .new 78 [(.slice none 0 0), (.slice none 0 0)], none, []⟩])
 (.seq (.region false [⟨0, (some 8), .move (.tmp 0), none, []⟩, ⟨1, (some 9), .move (.tmp 0), none, []⟩, ⟨2, (some 10), .len (.tmp 9), none, []⟩, ⟨3, (some 11), .mkS 116 [(.int .u64 0)] (.tmp 10) (.tmp 10), none, []⟩, ⟨4, (some 12), .bldT [(.slice none 0 0), (.slice none 0 0)] [(0, 1), (1, 1)] [(0, (.tmp 8)), (1, (.tmp 11))], none, []⟩, ⟨5, (some 5), .new 78 [(.slice none 0 0), (.slice none 0 0)], none, []⟩, ⟨6, none, .store (.tmp 5) (.tmp 12) 2, none, []⟩])
 (.seq (.seq (.region false [⟨0, (some 13), .move (.tmp 1), none, []⟩, ⟨1, (some 14), .len (.tmp 13), none, []⟩, ⟨2, (some 15), .move (.const (.int .i64 0)), none, []⟩])
 (.block 0 (.loop (.seq (.region false [⟨0, (some 16), .ibin .lss .i64 (.tmp 15) (.tmp 14), none, []⟩])
 (.seq (.cond (.tmp 16) .skip (.exit 0))
 (.seq (.block 1 (.seq (.region false [⟨0, (some 17), .move (.tmp 15), none, []⟩, ⟨1, (some 18), .idxS (.tmp 13) (.tmp 15) 1, none, []⟩, ⟨2, (some 19), .load1 (.tmp 18), none, []⟩, ⟨3, (some 6), .move (.tmp 17), none, []⟩, ⟨4, (some 7), .move (.tmp 19), none, []⟩])
 (.region false [⟨0, (some 20), .loadN (.tmp 5) 2, none, []⟩, ⟨1, (some 21), .move (.tmp 6), none, []⟩, ⟨2, (some 22), .move (.tmp 7), none, []⟩, ⟨3, (some 23), .callF 114 [(.tmp 20), (.tmp 21), (.tmp 22)], none, []⟩])))
 (.region false [⟨0, (some 24), .ibin .add .i64 (.tmp 15) (.const (.int .i64 1)), none, []⟩, ⟨1, (some 15), .move (.tmp 24), none, []⟩])))))))
 (.seq (.region false [⟨0, (some 25), .loadN (.tmp 5) 2, none, []⟩, ⟨1, none, .store (.tmp 4) (.tmp 25) 2, none, []⟩])
 .ret)))), [.cell 4 (some 2)]⟩
/- (bellarmine/share.share).has -/
def pf104 : PF := ⟨10, (.seq (.region false [⟨0, (some 4), .move (.const (.bool false)), none, []⟩])
 (.seq (.region false [⟨0, (some 5), .move (.tmp 0), none, []⟩, ⟨1, (some 6), .move (.tmp 1), none, []⟩, ⟨2, (some 7), .callF 112 [(.tmp 6)], none, []⟩, ⟨3, (some 8), .ibin .and .u64 (.tmp 5) (.tmp 7), none, []⟩, ⟨4, (some 9), .ibin .neq .u64 (.tmp 8) (.const (.int .u64 0)), none, []⟩, ⟨5, (some 4), .move (.tmp 9), none, []⟩])
 .ret)), [.tmp 4]⟩
/- (bellarmine/share.division).pairs$1 -/
def pf106 : PF := ⟨44, (.seq (.region false [⟨0, (some 8), .fieldAddr (.tmp 1) 1, none, []⟩, ⟨1, (some 9), .load1 (.tmp 8), none, []⟩, ⟨2, (some 10), .len (.tmp 9), none, []⟩, ⟨3, (some 11), .move (.const (.int .i64 0)), none, []⟩])
 (.block 0 (.loop (.seq (.region false [⟨0, (some 12), .ibin .lss .i64 (.tmp 11) (.tmp 10), none, []⟩])
 (.seq (.cond (.tmp 12) .skip (.exit 0))
 (.seq (.block 1 (.seq (.region false [⟨0, (some 13), .move (.tmp 11), none, []⟩, ⟨1, (some 14), .idxS (.tmp 9) (.tmp 11) 1, none, []⟩, ⟨2, (some 15), .load1 (.tmp 14), none, []⟩, ⟨3, (some 4), .move (.tmp 13), none, []⟩, ⟨4, (some 5), .move (.tmp 15), none, []⟩])
 (.seq (.region true [⟨0, (some 16), .load1 (.tmp 2), none, []⟩, ⟨1, (some 17), .fieldAddr (.tmp 1) 0, none, []⟩, ⟨2, (some 18), .load1 (.tmp 17), none, []⟩, ⟨3, (some 19), .move (.tmp 4), none, []⟩, ⟨4, (some 20), .idxS (.tmp 18) (.tmp 19) 1, none, []⟩, ⟨5, (some 21), .load1 (.tmp 20), none, []⟩, ⟨6, (some 22), .move (.tmp 5), none, []⟩, ⟨8, (some 24), .fieldAddr (.tmp 1) 1, none, []⟩, ⟨9, (some 25), .load1 (.tmp 24), none, []⟩, ⟨12, (some 28), .move (.const (.int .i64 0)), none, []⟩, ⟨7, (some 23), .callV (.tmp 16) [(.tmp 21), (.tmp 22)], none, [9]⟩, ⟨10, (some 26), .callF 107 [(.tmp 23), (.tmp 25)], none, []⟩, ⟨11, (some 27), .len (.tmp 26), none, []⟩])
 (.block 2 (.loop (.seq (.region false [⟨0, (some 29), .ibin .lss .i64 (.tmp 28) (.tmp 27), none, []⟩])
 (.seq (.cond (.tmp 29) .skip (.exit 2))
 (.seq (.block 3 (.seq (.region false [⟨0, (some 30), .move (.tmp 28), none, []⟩, ⟨1, (some 31), .idxS (.tmp 26) (.tmp 28) 1, none, []⟩, ⟨2, (some 32), .load1 (.tmp 31), none, []⟩, ⟨3, (some 6), .move (.tmp 30), none, []⟩, ⟨4, (some 7), .move (.tmp 32), none, []⟩])
 (.seq (.region false [⟨0, (some 33), .move (.tmp 7), none, []⟩, ⟨1, (some 34), .move (.tmp 33), none, []⟩, ⟨2, (some 35), .move (.tmp 0), (some (34, true)), []⟩, ⟨3, (some 36), .move (.tmp 4), (some (34, true)), []⟩, ⟨4, (some 37), .move (.tmp 6), (some (34, true)), []⟩, ⟨5, (some 38), .bldA [(.int .i64 0), (.int .i64 0)] 1 [(0, (.tmp 36)), (1, (.tmp 37))], (some (34, true)), []⟩, ⟨6, (some 39), .callV (.tmp 35) [(.tmp 38)], (some (34, true)), []⟩, ⟨7, (some 40), .not (.tmp 39), (some (34, true)), []⟩, ⟨8, (some 41), .pick (.tmp 34) (.tmp 40) (.const (.bool false)), none, []⟩])
 (.cond (.tmp 41) .ret .skip))))
 (.region false [⟨0, (some 42), .ibin .add .i64 (.tmp 28) (.const (.int .i64 1)), none, []⟩, ⟨1, (some 28), .move (.tmp 42), none, []⟩])))))))))
 (.region false [⟨0, (some 43), .ibin .add .i64 (.tmp 11) (.const (.int .i64 1)), none, []⟩, ⟨1, (some 11), .move (.tmp 43), none, []⟩]))))))), []⟩
/- bellarmine/share.ask[bool] -/
def pf107 : PF := ⟨26, (.seq (.region false [⟨0, (some 4), .move (.const (.slice none 0 0)), none, []⟩])
 (.seq (.region false [⟨0, (some 8), .move (.tmp 1), none, []⟩, ⟨1, (some 9), .len (.tmp 8), none, []⟩, ⟨2, (some 10), .mkS 4 [(.bool false)] (.tmp 9) (.tmp 9), none, []⟩, ⟨3, (some 5), .move (.tmp 10), none, []⟩])
 (.seq (.seq (.region false [⟨0, (some 11), .move (.tmp 1), none, []⟩, ⟨1, (some 12), .len (.tmp 11), none, []⟩, ⟨2, (some 13), .move (.const (.int .i64 0)), none, []⟩])
 (.block 0 (.loop (.seq (.region false [⟨0, (some 14), .ibin .lss .i64 (.tmp 13) (.tmp 12), none, []⟩])
 (.seq (.cond (.tmp 14) .skip (.exit 0))
 (.seq (.block 1 (.seq (.region false [⟨0, (some 15), .move (.tmp 13), none, []⟩, ⟨1, (some 16), .idxS (.tmp 11) (.tmp 13) 1, none, []⟩, ⟨2, (some 17), .load1 (.tmp 16), none, []⟩, ⟨3, (some 6), .move (.tmp 15), none, []⟩, ⟨4, (some 7), .move (.tmp 17), none, []⟩])
 (.region false [⟨0, (some 18), .move (.tmp 5), none, []⟩, ⟨1, (some 19), .move (.tmp 6), none, []⟩, ⟨2, (some 20), .move (.tmp 0), none, []⟩, ⟨3, (some 21), .move (.tmp 7), none, []⟩, ⟨4, (some 22), .callV (.tmp 20) [(.tmp 21)], none, []⟩, ⟨5, (some 23), .idxS (.tmp 18) (.tmp 19) 1, none, []⟩, ⟨6, none, .store (.tmp 23) (.tmp 22) 1, none, []⟩])))
 (.region false [⟨0, (some 24), .ibin .add .i64 (.tmp 13) (.const (.int .i64 1)), none, []⟩, ⟨1, (some 13), .move (.tmp 24), none, []⟩])))))))
 (.seq (.region false [⟨0, (some 25), .move (.tmp 5), none, []⟩, ⟨1, (some 4), .move (.tmp 25), none, []⟩])
 .ret)))), [.tmp 4]⟩
/- (bellarmine/share.finder).envies$1 -/
def pf108 : PF := ⟨10, (.seq (.region false [⟨0, (some 4), .move (.const (.bool false)), none, []⟩])
 (.seq (.region true [⟨0, (some 5), .load1 (.tmp 1), none, []⟩, ⟨1, (some 6), .move (.tmp 0), none, []⟩, ⟨3, (some 8), .load1 (.tmp 2), none, []⟩, ⟨2, (some 7), .callF 72 [(.tmp 5), (.tmp 6)], none, [3]⟩, ⟨4, (some 9), .ibin .gtr .i64 (.tmp 7) (.tmp 8), none, []⟩, ⟨5, (some 4), .move (.tmp 9), none, []⟩])
 .ret)), [.tmp 4]⟩
/- (bellarmine/share.finder).enviesByMore$1 -/
def pf109 : PF := ⟨17, (.seq (.region false [⟨0, (some 3), .move (.const (.bool false)), none, []⟩])
 (.seq (.region false [⟨0, (some 5), .move (.tmp 0), none, []⟩, ⟨1, (some 6), .callF 110 [(.tmp 5)], none, []⟩, ⟨2, (some 4), .move (.tmp 6), none, []⟩])
 (.seq (.region false [⟨0, (some 7), .move (.tmp 4), none, []⟩, ⟨1, (some 8), .len (.tmp 7), none, []⟩, ⟨2, (some 9), .ibin .gtr .i64 (.tmp 8) (.const (.int .i64 0)), none, []⟩, ⟨3, (some 10), .move (.tmp 9), none, []⟩, ⟨4, (some 11), .load1 (.tmp 1), (some (10, true)), []⟩, ⟨5, (some 12), .move (.tmp 4), (some (10, true)), []⟩, ⟨6, (some 13), .callF 107 [(.tmp 11), (.tmp 12)], (some (10, true)), []⟩, ⟨7, (some 14), .callF 111 [(.tmp 13), (.const (.bool false))], (some (10, true)), []⟩, ⟨8, (some 15), .not (.tmp 14), (some (10, true)), []⟩, ⟨9, (some 16), .pick (.tmp 10) (.tmp 15) (.const (.bool false)), none, []⟩, ⟨10, (some 3), .move (.tmp 16), none, []⟩])
 .ret))), [.tmp 3]⟩
/- (bellarmine/share.share).lessOne -/
def pf110 : PF := ⟨20, (.seq (.region false [⟨0, (some 2), .move (.const (.slice none 0 0)), none, []⟩])
 (.seq (.region false [⟨0, (some 3), .move (.const (.slice none 0 0)), none, []⟩])
 (.seq (.seq (.region false [⟨0, (some 5), .move (.const (.int .i64 0)), none, []⟩])
 (.block 0 (.loop (.seq (.region false [⟨0, (some 6), .ibin .lss .i64 (.tmp 5) (.const (.int .i64 6)), none, []⟩])
 (.seq (.cond (.tmp 6) .skip (.exit 0))
 (.seq (.block 1 (.seq (.region false [⟨0, (some 7), .move (.tmp 5), none, []⟩, ⟨1, (some 4), .move (.tmp 7), none, []⟩])
 (.seq (.region false [⟨0, (some 8), .move (.tmp 0), none, []⟩, ⟨1, (some 9), .move (.tmp 4), none, []⟩, ⟨2, (some 10), .callF 104 [(.tmp 8), (.tmp 9)], none, []⟩])
 (.cond (.tmp 10) (.region false [⟨0, (some 11), .move (.tmp 3), none, []⟩, ⟨1, (some 12), .move (.tmp 0), none, []⟩, ⟨2, (some 13), .move (.tmp 4), none, []⟩, ⟨3, (some 14), .callF 112 [(.tmp 13)], none, []⟩, ⟨4, (some 15), .ibin .andNot .u64 (.tmp 12) (.tmp 14), none, []⟩, ⟨5, (some 16), .bldS 116 1 [(.int .u64 0)] 1 [(0, (.tmp 15))], none, []⟩, ⟨6, (some 17), .append 116 1 (.tmp 11) (.tmp 16), none, []⟩, ⟨7, (some 3), .move (.tmp 17), none, []⟩]) .skip))))
 (.region false [⟨0, (some 18), .ibin .add .i64 (.tmp 5) (.const (.int .i64 1)), none, []⟩, ⟨1, (some 5), .move (.tmp 18), none, []⟩])))))))
 (.seq (.region false [⟨0, (some 19), .move (.tmp 3), none, []⟩, ⟨1, (some 2), .move (.tmp 19), none, []⟩])
 .ret)))), [.tmp 2]⟩
/- slices.Contains[[]bool,bool] -/
def pf111 : PF := ⟨9, (.seq (.region false [⟨0, (some 4), .move (.const (.bool false)), none, []⟩])
 (.seq (.region false [⟨0, (some 5), .move (.tmp 0), none, []⟩, ⟨1, (some 6), .move (.tmp 1), none, []⟩, ⟨2, (some 7), .callF 128 [(.tmp 5), (.tmp 6)], none, []⟩, ⟨3, (some 8), .ibin .geq .i64 (.tmp 7) (.const (.int .i64 0)), none, []⟩, ⟨4, (some 4), .move (.tmp 8), none, []⟩])
 .ret)), [.tmp 4]⟩
/- bellarmine/share.only -/
def pf112 : PF := ⟨5, (.seq (.region false [⟨0, (some 2), .move (.const (.int .u64 0)), none, []⟩])
 (.seq (.region false [⟨0, (some 3), .move (.tmp 0), none, []⟩, ⟨1, (some 4), .plain ⟨(some 4), .binOp .shl 116 (.const (.int .u64 1)) (.tmp 3) 3, 116, (String.ofList [Char.ofNat 115, Char.ofNat 104, Char.ofNat 97, Char.ofNat 114, Char.ofNat 101, Char.ofNat 115, Char.ofNat 46, Char.ofNat 103, Char.ofNat 111, Char.ofNat 58, Char.ofNat 49, Char.ofNat 50]), #[⟨0, .data⟩], none⟩, none, []⟩, ⟨2, (some 2), .move (.tmp 4), none, []⟩])
 .ret)), [.tmp 2]⟩
/- (bellarmine/share.division).give -/
def pf114 : PF := ⟨15, (.seq (.region false [⟨0, (some 3), .box 78 (.tmp 0), none, []⟩])
 (.region true [⟨0, (some 6), .fieldAddr (.tmp 3) 1, none, []⟩, ⟨1, (some 7), .load1 (.tmp 6), none, []⟩, ⟨2, (some 8), .move (.tmp 2), none, []⟩, ⟨3, (some 9), .idxS (.tmp 7) (.tmp 8) 1, none, []⟩, ⟨4, (some 10), .load1 (.tmp 9), none, []⟩, ⟨5, (some 11), .move (.tmp 1), none, []⟩, ⟨6, (some 12), .callF 112 [(.tmp 11)], none, [1, 4]⟩, ⟨7, (some 13), .ibin .or .u64 (.tmp 10) (.tmp 12), none, []⟩, ⟨8, (some 14), .idxS (.tmp 7) (.tmp 8) 1, none, []⟩, ⟨9, none, .store (.tmp 14) (.tmp 13) 1, none, []⟩])), []⟩
/- slices.Index[[]bool,bool] -/
def pf128 : PF := ⟨19, (.seq (.region false [⟨0, (some 4), .move (.const (.int .i64 0)), none, []⟩])
 (.seq (.seq (.region false [⟨0, (some 6), .move (.tmp 0), none, []⟩, ⟨1, (some 7), .len (.tmp 6), none, []⟩, ⟨2, (some 8), .move (.const (.int .i64 0)), none, []⟩])
 (.block 0 (.loop (.seq (.region false [⟨0, (some 9), .ibin .lss .i64 (.tmp 8) (.tmp 7), none, []⟩])
 (.seq (.cond (.tmp 9) .skip (.exit 0))
 (.seq (.block 1 (.seq (.region false [⟨0, (some 10), .move (.tmp 8), none, []⟩, ⟨1, (some 5), .move (.tmp 10), none, []⟩])
 (.seq (.region false [⟨0, (some 11), .move (.tmp 1), none, []⟩, ⟨1, (some 12), .move (.tmp 0), none, []⟩, ⟨2, (some 13), .move (.tmp 5), none, []⟩, ⟨3, (some 14), .idxS (.tmp 12) (.tmp 13) 1, none, []⟩, ⟨4, (some 15), .load1 (.tmp 14), none, []⟩, ⟨5, (some 16), .plain ⟨(some 16), .binOp .eql 4 (.tmp 11) (.tmp 15) 4, 4, (String.ofList [Char.ofNat 115, Char.ofNat 108, Char.ofNat 105, Char.ofNat 99, Char.ofNat 101, Char.ofNat 115, Char.ofNat 46, Char.ofNat 103, Char.ofNat 111, Char.ofNat 58, Char.ofNat 57, Char.ofNat 56]), #[⟨0, .data⟩, ⟨4, .data⟩], none⟩, none, []⟩])
 (.cond (.tmp 16) (.seq (.region false [⟨0, (some 17), .move (.tmp 5), none, []⟩, ⟨1, (some 4), .move (.tmp 17), none, []⟩])
 .ret) .skip))))
 (.region false [⟨0, (some 18), .ibin .add .i64 (.tmp 8) (.const (.int .i64 1)), none, []⟩, ⟨1, (some 8), .move (.tmp 18), none, []⟩])))))))
 (.seq (.region false [⟨0, (some 4), .move (.const (.int .i64 (-1))), none, []⟩])
 .ret))), [.tmp 4]⟩
def funcs : Tr PF := (.node none (.node none (.node none (.node none (.node (some pf15) .nil (.node none (.node (some pf79) .nil .nil) (.node (some pf111) .nil .nil))) (.node (some pf23) (.node none (.node (some pf71) .nil .nil) .nil) .nil)) (.node none (.node none .nil (.node none (.node (some pf83) .nil .nil) .nil)) (.node (some pf27) (.node none .nil (.node (some pf107) .nil .nil)) .nil))) (.node none (.node none (.node none .nil (.node none (.node (some pf81) .nil .nil) .nil)) .nil) (.node none .nil (.node (some pf29) (.node none (.node (some pf77) .nil .nil) (.node (some pf109) .nil .nil)) .nil)))) (.node none (.node none (.node none (.node none (.node none (.node none (.node (some pf128) .nil .nil) .nil) .nil) (.node none (.node (some pf80) .nil .nil) (.node (some pf112) .nil .nil))) (.node none (.node none (.node (some pf72) .nil .nil) (.node (some pf104) .nil .nil)) .nil)) (.node none .nil (.node none (.node none (.node (some pf76) .nil .nil) (.node (some pf108) .nil .nil)) (.node none (.node (some pf92) .nil .nil) .nil)))) (.node none (.node none (.node none .nil (.node none .nil (.node (some pf114) .nil .nil))) (.node none (.node none .nil (.node (some pf106) .nil .nil)) .nil)) (.node none (.node none (.node none (.node (some pf70) .nil .nil) .nil) .nil) (.node none (.node (some pf46) .nil (.node (some pf110) .nil .nil)) .nil)))))
noncomputable def C : CW := ⟨{ P := Try.prog, funcs := funcs }, 18⟩
end Go.Proofs.Ytaipmdhnhffckaa.Sh
