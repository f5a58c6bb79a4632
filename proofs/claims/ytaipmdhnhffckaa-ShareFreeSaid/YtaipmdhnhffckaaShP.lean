/- The program's functions, prepared: written by program, checked below. -/
import Derived.Test.YtaipmdhnhffckaaSymMono
import Derived.Test.YtaipmdhnhffckaaGl0
import Derived.Test.YtaipmdhnhffckaaRows
namespace Go.Proofs.Ytaipmdhnhffckaa.Sh
open Go Go.Abs
set_option maxRecDepth 100000
set_option maxHeartbeats 4000000
/- bellarmine/bellarminelaw07.ShareFree -/
def pf10 : PF := ⟨78, (.seq (.region false [⟨0, (some 1), .box 49 (.tmp 0), none, []⟩, ⟨1, (some 2), .move (.const (.bool false)), none, []⟩])
 (.seq (.region false [⟨0, (some 14), .loadN (.tmp 1) 26, none, []⟩, ⟨1, (some 15), .callF 46 [(.tmp 14), (.const (.int .i64 3)), (.const (.int .i64 6)), (.const (.int .i64 6))], none, []⟩, ⟨2, (some 3), .new 22 [(.slice none 0 0)], none, []⟩, ⟨3, none, .store (.tmp 3) (.tmp 15) 1, none, []⟩])
 (.seq (.region false [⟨0, (some 16), .load1 (.tmp 3), none, []⟩, ⟨1, (some 17), .len (.tmp 16), none, []⟩, ⟨2, (some 4), .new 3 [(.int .i64 0)], none, []⟩, ⟨3, none, .store (.tmp 4) (.tmp 17) 1, none, []⟩])
 (.seq (.region false [⟨0, (some 5), .new 23 [(.slice none 0 0)], none, []⟩])
 (.seq (.region false [⟨0, (some 6), .new 3 [(.int .i64 0)], none, []⟩, ⟨1, none, .store (.tmp 6) (.const (.int .i64 0)) 1, none, []⟩])
 (.seq (.region false [⟨0, (some 7), .new 4 [(.bool false)], none, []⟩, ⟨1, none, .store (.tmp 7) (.const (.bool true)) 1, none, []⟩])
 (.seq (.region false [⟨0, (some 18), .load1 (.tmp 3), none, []⟩, ⟨1, (some 19), .mkF (.func 63) #[] #[(.tmp 3), (.tmp 4), (.tmp 7), (.tmp 6), (.tmp 5)], none, []⟩, ⟨2, (some 20), .callF 59 [(.tmp 18), (.tmp 19)], none, []⟩])
 (.seq (.region false [⟨0, (some 22), .load1 (.tmp 3), none, []⟩, ⟨1, (some 23), .callF 38 [(.tmp 22)], none, []⟩, ⟨2, (some 21), .move (.tmp 23), none, []⟩, ⟨3, (some 24), .ext (.tmp 21) 0, none, []⟩, ⟨4, (some 25), .ext (.tmp 21) 1, none, []⟩, ⟨5, (some 8), .move (.tmp 24), none, []⟩, ⟨6, (some 9), .move (.tmp 25), none, []⟩])
 (.seq (.region false [⟨0, (some 27), .load1 (.tmp 3), none, []⟩, ⟨1, (some 28), .callF 40 [(.tmp 27)], none, []⟩, ⟨2, (some 26), .move (.tmp 28), none, []⟩, ⟨3, (some 29), .ext (.tmp 26) 0, none, []⟩, ⟨4, (some 30), .ext (.tmp 26) 1, none, []⟩, ⟨5, (some 10), .move (.tmp 29), none, []⟩, ⟨6, (some 11), .move (.tmp 30), none, []⟩])
 (.seq (.seq (.region false [⟨0, (some 31), .load1 (.tmp 7), none, []⟩, ⟨1, (some 32), .not (.tmp 31), none, []⟩, ⟨2, (some 33), .move (.tmp 32), none, []⟩, ⟨3, (some 34), .move (.tmp 11), (some (33, false)), []⟩, ⟨4, (some 35), .ibin .neq .i64 (.tmp 34) (.const (.int .i64 0)), (some (33, false)), []⟩, ⟨5, (some 36), .pick (.tmp 33) (.const (.bool true)) (.tmp 35), none, []⟩, ⟨6, (some 37), .move (.tmp 36), none, []⟩, ⟨7, (some 38), .move (.tmp 10), (some (37, false)), []⟩, ⟨8, (some 39), .load1 (.tmp 6), (some (37, false)), []⟩, ⟨9, (some 40), .ibin .neq .i64 (.tmp 38) (.tmp 39), (some (37, false)), []⟩, ⟨10, (some 41), .pick (.tmp 37) (.const (.bool true)) (.tmp 40), none, []⟩])
 (.cond (.tmp 41) (.seq (.region false [⟨0, (some 2), .move (.const (.bool false)), none, []⟩])
 .ret) .skip))
 (.seq (.seq (.region false [⟨0, (some 42), .load1 (.tmp 6), none, []⟩, ⟨1, (some 43), .ibin .eql .i64 (.tmp 42) (.const (.int .i64 0)), none, []⟩])
 (.cond (.tmp 43) (.seq (.region false [⟨0, (some 44), .move (.tmp 9), none, []⟩, ⟨1, (some 45), .ibin .eql .i64 (.tmp 44) (.const (.int .i64 12)), none, []⟩, ⟨2, (some 46), .move (.tmp 45), none, []⟩, ⟨3, (some 47), .move (.tmp 8), (some (46, true)), []⟩, ⟨4, (some 48), .len (.tmp 47), (some (46, true)), []⟩, ⟨5, (some 49), .ibin .eql .i64 (.tmp 48) (.const (.int .i64 0)), (some (46, true)), []⟩, ⟨6, (some 50), .pick (.tmp 46) (.tmp 49) (.const (.bool false)), none, []⟩, ⟨7, (some 51), .move (.tmp 50), none, []⟩, ⟨8, (some 52), .callF 18 [], (some (51, true)), []⟩, ⟨9, (some 53), .pick (.tmp 51) (.tmp 52) (.const (.bool false)), none, []⟩, ⟨10, (some 2), .move (.tmp 53), none, []⟩])
 .ret) .skip))
 (.seq (.region false [⟨0, (some 55), .load1 (.tmp 3), none, []⟩, ⟨1, (some 56), .move (.tmp 8), none, []⟩, ⟨2, (some 57), .callF 23 [(.tmp 55), (.tmp 56)], none, []⟩, ⟨3, (some 54), .move (.tmp 57), none, []⟩, ⟨4, (some 58), .ext (.tmp 54) 0, none, []⟩, ⟨5, (some 59), .ext (.tmp 54) 1, none, []⟩, ⟨6, (some 12), .move (.tmp 58), none, []⟩, ⟨7, (some 13), .move (.tmp 59), none, []⟩])
 (.seq (.region false [⟨0, (some 60), .move (.tmp 9), none, []⟩, ⟨1, (some 61), .ibin .eql .i64 (.tmp 60) (.const (.int .i64 0)), none, []⟩, ⟨2, (some 62), .move (.tmp 61), none, []⟩, ⟨3, (some 63), .move (.tmp 8), (some (62, true)), []⟩, ⟨4, (some 64), .load1 (.tmp 5), (some (62, true)), []⟩, ⟨5, (some 65), .callF 37 [(.tmp 63), (.tmp 64)], (some (62, true)), []⟩, ⟨6, (some 66), .pick (.tmp 62) (.tmp 65) (.const (.bool false)), none, []⟩, ⟨7, (some 67), .move (.tmp 66), none, []⟩, ⟨8, (some 68), .move (.tmp 13), (some (67, true)), []⟩, ⟨9, (some 69), .ibin .eql .i64 (.tmp 68) (.const (.int .i64 0)), (some (67, true)), []⟩, ⟨10, (some 70), .pick (.tmp 67) (.tmp 69) (.const (.bool false)), none, []⟩, ⟨11, (some 71), .move (.tmp 70), none, []⟩, ⟨12, (some 72), .move (.tmp 12), (some (71, true)), []⟩, ⟨13, (some 73), .ibin .eql .i64 (.tmp 72) (.const (.int .i64 2)), (some (71, true)), []⟩, ⟨14, (some 74), .pick (.tmp 71) (.tmp 73) (.const (.bool false)), none, []⟩, ⟨15, (some 75), .move (.tmp 74), none, []⟩, ⟨16, (some 76), .callF 18 [], (some (75, true)), []⟩, ⟨17, (some 77), .pick (.tmp 75) (.tmp 76) (.const (.bool false)), none, []⟩, ⟨18, (some 2), .move (.tmp 77), none, []⟩])
 .ret))))))))))))), [.tmp 2]⟩
/- bellarmine/bellarminelaw07.ShareAlike -/
def pf15 : PF := ⟨155, (.seq (.region false [⟨0, (some 2), .box 49 (.tmp 0), none, []⟩, ⟨1, (some 3), .box 46 (.tmp 1), none, []⟩, ⟨2, (some 4), .move (.const (.bool false)), none, []⟩])
 (.seq (.region false [⟨0, (some 19), .loadN (.tmp 2) 26, none, []⟩, ⟨1, (some 20), .callF 46 [(.tmp 19), (.const (.int .i64 4)), (.const (.int .i64 6)), (.const (.int .i64 20))], none, []⟩, ⟨2, (some 5), .move (.tmp 20), none, []⟩])
 (.seq (.seq (.region false [⟨0, (some 21), .move (.tmp 5), none, []⟩, ⟨1, (some 22), .len (.tmp 21), none, []⟩, ⟨2, (some 23), .move (.const (.int .i64 0)), none, []⟩])
 (.block 0 (.loop (.seq (.region false [⟨0, (some 24), .ibin .lss .i64 (.tmp 23) (.tmp 22), none, []⟩])
 (.seq (.cond (.tmp 24) .skip (.exit 0))
 (.seq (.block 1 (.seq (.region false [⟨0, (some 25), .move (.tmp 23), none, []⟩, ⟨1, (some 6), .move (.tmp 25), none, []⟩])
 (.region false [⟨0, (some 26), .move (.tmp 5), none, []⟩, ⟨1, (some 27), .move (.tmp 6), none, []⟩, ⟨2, (some 28), .move (.tmp 5), none, []⟩, ⟨3, (some 29), .idxS (.tmp 28) (.const (.int .i64 0)) 1, none, []⟩, ⟨4, (some 30), .load1 (.tmp 29), none, []⟩, ⟨5, (some 31), .idxS (.tmp 26) (.tmp 27) 1, none, []⟩, ⟨6, none, .store (.tmp 31) (.tmp 30) 1, none, []⟩])))
 (.region false [⟨0, (some 32), .ibin .add .i64 (.tmp 23) (.const (.int .i64 1)), none, []⟩, ⟨1, (some 23), .move (.tmp 32), none, []⟩])))))))
 (.seq (.region false [⟨0, (some 7), .move (.const (.slice none 0 0)), none, []⟩])
 (.seq (.seq (.region false [⟨0, (some 33), .move (.tmp 5), none, []⟩, ⟨1, (some 34), .idxS (.tmp 33) (.const (.int .i64 0)) 1, none, []⟩, ⟨2, (some 35), .load1 (.tmp 34), none, []⟩, ⟨3, (some 36), .len (.tmp 35), none, []⟩, ⟨4, (some 37), .move (.const (.int .i64 0)), none, []⟩])
 (.block 2 (.loop (.seq (.region false [⟨0, (some 38), .ibin .lss .i64 (.tmp 37) (.tmp 36), none, []⟩])
 (.seq (.cond (.tmp 38) .skip (.exit 2))
 (.seq (.block 3 (.seq (.region false [⟨0, (some 39), .move (.tmp 37), none, []⟩, ⟨1, (some 8), .move (.tmp 39), none, []⟩])
 (.region false [⟨0, (some 40), .move (.tmp 7), none, []⟩, ⟨1, (some 41), .move (.tmp 8), none, []⟩, ⟨2, (some 42), .idxA (.tmp 3) (.tmp 41) 6 1, none, []⟩, ⟨3, (some 43), .load1 (.tmp 42), none, []⟩, ⟨4, (some 44), .plain ⟨(some 44), .convert 5 3 (.tmp 43), 3, (String.ofList [Char.ofNat 111, Char.ofNat 117, Char.ofNat 116, Char.ofNat 114, Char.ofNat 105, Char.ofNat 103, Char.ofNat 104, Char.ofNat 116, Char.ofNat 46, Char.ofNat 103, Char.ofNat 111, Char.ofNat 58, Char.ofNat 52, Char.ofNat 51, Char.ofNat 55]), #[⟨3, .data⟩], none⟩, none, []⟩, ⟨5, (some 45), .move (.tmp 5), none, []⟩, ⟨6, (some 46), .len (.tmp 45), none, []⟩, ⟨7, (some 47), .ibin .rem .i64 (.tmp 44) (.tmp 46), none, []⟩, ⟨8, (some 48), .bldS 3 1 [(.int .i64 0)] 1 [(0, (.tmp 47))], none, []⟩, ⟨9, (some 49), .append 3 1 (.tmp 40) (.tmp 48), none, []⟩, ⟨10, (some 7), .move (.tmp 49), none, []⟩])))
 (.region false [⟨0, (some 50), .ibin .add .i64 (.tmp 37) (.const (.int .i64 1)), none, []⟩, ⟨1, (some 37), .move (.tmp 50), none, []⟩])))))))
 (.seq (.region false [⟨0, (some 51), .move (.tmp 5), none, []⟩, ⟨1, (some 52), .len (.tmp 51), none, []⟩, ⟨2, (some 53), .mkS 3 [(.int .i64 0)] (.tmp 52) (.tmp 52), none, []⟩, ⟨3, (some 9), .move (.tmp 53), none, []⟩])
 (.seq (.region false [⟨0, (some 54), .move (.tmp 5), none, []⟩, ⟨1, (some 55), .len (.tmp 54), none, []⟩, ⟨2, (some 56), .mkS 3 [(.int .i64 0)] (.tmp 55) (.tmp 55), none, []⟩, ⟨3, (some 10), .move (.tmp 56), none, []⟩])
 (.seq (.seq (.region false [⟨0, (some 57), .move (.tmp 7), none, []⟩, ⟨1, (some 58), .len (.tmp 57), none, []⟩, ⟨2, (some 59), .move (.const (.int .i64 0)), none, []⟩])
 (.block 4 (.loop (.seq (.region false [⟨0, (some 60), .ibin .lss .i64 (.tmp 59) (.tmp 58), none, []⟩])
 (.seq (.cond (.tmp 60) .skip (.exit 4))
 (.seq (.block 5 (.seq (.region false [⟨0, (some 61), .move (.tmp 59), none, []⟩, ⟨1, (some 62), .idxS (.tmp 57) (.tmp 59) 1, none, []⟩, ⟨2, (some 63), .load1 (.tmp 62), none, []⟩, ⟨3, (some 11), .move (.tmp 61), none, []⟩, ⟨4, (some 12), .move (.tmp 63), none, []⟩])
 (.seq (.region true [⟨0, (some 64), .move (.tmp 9), none, []⟩, ⟨1, (some 65), .move (.tmp 12), none, []⟩, ⟨2, (some 66), .idxS (.tmp 64) (.tmp 65) 1, none, []⟩, ⟨3, (some 67), .load1 (.tmp 66), none, []⟩, ⟨4, (some 68), .move (.tmp 5), none, []⟩, ⟨5, (some 69), .idxS (.tmp 68) (.const (.int .i64 0)) 1, none, []⟩, ⟨6, (some 70), .load1 (.tmp 69), none, []⟩, ⟨7, (some 71), .move (.tmp 11), none, []⟩, ⟨8, (some 72), .idxS (.tmp 70) (.tmp 71) 1, none, []⟩, ⟨9, (some 73), .load1 (.tmp 72), none, []⟩, ⟨10, (some 74), .ibin .add .i64 (.tmp 67) (.tmp 73), none, []⟩, ⟨11, (some 75), .idxS (.tmp 64) (.tmp 65) 1, none, []⟩, ⟨12, none, .store (.tmp 75) (.tmp 74) 1, none, []⟩])
 (.region true [⟨0, (some 76), .move (.tmp 10), none, []⟩, ⟨1, (some 77), .move (.tmp 12), none, []⟩, ⟨2, (some 78), .move (.tmp 10), none, []⟩, ⟨3, (some 79), .move (.tmp 12), none, []⟩, ⟨4, (some 80), .idxS (.tmp 78) (.tmp 79) 1, none, []⟩, ⟨5, (some 81), .load1 (.tmp 80), none, []⟩, ⟨6, (some 82), .move (.tmp 5), none, []⟩, ⟨7, (some 83), .idxS (.tmp 82) (.const (.int .i64 0)) 1, none, []⟩, ⟨8, (some 84), .load1 (.tmp 83), none, []⟩, ⟨9, (some 85), .move (.tmp 11), none, []⟩, ⟨10, (some 86), .idxS (.tmp 84) (.tmp 85) 1, none, []⟩, ⟨11, (some 87), .load1 (.tmp 86), none, []⟩, ⟨12, (some 88), .plain ⟨(some 88), .call ⟨.builtin .max, #[(.tmp 81), (.tmp 87)], #[3, 3]⟩, 3, (String.ofList [Char.ofNat 111, Char.ofNat 117, Char.ofNat 116, Char.ofNat 114, Char.ofNat 105, Char.ofNat 103, Char.ofNat 104, Char.ofNat 116, Char.ofNat 46, Char.ofNat 103, Char.ofNat 111, Char.ofNat 58, Char.ofNat 52, Char.ofNat 52, Char.ofNat 51]), #[⟨5, .data⟩, ⟨11, .data⟩], none⟩, none, []⟩, ⟨13, (some 89), .idxS (.tmp 76) (.tmp 77) 1, none, []⟩, ⟨14, none, .store (.tmp 89) (.tmp 88) 1, none, []⟩]))))
 (.region false [⟨0, (some 90), .ibin .add .i64 (.tmp 59) (.const (.int .i64 1)), none, []⟩, ⟨1, (some 59), .move (.tmp 90), none, []⟩])))))))
 (.seq (.region false [⟨0, (some 13), .move (.const (.bool true)), none, []⟩, ⟨1, (some 14), .move (.const (.bool true)), none, []⟩])
 (.seq (.seq (.region false [⟨0, (some 91), .move (.tmp 9), none, []⟩, ⟨1, (some 92), .len (.tmp 91), none, []⟩, ⟨2, (some 93), .move (.const (.int .i64 0)), none, []⟩])
 (.block 6 (.loop (.seq (.region false [⟨0, (some 94), .ibin .lss .i64 (.tmp 93) (.tmp 92), none, []⟩])
 (.seq (.cond (.tmp 94) .skip (.exit 6))
 (.seq (.block 7 (.seq (.region false [⟨0, (some 95), .move (.tmp 93), none, []⟩, ⟨1, (some 15), .move (.tmp 95), none, []⟩])
 (.seq (.region false [⟨0, (some 96), .move (.tmp 9), none, []⟩, ⟨1, (some 97), .len (.tmp 96), none, []⟩, ⟨2, (some 98), .move (.const (.int .i64 0)), none, []⟩])
 (.block 8 (.loop (.seq (.region false [⟨0, (some 99), .ibin .lss .i64 (.tmp 98) (.tmp 97), none, []⟩])
 (.seq (.cond (.tmp 99) .skip (.exit 8))
 (.seq (.block 9 (.seq (.region false [⟨0, (some 100), .move (.tmp 98), none, []⟩, ⟨1, (some 16), .move (.tmp 100), none, []⟩])
 (.seq (.region true [⟨0, (some 101), .move (.tmp 13), none, []⟩, ⟨1, (some 102), .move (.tmp 101), none, []⟩, ⟨2, (some 103), .move (.tmp 9), (some (102, true)), []⟩, ⟨3, (some 104), .move (.tmp 16), (some (102, true)), []⟩, ⟨4, (some 105), .idxS (.tmp 103) (.tmp 104) 1, (some (102, true)), []⟩, ⟨5, (some 106), .load1 (.tmp 105), (some (102, true)), []⟩, ⟨6, (some 107), .move (.tmp 10), (some (102, true)), []⟩, ⟨7, (some 108), .move (.tmp 16), (some (102, true)), []⟩, ⟨8, (some 109), .idxS (.tmp 107) (.tmp 108) 1, (some (102, true)), []⟩, ⟨9, (some 110), .load1 (.tmp 109), (some (102, true)), []⟩, ⟨10, (some 111), .ibin .sub .i64 (.tmp 106) (.tmp 110), (some (102, true)), []⟩, ⟨11, (some 112), .move (.tmp 9), (some (102, true)), []⟩, ⟨12, (some 113), .move (.tmp 15), (some (102, true)), []⟩, ⟨13, (some 114), .idxS (.tmp 112) (.tmp 113) 1, (some (102, true)), []⟩, ⟨14, (some 115), .load1 (.tmp 114), (some (102, true)), []⟩, ⟨15, (some 116), .ibin .leq .i64 (.tmp 111) (.tmp 115), (some (102, true)), []⟩, ⟨16, (some 117), .pick (.tmp 102) (.tmp 116) (.const (.bool false)), none, []⟩, ⟨17, (some 13), .move (.tmp 117), none, []⟩])
 (.region true [⟨0, (some 118), .move (.tmp 14), none, []⟩, ⟨1, (some 119), .move (.tmp 118), none, []⟩, ⟨2, (some 120), .move (.tmp 9), (some (119, true)), []⟩, ⟨3, (some 121), .move (.tmp 15), (some (119, true)), []⟩, ⟨4, (some 122), .idxS (.tmp 120) (.tmp 121) 1, (some (119, true)), []⟩, ⟨5, (some 123), .load1 (.tmp 122), (some (119, true)), []⟩, ⟨6, (some 124), .move (.tmp 9), (some (119, true)), []⟩, ⟨7, (some 125), .move (.tmp 16), (some (119, true)), []⟩, ⟨8, (some 126), .idxS (.tmp 124) (.tmp 125) 1, (some (119, true)), []⟩, ⟨9, (some 127), .load1 (.tmp 126), (some (119, true)), []⟩, ⟨10, (some 128), .ibin .eql .i64 (.tmp 123) (.tmp 127), (some (119, true)), []⟩, ⟨11, (some 129), .pick (.tmp 119) (.tmp 128) (.const (.bool false)), none, []⟩, ⟨12, (some 14), .move (.tmp 129), none, []⟩]))))
 (.region false [⟨0, (some 130), .ibin .add .i64 (.tmp 98) (.const (.int .i64 1)), none, []⟩, ⟨1, (some 98), .move (.tmp 130), none, []⟩])))))))))
 (.region false [⟨0, (some 131), .ibin .add .i64 (.tmp 93) (.const (.int .i64 1)), none, []⟩, ⟨1, (some 93), .move (.tmp 131), none, []⟩])))))))
 (.seq (.region false [⟨0, (some 133), .move (.tmp 5), none, []⟩, ⟨1, (some 134), .move (.tmp 7), none, []⟩, ⟨2, (some 135), .callF 23 [(.tmp 133), (.tmp 134)], none, []⟩, ⟨3, (some 132), .move (.tmp 135), none, []⟩, ⟨4, (some 136), .ext (.tmp 132) 0, none, []⟩, ⟨5, (some 137), .ext (.tmp 132) 1, none, []⟩, ⟨6, (some 17), .move (.tmp 136), none, []⟩, ⟨7, (some 18), .move (.tmp 137), none, []⟩])
 (.seq (.region false [⟨0, (some 138), .move (.tmp 18), none, []⟩, ⟨1, (some 139), .ibin .eql .i64 (.tmp 138) (.const (.int .i64 0)), none, []⟩, ⟨2, (some 140), .move (.tmp 139), none, []⟩, ⟨3, (some 141), .move (.tmp 17), (some (140, true)), []⟩, ⟨4, (some 142), .ibin .gtr .i64 (.tmp 141) (.const (.int .i64 0)), (some (140, true)), []⟩, ⟨5, (some 143), .move (.tmp 13), (some (140, true)), []⟩, ⟨6, (some 144), .plain ⟨(some 144), .binOp .eql 4 (.tmp 142) (.tmp 143) 4, 4, (String.ofList [Char.ofNat 111, Char.ofNat 117, Char.ofNat 116, Char.ofNat 114, Char.ofNat 105, Char.ofNat 103, Char.ofNat 104, Char.ofNat 116, Char.ofNat 46, Char.ofNat 103, Char.ofNat 111, Char.ofNat 58, Char.ofNat 52, Char.ofNat 53, Char.ofNat 51]), #[⟨4, .data⟩, ⟨5, .data⟩, ⟨2, .guard⟩], (some (2, true))⟩, (some (140, true)), []⟩, ⟨7, (some 145), .pick (.tmp 140) (.tmp 144) (.const (.bool false)), none, []⟩, ⟨8, (some 146), .move (.tmp 145), none, []⟩, ⟨9, (some 147), .move (.tmp 17), (some (146, true)), []⟩, ⟨10, (some 148), .ibin .eql .i64 (.tmp 147) (.const (.int .i64 2)), (some (146, true)), []⟩, ⟨11, (some 149), .move (.tmp 14), (some (146, true)), []⟩, ⟨12, (some 150), .plain ⟨(some 150), .binOp .eql 4 (.tmp 148) (.tmp 149) 4, 4, (String.ofList [Char.ofNat 111, Char.ofNat 117, Char.ofNat 116, Char.ofNat 114, Char.ofNat 105, Char.ofNat 103, Char.ofNat 104, Char.ofNat 116, Char.ofNat 46, Char.ofNat 103, Char.ofNat 111, Char.ofNat 58, Char.ofNat 52, Char.ofNat 53, Char.ofNat 51]), #[⟨10, .data⟩, ⟨11, .data⟩, ⟨8, .guard⟩], (some (8, true))⟩, (some (146, true)), []⟩, ⟨13, (some 151), .pick (.tmp 146) (.tmp 150) (.const (.bool false)), none, []⟩, ⟨14, (some 152), .move (.tmp 151), none, []⟩, ⟨15, (some 153), .callF 18 [], (some (152, true)), []⟩, ⟨16, (some 154), .pick (.tmp 152) (.tmp 153) (.const (.bool false)), none, []⟩, ⟨17, (some 4), .move (.tmp 154), none, []⟩])
 .ret)))))))))))), [.tmp 4]⟩
/- bellarmine/share.Fair -/
def pf23 : PF := ⟨28, (.seq (.region false [⟨0, (some 4), .move (.const (.int .i64 0)), none, []⟩, ⟨1, (some 5), .move (.const (.int .i64 0)), none, []⟩])
 (.seq (.region false [⟨0, (some 11), .move (.tmp 0), none, []⟩, ⟨1, (some 12), .move (.tmp 1), none, []⟩, ⟨2, (some 13), .callF 70 [(.tmp 11), (.tmp 12)], none, []⟩, ⟨3, (some 10), .move (.tmp 13), none, []⟩, ⟨4, (some 14), .ext (.tmp 10) 0, none, []⟩, ⟨5, (some 15), .ext (.tmp 10) 1, none, []⟩, ⟨6, (some 6), .new 78 [(.slice none 0 0), (.slice none 0 0)], none, []⟩, ⟨7, none, .store (.tmp 6) (.tmp 14) 2, none, []⟩, ⟨8, (some 7), .move (.tmp 15), none, []⟩])
 (.seq (.seq (.region false [⟨0, (some 16), .move (.tmp 7), none, []⟩, ⟨1, (some 17), .ibin .neq .i64 (.tmp 16) (.const (.int .i64 0)), none, []⟩])
 (.cond (.tmp 17) (.seq (.region false [⟨0, (some 18), .move (.tmp 7), none, []⟩, ⟨1, (some 4), .move (.const (.int .i64 0)), none, []⟩, ⟨2, (some 5), .move (.tmp 18), none, []⟩])
 .ret) .skip))
 (.seq (.seq (.region false [⟨0, (some 19), .loadN (.tmp 6) 2, none, []⟩, ⟨1, (some 20), .callF 79 [(.tmp 19)], none, []⟩])
 (.cond (.tmp 20) (.seq (.region false [⟨0, (some 4), .move (.const (.int .i64 2)), none, []⟩, ⟨1, (some 5), .move (.const (.int .i64 0)), none, []⟩])
 .ret) .skip))
 (.seq (.seq (.region false [⟨0, (some 22), .loadN (.tmp 6) 2, none, []⟩, ⟨1, (some 23), .callF 80 [(.tmp 22), (.func 81)], none, []⟩, ⟨2, (some 21), .move (.tmp 23), none, []⟩, ⟨3, (some 24), .ext (.tmp 21) 0, none, []⟩, ⟨4, (some 25), .ext (.tmp 21) 1, none, []⟩, ⟨5, (some 8), .new 58 [(.int .i64 0), (.int .i64 0)], none, []⟩, ⟨6, none, .store (.tmp 8) (.tmp 24) 2, none, []⟩, ⟨7, (some 9), .move (.tmp 25), none, []⟩])
 (.seq (.region false [⟨0, (some 26), .move (.tmp 9), none, []⟩, ⟨1, (some 27), .not (.tmp 26), none, []⟩])
 (.cond (.tmp 27) (.seq (.region false [⟨0, (some 4), .move (.const (.int .i64 1)), none, []⟩, ⟨1, (some 5), .move (.const (.int .i64 0)), none, []⟩])
 .ret) .skip)))
 (.seq (.region false [⟨0, (some 4), .move (.const (.int .i64 0)), none, []⟩, ⟨1, (some 5), .move (.const (.int .i64 0)), none, []⟩])
 .ret)))))), [.tmp 4, .tmp 5]⟩
/- bellarmine/share.Check -/
def pf27 : PF := ⟨35, (.seq (.region false [⟨0, (some 2), .move (.const (.int .i64 0)), none, []⟩])
 (.seq (.seq (.region false [⟨0, (some 5), .move (.tmp 0), none, []⟩, ⟨1, (some 6), .len (.tmp 5), none, []⟩, ⟨2, (some 7), .ibin .eql .i64 (.tmp 6) (.const (.int .i64 0)), none, []⟩])
 (.cond (.tmp 7) (.seq (.region false [⟨0, (some 2), .move (.const (.int .i64 4)), none, []⟩])
 .ret) .skip))
 (.seq (.seq (.region false [⟨0, (some 8), .move (.tmp 0), none, []⟩, ⟨1, (some 9), .len (.tmp 8), none, []⟩, ⟨2, (some 10), .ibin .gtr .i64 (.tmp 9) (.const (.int .i64 4)), none, []⟩, ⟨3, (some 11), .move (.tmp 10), none, []⟩, ⟨4, (some 12), .move (.tmp 0), (some (11, false)), []⟩, ⟨5, (some 13), .idxS (.tmp 12) (.const (.int .i64 0)) 1, (some (11, false)), []⟩, ⟨6, (some 14), .load1 (.tmp 13), (some (11, false)), []⟩, ⟨7, (some 15), .len (.tmp 14), (some (11, false)), []⟩, ⟨8, (some 16), .ibin .gtr .i64 (.tmp 15) (.const (.int .i64 6)), (some (11, false)), []⟩, ⟨9, (some 17), .pick (.tmp 11) (.const (.bool true)) (.tmp 16), none, []⟩])
 (.cond (.tmp 17) (.seq (.region false [⟨0, (some 2), .move (.const (.int .i64 3)), none, []⟩])
 .ret) .skip))
 (.seq (.seq (.region false [⟨0, (some 18), .move (.tmp 0), none, []⟩, ⟨1, (some 19), .len (.tmp 18), none, []⟩, ⟨2, (some 20), .move (.const (.int .i64 0)), none, []⟩])
 (.block 0 (.loop (.seq (.region false [⟨0, (some 21), .ibin .lss .i64 (.tmp 20) (.tmp 19), none, []⟩])
 (.seq (.cond (.tmp 21) .skip (.exit 0))
 (.seq (.block 1 (.seq (.region false [⟨0, (some 22), .idxS (.tmp 18) (.tmp 20) 1, none, []⟩, ⟨1, (some 23), .load1 (.tmp 22), none, []⟩, ⟨2, (some 4), .move (.tmp 23), none, []⟩])
 (.seq (.seq (.region false [⟨0, (some 24), .move (.tmp 4), none, []⟩, ⟨1, (some 25), .len (.tmp 24), none, []⟩, ⟨2, (some 26), .move (.tmp 0), none, []⟩, ⟨3, (some 27), .idxS (.tmp 26) (.const (.int .i64 0)) 1, none, []⟩, ⟨4, (some 28), .load1 (.tmp 27), none, []⟩, ⟨5, (some 29), .len (.tmp 28), none, []⟩, ⟨6, (some 30), .ibin .neq .i64 (.tmp 25) (.tmp 29), none, []⟩])
 (.cond (.tmp 30) (.seq (.region false [⟨0, (some 2), .move (.const (.int .i64 5)), none, []⟩])
 .ret) .skip))
 (.seq (.region false [⟨0, (some 31), .move (.tmp 4), none, []⟩, ⟨1, (some 32), .callF 83 [(.const (.int .i64 21)), (.tmp 31)], none, []⟩, ⟨2, (some 33), .not (.tmp 32), none, []⟩])
 (.cond (.tmp 33) (.seq (.region false [⟨0, (some 2), .move (.const (.int .i64 1)), none, []⟩])
 .ret) .skip)))))
 (.region false [⟨0, (some 34), .ibin .add .i64 (.tmp 20) (.const (.int .i64 1)), none, []⟩, ⟨1, (some 20), .move (.tmp 34), none, []⟩])))))))
 (.seq (.region false [⟨0, (some 2), .move (.const (.int .i64 0)), none, []⟩])
 .ret))))), [.tmp 2]⟩
/- bellarmine/share.Why -/
def pf29 : PF := ⟨30, (.seq (.region false [⟨0, (some 4), .move (.const (.int .i64 0)), none, []⟩, ⟨1, (some 5), .move (.const (.int .i64 0)), none, []⟩, ⟨2, (some 6), .move (.const (.int .i64 0)), none, []⟩])
 (.seq (.region false [⟨0, (some 11), .move (.tmp 0), none, []⟩, ⟨1, (some 12), .move (.tmp 1), none, []⟩, ⟨2, (some 13), .callF 70 [(.tmp 11), (.tmp 12)], none, []⟩, ⟨3, (some 10), .move (.tmp 13), none, []⟩, ⟨4, (some 14), .ext (.tmp 10) 0, none, []⟩, ⟨5, (some 15), .ext (.tmp 10) 1, none, []⟩, ⟨6, (some 7), .new 78 [(.slice none 0 0), (.slice none 0 0)], none, []⟩, ⟨7, none, .store (.tmp 7) (.tmp 14) 2, none, []⟩, ⟨8, (some 6), .move (.tmp 15), none, []⟩])
 (.seq (.seq (.region false [⟨0, (some 16), .move (.tmp 6), none, []⟩, ⟨1, (some 17), .ibin .neq .i64 (.tmp 16) (.const (.int .i64 0)), none, []⟩])
 (.cond (.tmp 17) (.seq (.region false [⟨0, (some 18), .move (.tmp 6), none, []⟩, ⟨1, (some 4), .move (.const (.int .i64 0)), none, []⟩, ⟨2, (some 5), .move (.const (.int .i64 0)), none, []⟩, ⟨3, (some 6), .move (.tmp 18), none, []⟩])
 .ret) .skip))
 (.seq (.region false [⟨0, (some 20), .loadN (.tmp 7) 2, none, []⟩, ⟨1, (some 21), .callF 80 [(.tmp 20), (.func 81)], none, []⟩, ⟨2, (some 19), .move (.tmp 21), none, []⟩, ⟨3, (some 22), .ext (.tmp 19) 0, none, []⟩, ⟨4, (some 23), .ext (.tmp 19) 1, none, []⟩, ⟨5, (some 8), .new 58 [(.int .i64 0), (.int .i64 0)], none, []⟩, ⟨6, none, .store (.tmp 8) (.tmp 22) 2, none, []⟩, ⟨7, (some 9), .move (.tmp 23), none, []⟩])
 (.seq (.seq (.region false [⟨0, (some 24), .move (.tmp 9), none, []⟩, ⟨1, (some 25), .not (.tmp 24), none, []⟩])
 (.cond (.tmp 25) (.seq (.region false [⟨0, (some 4), .move (.const (.int .i64 0)), none, []⟩, ⟨1, (some 5), .move (.const (.int .i64 0)), none, []⟩, ⟨2, (some 6), .move (.const (.int .i64 13)), none, []⟩])
 .ret) .skip))
 (.seq (.region true [⟨0, (some 26), .idxA (.tmp 8) (.const (.int .i64 0)) 2 1, none, []⟩, ⟨1, (some 27), .load1 (.tmp 26), none, []⟩, ⟨2, (some 28), .idxA (.tmp 8) (.const (.int .i64 1)) 2 1, none, []⟩, ⟨3, (some 29), .load1 (.tmp 28), none, []⟩, ⟨4, (some 4), .move (.tmp 27), none, []⟩, ⟨5, (some 5), .move (.tmp 29), none, []⟩, ⟨6, (some 6), .move (.const (.int .i64 0)), none, []⟩])
 .ret)))))), [.tmp 4, .tmp 5, .tmp 6]⟩
/- bellarmine/share.Turns -/
def pf33 : PF := ⟨42, (.seq (.region false [⟨0, (some 4), .move (.const (.slice none 0 0)), none, []⟩, ⟨1, (some 5), .move (.const (.int .i64 0)), none, []⟩])
 (.seq (.seq (.region false [⟨0, (some 9), .move (.tmp 0), none, []⟩, ⟨1, (some 10), .callF 27 [(.tmp 9)], none, []⟩, ⟨2, (some 6), .move (.tmp 10), none, []⟩])
 (.seq (.region false [⟨0, (some 11), .move (.tmp 6), none, []⟩, ⟨1, (some 12), .ibin .neq .i64 (.tmp 11) (.const (.int .i64 0)), none, []⟩])
 (.cond (.tmp 12) (.seq (.region false [⟨0, (some 13), .move (.tmp 6), none, []⟩, ⟨1, (some 4), .move (.const (.slice none 0 0)), none, []⟩, ⟨2, (some 5), .move (.tmp 13), none, []⟩])
 .ret) .skip)))
 (.seq (.seq (.region false [⟨0, (some 14), .move (.tmp 1), none, []⟩, ⟨1, (some 15), .len (.tmp 14), none, []⟩, ⟨2, (some 16), .move (.tmp 0), none, []⟩, ⟨3, (some 17), .len (.tmp 16), none, []⟩, ⟨4, (some 18), .ibin .neq .i64 (.tmp 15) (.tmp 17), none, []⟩])
 (.cond (.tmp 18) (.seq (.region false [⟨0, (some 4), .move (.const (.slice none 0 0)), none, []⟩, ⟨1, (some 5), .move (.const (.int .i64 5)), none, []⟩])
 .ret) .skip))
 (.seq (.seq (.region false [⟨0, (some 19), .move (.tmp 1), none, []⟩, ⟨1, (some 20), .len (.tmp 19), none, []⟩, ⟨2, (some 21), .move (.const (.int .i64 0)), none, []⟩])
 (.block 0 (.loop (.seq (.region false [⟨0, (some 22), .ibin .lss .i64 (.tmp 21) (.tmp 20), none, []⟩])
 (.seq (.cond (.tmp 22) .skip (.exit 0))
 (.seq (.block 1 (.seq (.region false [⟨0, (some 23), .move (.tmp 21), none, []⟩, ⟨1, (some 24), .idxS (.tmp 19) (.tmp 21) 1, none, []⟩, ⟨2, (some 25), .load1 (.tmp 24), none, []⟩, ⟨3, (some 7), .move (.tmp 23), none, []⟩, ⟨4, (some 8), .move (.tmp 25), none, []⟩])
 (.seq (.seq (.region false [⟨0, (some 26), .move (.tmp 0), none, []⟩, ⟨1, (some 27), .len (.tmp 26), none, []⟩, ⟨2, (some 28), .move (.tmp 8), none, []⟩, ⟨3, (some 29), .bldS 3 1 [(.int .i64 0)] 1 [(0, (.tmp 28))], none, []⟩, ⟨4, (some 30), .callF 83 [(.tmp 27), (.tmp 29)], none, []⟩, ⟨5, (some 31), .not (.tmp 30), none, []⟩])
 (.cond (.tmp 31) (.seq (.region false [⟨0, (some 4), .move (.const (.slice none 0 0)), none, []⟩, ⟨1, (some 5), .move (.const (.int .i64 2)), none, []⟩])
 .ret) .skip))
 (.seq (.region false [⟨0, (some 32), .move (.tmp 1), none, []⟩, ⟨1, (some 33), .move (.tmp 7), none, []⟩, ⟨2, (some 34), .slS (.tmp 32) 1 none (some (.tmp 33)) none, none, []⟩, ⟨3, (some 35), .move (.tmp 8), none, []⟩, ⟨4, (some 36), .callF 52 [(.tmp 34), (.tmp 35)], none, []⟩])
 (.cond (.tmp 36) (.seq (.region false [⟨0, (some 4), .move (.const (.slice none 0 0)), none, []⟩, ⟨1, (some 5), .move (.const (.int .i64 6)), none, []⟩])
 .ret) .skip)))))
 (.region false [⟨0, (some 37), .ibin .add .i64 (.tmp 21) (.const (.int .i64 1)), none, []⟩, ⟨1, (some 21), .move (.tmp 37), none, []⟩])))))))
 (.seq (.region false [⟨0, (some 38), .move (.tmp 0), none, []⟩, ⟨1, (some 39), .move (.tmp 1), none, []⟩, ⟨2, (some 40), .callF 85 [(.tmp 38), (.tmp 39)], none, []⟩, ⟨3, (some 41), .callF 86 [(.tmp 40)], none, []⟩, ⟨4, (some 4), .move (.tmp 41), none, []⟩, ⟨5, (some 5), .move (.const (.int .i64 0)), none, []⟩])
 .ret))))), [.tmp 4, .tmp 5]⟩
/- bellarmine/share.Rings -/
def pf35 : PF := ⟨13, (.seq (.region false [⟨0, (some 2), .move (.const (.slice none 0 0)), none, []⟩, ⟨1, (some 3), .move (.const (.int .i64 0)), none, []⟩])
 (.seq (.seq (.region false [⟨0, (some 5), .move (.tmp 0), none, []⟩, ⟨1, (some 6), .callF 27 [(.tmp 5)], none, []⟩, ⟨2, (some 4), .move (.tmp 6), none, []⟩])
 (.seq (.region false [⟨0, (some 7), .move (.tmp 4), none, []⟩, ⟨1, (some 8), .ibin .neq .i64 (.tmp 7) (.const (.int .i64 0)), none, []⟩])
 (.cond (.tmp 8) (.seq (.region false [⟨0, (some 9), .move (.tmp 4), none, []⟩, ⟨1, (some 2), .move (.const (.slice none 0 0)), none, []⟩, ⟨2, (some 3), .move (.tmp 9), none, []⟩])
 .ret) .skip)))
 (.seq (.region false [⟨0, (some 10), .move (.tmp 0), none, []⟩, ⟨1, (some 11), .callF 88 [(.tmp 10)], none, []⟩, ⟨2, (some 12), .callF 86 [(.tmp 11)], none, []⟩, ⟨3, (some 2), .move (.tmp 12), none, []⟩, ⟨4, (some 3), .move (.const (.int .i64 0)), none, []⟩])
 .ret))), [.tmp 2, .tmp 3]⟩
/- bellarmine/bellarminelaw07.same -/
def pf37 : PF := ⟨26, (.seq (.region false [⟨0, (some 4), .move (.const (.bool false)), none, []⟩])
 (.seq (.seq (.region false [⟨0, (some 6), .move (.tmp 0), none, []⟩, ⟨1, (some 7), .len (.tmp 6), none, []⟩, ⟨2, (some 8), .move (.tmp 1), none, []⟩, ⟨3, (some 9), .len (.tmp 8), none, []⟩, ⟨4, (some 10), .ibin .neq .i64 (.tmp 7) (.tmp 9), none, []⟩])
 (.cond (.tmp 10) (.seq (.region false [⟨0, (some 4), .move (.const (.bool false)), none, []⟩])
 .ret) .skip))
 (.seq (.seq (.region false [⟨0, (some 5), .move (.const (.int .i64 0)), none, []⟩])
 (.block 0 (.loop (.seq (.seq (.region false [⟨0, (some 11), .move (.tmp 5), none, []⟩, ⟨1, (some 12), .move (.tmp 0), none, []⟩, ⟨2, (some 13), .len (.tmp 12), none, []⟩, ⟨3, (some 14), .ibin .lss .i64 (.tmp 11) (.tmp 13), none, []⟩])
 (.cond (.tmp 14) .skip (.exit 0)))
 (.seq (.block 1 (.seq (.region true [⟨0, (some 17), .move (.tmp 0), none, []⟩, ⟨1, (some 18), .move (.tmp 5), none, []⟩, ⟨2, (some 19), .idxS (.tmp 17) (.tmp 18) 1, none, []⟩, ⟨3, (some 20), .load1 (.tmp 19), none, []⟩, ⟨4, (some 21), .move (.tmp 1), none, []⟩, ⟨5, (some 22), .move (.tmp 5), none, []⟩, ⟨6, (some 23), .idxS (.tmp 21) (.tmp 22) 1, none, []⟩, ⟨7, (some 24), .load1 (.tmp 23), none, []⟩, ⟨8, (some 25), .ibin .neq .i64 (.tmp 20) (.tmp 24), none, []⟩])
 (.cond (.tmp 25) (.seq (.region false [⟨0, (some 4), .move (.const (.bool false)), none, []⟩])
 .ret) .skip)))
 (.region false [⟨0, (some 15), .move (.tmp 5), none, []⟩, ⟨1, (some 16), .ibin .add .i64 (.tmp 15) (.const (.int .i64 1)), none, []⟩, ⟨2, (some 5), .move (.tmp 16), none, []⟩]))))))
 (.seq (.region false [⟨0, (some 4), .move (.const (.bool true)), none, []⟩])
 .ret)))), [.tmp 4]⟩
/- bellarmine/share.Free -/
def pf38 : PF := ⟨20, (.seq (.region false [⟨0, (some 1), .box 22 (.tmp 0), none, []⟩, ⟨1, (some 2), .new 23 [(.slice none 0 0)], none, []⟩, ⟨2, (some 3), .new 26 [(.int .i64 0)], none, []⟩])
 (.seq (.seq (.region false [⟨0, (some 6), .load1 (.tmp 1), none, []⟩, ⟨1, (some 7), .callF 27 [(.tmp 6)], none, []⟩, ⟨2, (some 4), .move (.tmp 7), none, []⟩])
 (.seq (.region false [⟨0, (some 8), .move (.tmp 4), none, []⟩, ⟨1, (some 9), .ibin .neq .i64 (.tmp 8) (.const (.int .i64 0)), none, []⟩])
 (.cond (.tmp 9) (.seq (.region false [⟨0, (some 10), .move (.tmp 4), none, []⟩, ⟨1, none, .store (.tmp 2) (.const (.slice none 0 0)) 1, none, []⟩, ⟨2, none, .store (.tmp 3) (.tmp 10) 1, none, []⟩])
 .ret) .skip)))
 (.seq (.seq (.region false [⟨0, (some 11), .load1 (.tmp 1), none, []⟩, ⟨1, (some 12), .callF 91 [(.tmp 11)], none, []⟩])
 (.block 0 (.rangeFunc (.tmp 12) [13] (.region false [⟨0, (some 5), .move (.tmp 13), none, []⟩]) (.block 1 (.seq (.region false [⟨0, (some 14), .load1 (.tmp 1), none, []⟩, ⟨1, (some 15), .move (.tmp 5), none, []⟩, ⟨2, (some 16), .callF 92 [(.tmp 14), (.tmp 15)], none, []⟩, ⟨3, (some 17), .callF 79 [(.tmp 16)], none, []⟩])
 (.cond (.tmp 17) (.seq (.region false [⟨0, (some 18), .move (.tmp 5), none, []⟩, ⟨1, (some 19), .callF 62 [(.tmp 18)], none, []⟩, ⟨2, none, .store (.tmp 2) (.tmp 19) 1, none, []⟩, ⟨3, none, .store (.tmp 3) (.const (.int .i64 0)) 1, none, []⟩])
 .ret) .skip))))))
 (.seq (.region false [⟨0, none, .store (.tmp 2) (.const (.slice none 0 0)) 1, none, []⟩, ⟨1, none, .store (.tmp 3) (.const (.int .i64 12)) 1, none, []⟩])
 .ret)))), [.cell 2 none, .cell 3 none]⟩
/- bellarmine/share.Count -/
def pf40 : PF := ⟨22, (.seq (.region false [⟨0, (some 1), .box 22 (.tmp 0), none, []⟩, ⟨1, (some 2), .move (.const (.int .i64 0)), none, []⟩, ⟨2, (some 3), .move (.const (.int .i64 0)), none, []⟩])
 (.seq (.seq (.region false [⟨0, (some 7), .load1 (.tmp 1), none, []⟩, ⟨1, (some 8), .callF 27 [(.tmp 7)], none, []⟩, ⟨2, (some 4), .move (.tmp 8), none, []⟩])
 (.seq (.region false [⟨0, (some 9), .move (.tmp 4), none, []⟩, ⟨1, (some 10), .ibin .neq .i64 (.tmp 9) (.const (.int .i64 0)), none, []⟩])
 (.cond (.tmp 10) (.seq (.region false [⟨0, (some 11), .move (.tmp 4), none, []⟩, ⟨1, (some 2), .move (.const (.int .i64 0)), none, []⟩, ⟨2, (some 3), .move (.tmp 11), none, []⟩])
 .ret) .skip)))
 (.seq (.region false [⟨0, (some 5), .new 3 [(.int .i64 0)], none, []⟩, ⟨1, none, .store (.tmp 5) (.const (.int .i64 0)) 1, none, []⟩])
 (.seq (.seq (.region false [⟨0, (some 12), .load1 (.tmp 1), none, []⟩, ⟨1, (some 13), .callF 91 [(.tmp 12)], none, []⟩])
 (.block 0 (.rangeFunc (.tmp 13) [14] (.region false [⟨0, (some 6), .move (.tmp 14), none, []⟩]) (.block 1 (.seq (.region false [⟨0, (some 15), .load1 (.tmp 1), none, []⟩, ⟨1, (some 16), .move (.tmp 6), none, []⟩, ⟨2, (some 17), .callF 92 [(.tmp 15), (.tmp 16)], none, []⟩, ⟨3, (some 18), .callF 79 [(.tmp 17)], none, []⟩])
 (.cond (.tmp 18) (.region false [⟨0, (some 19), .load1 (.tmp 5), none, []⟩, ⟨1, (some 20), .ibin .add .i64 (.tmp 19) (.const (.int .i64 1)), none, []⟩, ⟨2, none, .store (.tmp 5) (.tmp 20) 1, none, []⟩]) .skip))))))
 (.seq (.region false [⟨0, (some 21), .load1 (.tmp 5), none, []⟩, ⟨1, (some 2), .move (.tmp 21), none, []⟩, ⟨2, (some 3), .move (.const (.int .i64 0)), none, []⟩])
 .ret))))), [.tmp 2, .tmp 3]⟩
/- (bellarmine/bellarminelaw07.Heap).made -/
def pf46 : PF := ⟨57, (.seq (.region false [⟨0, (some 4), .box 49 (.tmp 0), none, []⟩, ⟨1, (some 8), .move (.const (.slice none 0 0)), none, []⟩])
 (.seq (.region false [⟨0, (some 9), .move (.const (.slice none 0 0)), none, []⟩])
 (.seq (.region false [⟨0, (some 16), .fieldAddr (.tmp 4) 1, none, []⟩, ⟨1, (some 17), .load1 (.tmp 16), none, []⟩, ⟨2, (some 18), .plain ⟨(some 18), .convert 5 3 (.tmp 17), 3, (String.ofList [Char.ofNat 111, Char.ofNat 117, Char.ofNat 116, Char.ofNat 114, Char.ofNat 105, Char.ofNat 103, Char.ofNat 104, Char.ofNat 116, Char.ofNat 46, Char.ofNat 103, Char.ofNat 111, Char.ofNat 58, Char.ofNat 50, Char.ofNat 49]), #[⟨1, .data⟩], none⟩, none, []⟩, ⟨3, (some 19), .move (.tmp 2), none, []⟩, ⟨4, (some 20), .ibin .add .i64 (.tmp 19) (.const (.int .i64 1)), none, []⟩, ⟨5, (some 21), .ibin .rem .i64 (.tmp 18) (.tmp 20), none, []⟩, ⟨6, (some 10), .move (.tmp 21), none, []⟩])
 (.seq (.seq (.region false [⟨0, (some 22), .fieldAddr (.tmp 4) 2, none, []⟩, ⟨1, (some 23), .fieldAddr (.tmp 4) 0, none, []⟩, ⟨2, (some 24), .load1 (.tmp 23), none, []⟩, ⟨3, (some 25), .plain ⟨(some 25), .convert 5 3 (.tmp 24), 3, (String.ofList [Char.ofNat 111, Char.ofNat 117, Char.ofNat 116, Char.ofNat 114, Char.ofNat 105, Char.ofNat 103, Char.ofNat 104, Char.ofNat 116, Char.ofNat 46, Char.ofNat 103, Char.ofNat 111, Char.ofNat 58, Char.ofNat 50, Char.ofNat 50]), #[⟨2, .data⟩], none⟩, none, []⟩, ⟨4, (some 26), .move (.tmp 1), none, []⟩, ⟨5, (some 27), .ibin .rem .i64 (.tmp 25) (.tmp 26), none, []⟩, ⟨6, (some 28), .ibin .add .i64 (.const (.int .i64 1)) (.tmp 27), none, []⟩, ⟨7, (some 29), .slA (.tmp 22) 4 6 none (some (.tmp 28)) none, none, []⟩, ⟨8, (some 30), .len (.tmp 29), none, []⟩, ⟨9, (some 31), .move (.const (.int .i64 0)), none, []⟩])
 (.block 0 (.loop (.seq (.region false [⟨0, (some 32), .ibin .lss .i64 (.tmp 31) (.tmp 30), none, []⟩])
 (.seq (.cond (.tmp 32) .skip (.exit 0))
 (.seq (.block 1 (.seq (.region false [⟨0, (some 33), .idxS (.tmp 29) (.tmp 31) 6, none, []⟩, ⟨1, (some 34), .loadN (.tmp 33) 6, none, []⟩, ⟨2, (some 12), .new 46 [(.int .u8 0), (.int .u8 0), (.int .u8 0), (.int .u8 0), (.int .u8 0), (.int .u8 0)], none, []⟩, ⟨3, none, .store (.tmp 12) (.tmp 34) 6, none, []⟩])
 (.seq (.region false [⟨0, (some 13), .move (.const (.slice none 0 0)), none, []⟩])
 (.seq (.seq (.region false [⟨0, (some 35), .move (.tmp 10), none, []⟩, ⟨1, (some 36), .slA (.tmp 12) 6 1 none (some (.tmp 35)) none, none, []⟩, ⟨2, (some 37), .len (.tmp 36), none, []⟩, ⟨3, (some 38), .move (.const (.int .i64 0)), none, []⟩])
 (.block 2 (.loop (.seq (.region false [⟨0, (some 39), .ibin .lss .i64 (.tmp 38) (.tmp 37), none, []⟩])
 (.seq (.cond (.tmp 39) .skip (.exit 2))
 (.seq (.block 3 (.seq (.region false [⟨0, (some 40), .idxS (.tmp 36) (.tmp 38) 1, none, []⟩, ⟨1, (some 41), .load1 (.tmp 40), none, []⟩, ⟨2, (some 15), .move (.tmp 41), none, []⟩])
 (.region false [⟨0, (some 42), .move (.tmp 13), none, []⟩, ⟨1, (some 43), .move (.tmp 15), none, []⟩, ⟨2, (some 44), .plain ⟨(some 44), .convert 5 3 (.tmp 43), 3, (String.ofList [Char.ofNat 111, Char.ofNat 117, Char.ofNat 116, Char.ofNat 114, Char.ofNat 105, Char.ofNat 103, Char.ofNat 104, Char.ofNat 116, Char.ofNat 46, Char.ofNat 103, Char.ofNat 111, Char.ofNat 58, Char.ofNat 50, Char.ofNat 53]), #[⟨1, .data⟩], none⟩, none, []⟩, ⟨3, (some 45), .move (.tmp 3), none, []⟩, ⟨4, (some 46), .ibin .add .i64 (.tmp 45) (.const (.int .i64 1)), none, []⟩, ⟨5, (some 47), .ibin .rem .i64 (.tmp 44) (.tmp 46), none, []⟩, ⟨6, (some 48), .bldS 3 1 [(.int .i64 0)] 1 [(0, (.tmp 47))], none, []⟩, ⟨7, (some 49), .append 3 1 (.tmp 42) (.tmp 48), none, []⟩, ⟨8, (some 13), .move (.tmp 49), none, []⟩])))
 (.region false [⟨0, (some 50), .ibin .add .i64 (.tmp 38) (.const (.int .i64 1)), none, []⟩, ⟨1, (some 38), .move (.tmp 50), none, []⟩])))))))
 (.region false [⟨0, (some 51), .move (.tmp 9), none, []⟩, ⟨1, (some 52), .move (.tmp 13), none, []⟩, ⟨2, (some 53), .bldS 23 1 [(.slice none 0 0)] 1 [(0, (.tmp 52))], none, []⟩, ⟨3, (some 54), .append 23 1 (.tmp 51) (.tmp 53), none, []⟩, ⟨4, (some 9), .move (.tmp 54), none, []⟩])))))
 (.region false [⟨0, (some 55), .ibin .add .i64 (.tmp 31) (.const (.int .i64 1)), none, []⟩, ⟨1, (some 31), .move (.tmp 55), none, []⟩])))))))
 (.seq (.region false [⟨0, (some 56), .move (.tmp 9), none, []⟩, ⟨1, (some 8), .move (.tmp 56), none, []⟩])
 .ret))))), [.tmp 8]⟩
/- slices.Repeat[[]int,int] -/
def pf47 : PF := ⟨48, (.seq (.region false [⟨0, (some 4), .move (.const (.slice none 0 0)), none, []⟩])
 (.seq (.seq (.region false [⟨0, (some 9), .move (.tmp 1), none, []⟩, ⟨1, (some 10), .ibin .lss .i64 (.tmp 9) (.const (.int .i64 0)), none, []⟩])
 (.cond (.tmp 10) (.region false [⟨0, (some 11), .mkI 9 (.const (.string ⟨#[99, 97, 110, 110, 111, 116, 32, 98, 101, 32, 110, 101, 103, 97, 116, 105, 118, 101]⟩)), none, []⟩, ⟨1, none, .never, none, []⟩]) .skip))
 (.seq (.region false [⟨0, (some 13), .move (.tmp 0), none, []⟩, ⟨1, (some 14), .len (.tmp 13), none, []⟩, ⟨2, (some 15), .plain ⟨(some 15), .convert 3 112 (.tmp 14), 112, (String.ofList [Char.ofNat 115, Char.ofNat 108, Char.ofNat 105, Char.ofNat 99, Char.ofNat 101, Char.ofNat 115, Char.ofNat 46, Char.ofNat 103, Char.ofNat 111, Char.ofNat 58, Char.ofNat 53, Char.ofNat 50, Char.ofNat 48]), #[⟨1, .data⟩], none⟩, none, []⟩, ⟨3, (some 16), .move (.tmp 1), none, []⟩, ⟨4, (some 17), .plain ⟨(some 17), .convert 3 112 (.tmp 16), 112, (String.ofList [Char.ofNat 115, Char.ofNat 108, Char.ofNat 105, Char.ofNat 99, Char.ofNat 101, Char.ofNat 115, Char.ofNat 46, Char.ofNat 103, Char.ofNat 111, Char.ofNat 58, Char.ofNat 53, Char.ofNat 50, Char.ofNat 48]), #[⟨3, .data⟩], none⟩, none, []⟩, ⟨5, (some 18), .callF 100 [(.tmp 15), (.tmp 17)], none, []⟩, ⟨6, (some 12), .move (.tmp 18), none, []⟩, ⟨7, (some 19), .ext (.tmp 12) 0, none, []⟩, ⟨8, (some 20), .ext (.tmp 12) 1, none, []⟩, ⟨9, (some 5), .move (.tmp 19), none, []⟩, ⟨10, (some 6), .move (.tmp 20), none, []⟩])
 (.seq (.seq (.region false [⟨0, (some 21), .move (.tmp 5), none, []⟩, ⟨1, (some 22), .ibin .gtr .u64 (.tmp 21) (.const (.int .u64 0)), none, []⟩, ⟨2, (some 23), .move (.tmp 22), none, []⟩, ⟨3, (some 24), .move (.tmp 6), (some (23, false)), []⟩, ⟨4, (some 25), .ibin .gtr .u64 (.tmp 24) (.const (.int .u64 9223372036854775807)), (some (23, false)), []⟩, ⟨5, (some 26), .pick (.tmp 23) (.const (.bool true)) (.tmp 25), none, []⟩])
 (.cond (.tmp 26) (.region false [⟨0, (some 27), .mkI 9 (.const (.string ⟨#[116, 104, 101, 32, 114, 101, 115, 117, 108, 116, 32, 111, 102, 32, 40, 108, 101, 110, 40, 120, 41, 32, 42, 32, 99, 111, 117, 110, 116, 41, 32, 111, 118, 101, 114, 102, 108, 111, 119, 115]⟩)), none, []⟩, ⟨1, none, .never, none, []⟩]) .skip))
 (.seq (.region false [⟨0, (some 28), .move (.tmp 6), none, []⟩, ⟨1, (some 29), .plain ⟨(some 29), .convert 112 3 (.tmp 28), 3, (String.ofList [Char.ofNat 115, Char.ofNat 108, Char.ofNat 105, Char.ofNat 99, Char.ofNat 101, Char.ofNat 115, Char.ofNat 46, Char.ofNat 103, Char.ofNat 111, Char.ofNat 58, Char.ofNat 53, Char.ofNat 50, Char.ofNat 53]), #[⟨0, .data⟩], none⟩, none, []⟩, ⟨2, (some 30), .mkS 3 [(.int .i64 0)] (.tmp 29) (.tmp 29), none, []⟩, ⟨3, (some 7), .move (.tmp 30), none, []⟩])
 (.seq (.region false [⟨0, (some 31), .move (.tmp 7), none, []⟩, ⟨1, (some 32), .move (.tmp 0), none, []⟩, ⟨2, (some 33), .copy 1 (.tmp 31) (.tmp 32), none, []⟩, ⟨3, (some 8), .move (.tmp 33), none, []⟩])
 (.seq (.block 0 (.loop (.seq (.seq (.region false [⟨0, (some 34), .move (.tmp 8), none, []⟩, ⟨1, (some 35), .move (.tmp 7), none, []⟩, ⟨2, (some 36), .len (.tmp 35), none, []⟩, ⟨3, (some 37), .ibin .lss .i64 (.tmp 34) (.tmp 36), none, []⟩])
 (.cond (.tmp 37) .skip (.exit 0)))
 (.block 1 (.region true [⟨0, (some 38), .move (.tmp 8), none, []⟩, ⟨1, (some 39), .move (.tmp 7), none, []⟩, ⟨2, (some 40), .move (.tmp 8), none, []⟩, ⟨3, (some 41), .slS (.tmp 39) 1 (some (.tmp 40)) none none, none, []⟩, ⟨4, (some 42), .move (.tmp 7), none, []⟩, ⟨5, (some 43), .move (.tmp 8), none, []⟩, ⟨6, (some 44), .slS (.tmp 42) 1 none (some (.tmp 43)) none, none, []⟩, ⟨7, (some 45), .copy 1 (.tmp 41) (.tmp 44), none, []⟩, ⟨8, (some 46), .ibin .add .i64 (.tmp 38) (.tmp 45), none, []⟩, ⟨9, (some 8), .move (.tmp 46), none, []⟩])))))
 (.seq (.region false [⟨0, (some 47), .move (.tmp 7), none, []⟩, ⟨1, (some 4), .move (.tmp 47), none, []⟩])
 .ret)))))))), [.tmp 4]⟩
/- bellarmine/bellarminelaw07.first -/
def pf48 : PF := ⟨15, (.seq (.region false [⟨0, (some 4), .move (.const (.int .i64 0)), none, []⟩])
 (.seq (.seq (.region false [⟨0, (some 6), .move (.tmp 0), none, []⟩, ⟨1, (some 7), .move (.const (.int .i64 0)), none, []⟩])
 (.block 0 (.loop (.seq (.region false [⟨0, (some 8), .ibin .lss .i64 (.tmp 7) (.tmp 6), none, []⟩])
 (.seq (.cond (.tmp 8) .skip (.exit 0))
 (.seq (.block 1 (.seq (.region false [⟨0, (some 9), .move (.tmp 7), none, []⟩, ⟨1, (some 5), .move (.tmp 9), none, []⟩])
 (.seq (.region false [⟨0, (some 10), .move (.tmp 1), none, []⟩, ⟨1, (some 11), .move (.tmp 5), none, []⟩, ⟨2, (some 12), .callV (.tmp 10) [(.tmp 11)], none, []⟩])
 (.cond (.tmp 12) (.seq (.region false [⟨0, (some 13), .move (.tmp 5), none, []⟩, ⟨1, (some 4), .move (.tmp 13), none, []⟩])
 .ret) .skip))))
 (.region false [⟨0, (some 14), .ibin .add .i64 (.tmp 7) (.const (.int .i64 1)), none, []⟩, ⟨1, (some 7), .move (.tmp 14), none, []⟩])))))))
 (.seq (.region false [⟨0, (some 4), .move (.const (.int .i64 (-1))), none, []⟩])
 .ret))), [.tmp 4]⟩
/- bellarmine/bellarminelaw07.ShareRings$1 -/
def pf49 : PF := ⟨10, (.seq (.region false [⟨0, (some 4), .move (.const (.bool false)), none, []⟩])
 (.seq (.region false [⟨0, (some 5), .load1 (.tmp 1), none, []⟩, ⟨1, (some 6), .load1 (.tmp 2), none, []⟩, ⟨2, (some 7), .move (.tmp 0), none, []⟩, ⟨3, (some 8), .callF 50 [(.tmp 5), (.tmp 6), (.tmp 7)], none, []⟩, ⟨4, (some 9), .ibin .lss .i64 (.tmp 8) (.const (.int .i64 0)), none, []⟩, ⟨5, (some 4), .move (.tmp 9), none, []⟩])
 .ret)), [.tmp 4]⟩
/- bellarmine/bellarminelaw07.enemy -/
def pf50 : PF := ⟨15, (.seq (.region false [⟨0, (some 5), .box 3 (.tmp 2), none, []⟩, ⟨1, (some 6), .move (.const (.int .i64 0)), none, []⟩])
 (.seq (.region false [⟨0, (some 8), .move (.tmp 0), none, []⟩, ⟨1, (some 9), .move (.tmp 1), none, []⟩, ⟨2, (some 10), .callF 61 [(.tmp 8), (.tmp 9)], none, []⟩, ⟨3, (some 7), .new 22 [(.slice none 0 0)], none, []⟩, ⟨4, none, .store (.tmp 7) (.tmp 10) 1, none, []⟩])
 (.seq (.region false [⟨0, (some 11), .load1 (.tmp 7), none, []⟩, ⟨1, (some 12), .len (.tmp 11), none, []⟩, ⟨2, (some 13), .mkF (.func 101) #[] #[(.tmp 7), (.tmp 5)], none, []⟩, ⟨3, (some 14), .callF 48 [(.tmp 12), (.tmp 13)], none, []⟩, ⟨4, (some 6), .move (.tmp 14), none, []⟩])
 .ret))), [.tmp 6]⟩
/- slices.Contains[[]int,int] -/
def pf52 : PF := ⟨9, (.seq (.region false [⟨0, (some 4), .move (.const (.bool false)), none, []⟩])
 (.seq (.region false [⟨0, (some 5), .move (.tmp 0), none, []⟩, ⟨1, (some 6), .move (.tmp 1), none, []⟩, ⟨2, (some 7), .callF 53 [(.tmp 5), (.tmp 6)], none, []⟩, ⟨3, (some 8), .ibin .geq .i64 (.tmp 7) (.const (.int .i64 0)), none, []⟩, ⟨4, (some 4), .move (.tmp 8), none, []⟩])
 .ret)), [.tmp 4]⟩
/- slices.Index[[]int,int] -/
def pf53 : PF := ⟨19, (.seq (.region false [⟨0, (some 4), .move (.const (.int .i64 0)), none, []⟩])
 (.seq (.seq (.region false [⟨0, (some 6), .move (.tmp 0), none, []⟩, ⟨1, (some 7), .len (.tmp 6), none, []⟩, ⟨2, (some 8), .move (.const (.int .i64 0)), none, []⟩])
 (.block 0 (.loop (.seq (.region false [⟨0, (some 9), .ibin .lss .i64 (.tmp 8) (.tmp 7), none, []⟩])
 (.seq (.cond (.tmp 9) .skip (.exit 0))
 (.seq (.block 1 (.seq (.region false [⟨0, (some 10), .move (.tmp 8), none, []⟩, ⟨1, (some 5), .move (.tmp 10), none, []⟩])
 (.seq (.region false [⟨0, (some 11), .move (.tmp 1), none, []⟩, ⟨1, (some 12), .move (.tmp 0), none, []⟩, ⟨2, (some 13), .move (.tmp 5), none, []⟩, ⟨3, (some 14), .idxS (.tmp 12) (.tmp 13) 1, none, []⟩, ⟨4, (some 15), .load1 (.tmp 14), none, []⟩, ⟨5, (some 16), .ibin .eql .i64 (.tmp 11) (.tmp 15), none, []⟩])
 (.cond (.tmp 16) (.seq (.region false [⟨0, (some 17), .move (.tmp 5), none, []⟩, ⟨1, (some 4), .move (.tmp 17), none, []⟩])
 .ret) .skip))))
 (.region false [⟨0, (some 18), .ibin .add .i64 (.tmp 8) (.const (.int .i64 1)), none, []⟩, ⟨1, (some 8), .move (.tmp 18), none, []⟩])))))))
 (.seq (.region false [⟨0, (some 4), .move (.const (.int .i64 (-1))), none, []⟩])
 .ret))), [.tmp 4]⟩
/- bellarmine/bellarminelaw07.ShareRings$2 -/
def pf54 : PF := ⟨10, (.seq (.region false [⟨0, (some 4), .move (.const (.bool false)), none, []⟩])
 (.seq (.region false [⟨0, (some 5), .load1 (.tmp 1), none, []⟩, ⟨1, (some 6), .load1 (.tmp 2), none, []⟩, ⟨2, (some 7), .move (.tmp 0), none, []⟩, ⟨3, (some 8), .callF 50 [(.tmp 5), (.tmp 6), (.tmp 7)], none, []⟩, ⟨4, (some 9), .ibin .lss .i64 (.tmp 8) (.const (.int .i64 0)), none, []⟩, ⟨5, (some 4), .move (.tmp 9), none, []⟩])
 .ret)), [.tmp 4]⟩
/- bellarmine/bellarminelaw07.judged -/
def pf55 : PF := ⟨43, (.seq (.region false [⟨0, (some 4), .move (.const (.int .i64 0)), none, []⟩, ⟨1, (some 5), .new 58 [(.int .i64 0), (.int .i64 0)], none, []⟩])
 (.seq (.region false [⟨0, (some 4), .move (.const (.int .i64 2)), none, []⟩])
 (.seq (.seq (.region false [⟨0, (some 10), .move (.tmp 0), none, []⟩, ⟨1, (some 11), .len (.tmp 10), none, []⟩, ⟨2, (some 12), .move (.const (.int .i64 0)), none, []⟩])
 (.block 0 (.loop (.seq (.region false [⟨0, (some 13), .ibin .lss .i64 (.tmp 12) (.tmp 11), none, []⟩])
 (.seq (.cond (.tmp 13) .skip (.exit 0))
 (.seq (.block 1 (.seq (.region false [⟨0, (some 14), .move (.tmp 12), none, []⟩, ⟨1, (some 6), .move (.tmp 14), none, []⟩])
 (.seq (.region false [⟨0, (some 15), .move (.tmp 0), none, []⟩, ⟨1, (some 16), .len (.tmp 15), none, []⟩, ⟨2, (some 17), .move (.const (.int .i64 0)), none, []⟩])
 (.block 2 (.loop (.seq (.region false [⟨0, (some 18), .ibin .lss .i64 (.tmp 17) (.tmp 16), none, []⟩])
 (.seq (.cond (.tmp 18) .skip (.exit 2))
 (.seq (.block 3 (.seq (.region false [⟨0, (some 19), .move (.tmp 17), none, []⟩, ⟨1, (some 7), .move (.tmp 19), none, []⟩])
 (.seq (.region false [⟨0, (some 21), .move (.tmp 0), none, []⟩, ⟨1, (some 22), .move (.tmp 1), none, []⟩, ⟨2, (some 23), .move (.tmp 6), none, []⟩, ⟨3, (some 24), .move (.tmp 7), none, []⟩, ⟨4, (some 25), .callF 58 [(.tmp 21), (.tmp 22), (.tmp 23), (.tmp 24)], none, []⟩, ⟨5, (some 20), .move (.tmp 25), none, []⟩, ⟨6, (some 26), .ext (.tmp 20) 0, none, []⟩, ⟨7, (some 27), .ext (.tmp 20) 1, none, []⟩, ⟨8, (some 8), .move (.tmp 26), none, []⟩, ⟨9, (some 9), .move (.tmp 27), none, []⟩])
 (.seq (.seq (.region false [⟨0, (some 28), .move (.tmp 8), none, []⟩])
 (.cond (.tmp 28) (.region false [⟨0, (some 29), .move (.tmp 4), none, []⟩, ⟨1, (some 30), .plain ⟨(some 30), .call ⟨.builtin .min, #[(.tmp 29), (.const (.int .i64 1))], #[3, 3]⟩, 3, (String.ofList [Char.ofNat 111, Char.ofNat 117, Char.ofNat 116, Char.ofNat 114, Char.ofNat 105, Char.ofNat 103, Char.ofNat 104, Char.ofNat 116, Char.ofNat 46, Char.ofNat 103, Char.ofNat 111, Char.ofNat 58, Char.ofNat 54, Char.ofNat 55]), #[⟨0, .data⟩], none⟩, none, []⟩, ⟨2, (some 4), .move (.tmp 30), none, []⟩]) .skip))
 (.seq (.region false [⟨0, (some 31), .move (.tmp 9), none, []⟩, ⟨1, (some 32), .move (.tmp 31), none, []⟩, ⟨2, (some 33), .move (.tmp 4), (some (32, true)), []⟩, ⟨3, (some 34), .ibin .gtr .i64 (.tmp 33) (.const (.int .i64 0)), (some (32, true)), []⟩, ⟨4, (some 35), .pick (.tmp 32) (.tmp 34) (.const (.bool false)), none, []⟩])
 (.cond (.tmp 35) (.region false [⟨0, (some 36), .move (.tmp 6), none, []⟩, ⟨1, (some 37), .move (.tmp 7), none, []⟩, ⟨2, (some 38), .bldA [(.int .i64 0), (.int .i64 0)] 1 [(0, (.tmp 36)), (1, (.tmp 37))], none, []⟩, ⟨3, (some 4), .move (.const (.int .i64 0)), none, []⟩, ⟨4, none, .store (.tmp 5) (.tmp 38) 2, none, []⟩]) .skip))))))
 (.region false [⟨0, (some 39), .ibin .add .i64 (.tmp 17) (.const (.int .i64 1)), none, []⟩, ⟨1, (some 17), .move (.tmp 39), none, []⟩])))))))))
 (.region false [⟨0, (some 40), .ibin .add .i64 (.tmp 12) (.const (.int .i64 1)), none, []⟩, ⟨1, (some 12), .move (.tmp 40), none, []⟩])))))))
 (.seq (.region true [⟨0, (some 41), .move (.tmp 4), none, []⟩, ⟨1, (some 42), .loadN (.tmp 5) 2, none, []⟩, ⟨2, (some 4), .move (.tmp 41), none, []⟩, ⟨3, none, .store (.tmp 5) (.tmp 42) 2, none, []⟩])
 .ret)))), [.tmp 4, .cell 5 (some 2)]⟩
/- slices.Delete[[]int,int] -/
def pf56 : PF := ⟨33, (.seq (.region false [⟨0, (some 6), .move (.const (.slice none 0 0)), none, []⟩])
 (.seq (.region false [⟨0, (some 8), .move (.tmp 0), none, []⟩, ⟨1, (some 9), .move (.tmp 1), none, []⟩, ⟨2, (some 10), .move (.tmp 2), none, []⟩, ⟨3, (some 11), .move (.tmp 0), none, []⟩, ⟨4, (some 12), .len (.tmp 11), none, []⟩, ⟨5, (some 13), .slS (.tmp 8) 1 (some (.tmp 9)) (some (.tmp 10)) (some (.tmp 12)), none, []⟩])
 (.seq (.seq (.region false [⟨0, (some 14), .move (.tmp 1), none, []⟩, ⟨1, (some 15), .move (.tmp 2), none, []⟩, ⟨2, (some 16), .ibin .eql .i64 (.tmp 14) (.tmp 15), none, []⟩])
 (.cond (.tmp 16) (.seq (.region false [⟨0, (some 17), .move (.tmp 0), none, []⟩, ⟨1, (some 6), .move (.tmp 17), none, []⟩])
 .ret) .skip))
 (.seq (.region false [⟨0, (some 18), .move (.tmp 0), none, []⟩, ⟨1, (some 19), .len (.tmp 18), none, []⟩, ⟨2, (some 7), .move (.tmp 19), none, []⟩])
 (.seq (.region true [⟨0, (some 20), .move (.tmp 0), none, []⟩, ⟨1, (some 21), .move (.tmp 1), none, []⟩, ⟨2, (some 22), .slS (.tmp 20) 1 none (some (.tmp 21)) none, none, []⟩, ⟨3, (some 23), .move (.tmp 0), none, []⟩, ⟨4, (some 24), .move (.tmp 2), none, []⟩, ⟨5, (some 25), .slS (.tmp 23) 1 (some (.tmp 24)) none none, none, []⟩, ⟨6, (some 26), .append 3 1 (.tmp 22) (.tmp 25), none, []⟩, ⟨7, (some 0), .move (.tmp 26), none, []⟩])
 (.seq (.region false [⟨0, (some 27), .move (.tmp 0), none, []⟩, ⟨1, (some 28), .move (.tmp 0), none, []⟩, ⟨2, (some 29), .len (.tmp 28), none, []⟩, ⟨3, (some 30), .move (.tmp 7), none, []⟩, ⟨4, (some 31), .slS (.tmp 27) 1 (some (.tmp 29)) (some (.tmp 30)) none, none, []⟩, ⟨5, none, .clr 1 [(.int .i64 0)] (.tmp 31), none, []⟩])
 (.seq (.region false [⟨0, (some 32), .move (.tmp 0), none, []⟩, ⟨1, (some 6), .move (.tmp 32), none, []⟩])
 .ret))))))), [.tmp 6]⟩
/- bellarmine/bellarminelaw07.proper -/
def pf57 : PF := ⟨18, (.seq (.region false [⟨0, (some 2), .box 22 (.tmp 0), none, []⟩, ⟨1, (some 4), .move (.const (.bool false)), none, []⟩])
 (.seq (.region false [⟨0, (some 5), .move (.tmp 1), none, []⟩, ⟨1, (some 6), .len (.tmp 5), none, []⟩, ⟨2, (some 7), .load1 (.tmp 2), none, []⟩, ⟨3, (some 8), .idxS (.tmp 7) (.const (.int .i64 0)) 1, none, []⟩, ⟨4, (some 9), .load1 (.tmp 8), none, []⟩, ⟨5, (some 10), .len (.tmp 9), none, []⟩, ⟨6, (some 11), .ibin .eql .i64 (.tmp 6) (.tmp 10), none, []⟩, ⟨7, (some 12), .move (.tmp 11), none, []⟩, ⟨8, (some 13), .move (.tmp 1), (some (12, true)), []⟩, ⟨9, (some 14), .mkF (.func 103) #[] #[(.tmp 2)], (some (12, true)), []⟩, ⟨10, (some 15), .callF 102 [(.tmp 13), (.tmp 14)], (some (12, true)), []⟩, ⟨11, (some 16), .not (.tmp 15), (some (12, true)), []⟩, ⟨12, (some 17), .pick (.tmp 12) (.tmp 16) (.const (.bool false)), none, []⟩, ⟨13, (some 4), .move (.tmp 17), none, []⟩])
 .ret)), [.tmp 4]⟩
/- bellarmine/bellarminelaw07.envies -/
def pf58 : PF := ⟨70, (.seq (.region false [⟨0, (some 8), .move (.const (.bool false)), none, []⟩, ⟨1, (some 9), .move (.const (.bool false)), none, []⟩])
 (.seq (.region false [⟨0, (some 13), .move (.tmp 0), none, []⟩, ⟨1, (some 14), .move (.tmp 1), none, []⟩, ⟨2, (some 15), .callF 61 [(.tmp 13), (.tmp 14)], none, []⟩, ⟨3, (some 10), .move (.tmp 15), none, []⟩])
 (.seq (.region true [⟨0, (some 16), .move (.tmp 10), none, []⟩, ⟨1, (some 17), .move (.tmp 2), none, []⟩, ⟨2, (some 18), .idxS (.tmp 16) (.tmp 17) 1, none, []⟩, ⟨3, (some 19), .load1 (.tmp 18), none, []⟩, ⟨4, (some 20), .move (.tmp 3), none, []⟩, ⟨5, (some 21), .idxS (.tmp 19) (.tmp 20) 1, none, []⟩, ⟨6, (some 22), .load1 (.tmp 21), none, []⟩, ⟨7, (some 23), .move (.tmp 10), none, []⟩, ⟨8, (some 24), .move (.tmp 2), none, []⟩, ⟨9, (some 25), .idxS (.tmp 23) (.tmp 24) 1, none, []⟩, ⟨10, (some 26), .load1 (.tmp 25), none, []⟩, ⟨11, (some 27), .move (.tmp 2), none, []⟩, ⟨12, (some 28), .idxS (.tmp 26) (.tmp 27) 1, none, []⟩, ⟨13, (some 29), .load1 (.tmp 28), none, []⟩, ⟨14, (some 30), .ibin .gtr .i64 (.tmp 22) (.tmp 29), none, []⟩, ⟨15, (some 8), .move (.tmp 30), none, []⟩])
 (.seq (.region false [⟨0, (some 31), .move (.tmp 8), none, []⟩, ⟨1, (some 9), .move (.tmp 31), none, []⟩])
 (.seq (.seq (.region false [⟨0, (some 32), .move (.tmp 1), none, []⟩, ⟨1, (some 33), .len (.tmp 32), none, []⟩, ⟨2, (some 34), .move (.const (.int .i64 0)), none, []⟩])
 (.block 0 (.loop (.seq (.region false [⟨0, (some 35), .ibin .lss .i64 (.tmp 34) (.tmp 33), none, []⟩])
 (.seq (.cond (.tmp 35) .skip (.exit 0))
 (.seq (.block 1 (.seq (.region false [⟨0, (some 36), .move (.tmp 34), none, []⟩, ⟨1, (some 37), .idxS (.tmp 32) (.tmp 34) 1, none, []⟩, ⟨2, (some 38), .load1 (.tmp 37), none, []⟩, ⟨3, (some 11), .move (.tmp 36), none, []⟩, ⟨4, (some 12), .move (.tmp 38), none, []⟩])
 (.seq (.region true [⟨0, (some 39), .move (.tmp 12), none, []⟩, ⟨1, (some 40), .move (.tmp 3), none, []⟩, ⟨2, (some 41), .ibin .eql .i64 (.tmp 39) (.tmp 40), none, []⟩, ⟨3, (some 42), .move (.tmp 41), none, []⟩, ⟨4, (some 43), .move (.tmp 10), (some (42, true)), []⟩, ⟨5, (some 44), .move (.tmp 2), (some (42, true)), []⟩, ⟨6, (some 45), .idxS (.tmp 43) (.tmp 44) 1, (some (42, true)), []⟩, ⟨7, (some 46), .load1 (.tmp 45), (some (42, true)), []⟩, ⟨8, (some 47), .move (.tmp 3), (some (42, true)), []⟩, ⟨9, (some 48), .idxS (.tmp 46) (.tmp 47) 1, (some (42, true)), []⟩, ⟨10, (some 49), .load1 (.tmp 48), (some (42, true)), []⟩, ⟨11, (some 50), .move (.tmp 0), (some (42, true)), []⟩, ⟨12, (some 51), .move (.tmp 2), (some (42, true)), []⟩, ⟨13, (some 52), .idxS (.tmp 50) (.tmp 51) 1, (some (42, true)), []⟩, ⟨14, (some 53), .load1 (.tmp 52), (some (42, true)), []⟩, ⟨15, (some 54), .move (.tmp 11), (some (42, true)), []⟩, ⟨16, (some 55), .idxS (.tmp 53) (.tmp 54) 1, (some (42, true)), []⟩, ⟨17, (some 56), .load1 (.tmp 55), (some (42, true)), []⟩, ⟨18, (some 57), .ibin .sub .i64 (.tmp 49) (.tmp 56), (some (42, true)), []⟩, ⟨19, (some 58), .move (.tmp 10), (some (42, true)), []⟩, ⟨20, (some 59), .move (.tmp 2), (some (42, true)), []⟩, ⟨21, (some 60), .idxS (.tmp 58) (.tmp 59) 1, (some (42, true)), []⟩, ⟨22, (some 61), .load1 (.tmp 60), (some (42, true)), []⟩, ⟨23, (some 62), .move (.tmp 2), (some (42, true)), []⟩, ⟨24, (some 63), .idxS (.tmp 61) (.tmp 62) 1, (some (42, true)), []⟩, ⟨25, (some 64), .load1 (.tmp 63), (some (42, true)), []⟩, ⟨26, (some 65), .ibin .leq .i64 (.tmp 57) (.tmp 64), (some (42, true)), []⟩, ⟨27, (some 66), .pick (.tmp 42) (.tmp 65) (.const (.bool false)), none, []⟩])
 (.cond (.tmp 66) (.region false [⟨0, (some 9), .move (.const (.bool false)), none, []⟩]) .skip))))
 (.region false [⟨0, (some 67), .ibin .add .i64 (.tmp 34) (.const (.int .i64 1)), none, []⟩, ⟨1, (some 34), .move (.tmp 67), none, []⟩])))))))
 (.seq (.region false [⟨0, (some 68), .move (.tmp 8), none, []⟩, ⟨1, (some 69), .move (.tmp 9), none, []⟩, ⟨2, (some 8), .move (.tmp 68), none, []⟩, ⟨3, (some 9), .move (.tmp 69), none, []⟩])
 .ret)))))), [.tmp 8, .tmp 9]⟩
/- bellarmine/bellarminelaw07.divisions -/
def pf59 : PF := ⟨39, (.seq (.region false [⟨0, (some 6), .move (.tmp 0), none, []⟩, ⟨1, (some 7), .idxS (.tmp 6) (.const (.int .i64 0)) 1, none, []⟩, ⟨2, (some 8), .load1 (.tmp 7), none, []⟩, ⟨3, (some 9), .len (.tmp 8), none, []⟩, ⟨4, (some 10), .mkS 3 [(.int .i64 0)] (.tmp 9) (.tmp 9), none, []⟩, ⟨5, (some 4), .move (.tmp 10), none, []⟩])
 (.block 0 (.loop (.block 1 (.seq (.region false [⟨0, (some 11), .move (.tmp 1), none, []⟩, ⟨1, (some 12), .move (.tmp 4), none, []⟩, ⟨2, (some 13), .callV (.tmp 11) [(.tmp 12)], none, []⟩])
 (.seq (.region false [⟨0, (some 14), .move (.tmp 4), none, []⟩, ⟨1, (some 15), .len (.tmp 14), none, []⟩, ⟨2, (some 16), .ibin .sub .i64 (.tmp 15) (.const (.int .i64 1)), none, []⟩, ⟨3, (some 5), .move (.tmp 16), none, []⟩])
 (.seq (.block 2 (.loop (.seq (.seq (.region false [⟨0, (some 17), .move (.tmp 5), none, []⟩, ⟨1, (some 18), .ibin .geq .i64 (.tmp 17) (.const (.int .i64 0)), none, []⟩])
 (.cond (.tmp 18) .skip (.exit 2)))
 (.seq (.block 3 (.seq (.seq (.region false [⟨0, (some 21), .move (.tmp 4), none, []⟩, ⟨1, (some 22), .move (.tmp 5), none, []⟩, ⟨2, (some 23), .idxS (.tmp 21) (.tmp 22) 1, none, []⟩, ⟨3, (some 24), .load1 (.tmp 23), none, []⟩, ⟨4, (some 25), .ibin .add .i64 (.tmp 24) (.const (.int .i64 1)), none, []⟩, ⟨5, (some 26), .idxS (.tmp 21) (.tmp 22) 1, none, []⟩, ⟨6, none, .store (.tmp 26) (.tmp 25) 1, none, []⟩])
 (.seq (.region false [⟨0, (some 27), .move (.tmp 4), none, []⟩, ⟨1, (some 28), .move (.tmp 5), none, []⟩, ⟨2, (some 29), .idxS (.tmp 27) (.tmp 28) 1, none, []⟩, ⟨3, (some 30), .load1 (.tmp 29), none, []⟩, ⟨4, (some 31), .move (.tmp 0), none, []⟩, ⟨5, (some 32), .len (.tmp 31), none, []⟩, ⟨6, (some 33), .ibin .lss .i64 (.tmp 30) (.tmp 32), none, []⟩])
 (.cond (.tmp 33) (.exit 2) .skip)))
 (.region false [⟨0, (some 34), .move (.tmp 4), none, []⟩, ⟨1, (some 35), .move (.tmp 5), none, []⟩, ⟨2, (some 36), .idxS (.tmp 34) (.tmp 35) 1, none, []⟩, ⟨3, none, .store (.tmp 36) (.const (.int .i64 0)) 1, none, []⟩])))
 (.region false [⟨0, (some 19), .move (.tmp 5), none, []⟩, ⟨1, (some 20), .ibin .sub .i64 (.tmp 19) (.const (.int .i64 1)), none, []⟩, ⟨2, (some 5), .move (.tmp 20), none, []⟩])))))
 (.seq (.region false [⟨0, (some 37), .move (.tmp 5), none, []⟩, ⟨1, (some 38), .ibin .lss .i64 (.tmp 37) (.const (.int .i64 0)), none, []⟩])
 (.cond (.tmp 38) .ret .skip))))))))), []⟩
/- bellarmine/bellarminelaw07.worths -/
def pf61 : PF := ⟨52, (.seq (.region false [⟨0, (some 4), .move (.const (.slice none 0 0)), none, []⟩])
 (.seq (.region false [⟨0, (some 10), .move (.tmp 0), none, []⟩, ⟨1, (some 11), .len (.tmp 10), none, []⟩, ⟨2, (some 5), .move (.tmp 11), none, []⟩])
 (.seq (.region false [⟨0, (some 12), .move (.tmp 5), none, []⟩, ⟨1, (some 13), .mkS 23 [(.slice none 0 0)] (.tmp 12) (.tmp 12), none, []⟩, ⟨2, (some 6), .move (.tmp 13), none, []⟩])
 (.seq (.seq (.region false [⟨0, (some 14), .move (.tmp 6), none, []⟩, ⟨1, (some 15), .len (.tmp 14), none, []⟩, ⟨2, (some 16), .move (.const (.int .i64 0)), none, []⟩])
 (.block 0 (.loop (.seq (.region false [⟨0, (some 17), .ibin .lss .i64 (.tmp 16) (.tmp 15), none, []⟩])
 (.seq (.cond (.tmp 17) .skip (.exit 0))
 (.seq (.block 1 (.seq (.region false [⟨0, (some 18), .move (.tmp 16), none, []⟩, ⟨1, (some 7), .move (.tmp 18), none, []⟩])
 (.seq (.region false [⟨0, (some 19), .move (.tmp 6), none, []⟩, ⟨1, (some 20), .move (.tmp 7), none, []⟩, ⟨2, (some 21), .move (.tmp 5), none, []⟩, ⟨3, (some 22), .mkS 3 [(.int .i64 0)] (.tmp 21) (.tmp 21), none, []⟩, ⟨4, (some 23), .idxS (.tmp 19) (.tmp 20) 1, none, []⟩, ⟨5, none, .store (.tmp 23) (.tmp 22) 1, none, []⟩])
 (.seq (.region false [⟨0, (some 24), .move (.tmp 1), none, []⟩, ⟨1, (some 25), .len (.tmp 24), none, []⟩, ⟨2, (some 26), .move (.const (.int .i64 0)), none, []⟩])
 (.block 2 (.loop (.seq (.region false [⟨0, (some 27), .ibin .lss .i64 (.tmp 26) (.tmp 25), none, []⟩])
 (.seq (.cond (.tmp 27) .skip (.exit 2))
 (.seq (.block 3 (.seq (.region false [⟨0, (some 28), .move (.tmp 26), none, []⟩, ⟨1, (some 29), .idxS (.tmp 24) (.tmp 26) 1, none, []⟩, ⟨2, (some 30), .load1 (.tmp 29), none, []⟩, ⟨3, (some 8), .move (.tmp 28), none, []⟩, ⟨4, (some 9), .move (.tmp 30), none, []⟩])
 (.seq (.region false [⟨0, (some 31), .move (.tmp 9), none, []⟩, ⟨1, (some 32), .ibin .geq .i64 (.tmp 31) (.const (.int .i64 0)), none, []⟩])
 (.cond (.tmp 32) (.region true [⟨0, (some 33), .move (.tmp 6), none, []⟩, ⟨1, (some 34), .move (.tmp 7), none, []⟩, ⟨2, (some 35), .idxS (.tmp 33) (.tmp 34) 1, none, []⟩, ⟨3, (some 36), .load1 (.tmp 35), none, []⟩, ⟨4, (some 37), .move (.tmp 9), none, []⟩, ⟨5, (some 38), .idxS (.tmp 36) (.tmp 37) 1, none, []⟩, ⟨6, (some 39), .load1 (.tmp 38), none, []⟩, ⟨7, (some 40), .move (.tmp 0), none, []⟩, ⟨8, (some 41), .move (.tmp 7), none, []⟩, ⟨9, (some 42), .idxS (.tmp 40) (.tmp 41) 1, none, []⟩, ⟨10, (some 43), .load1 (.tmp 42), none, []⟩, ⟨11, (some 44), .move (.tmp 8), none, []⟩, ⟨12, (some 45), .idxS (.tmp 43) (.tmp 44) 1, none, []⟩, ⟨13, (some 46), .load1 (.tmp 45), none, []⟩, ⟨14, (some 47), .ibin .add .i64 (.tmp 39) (.tmp 46), none, []⟩, ⟨15, (some 48), .idxS (.tmp 36) (.tmp 37) 1, none, []⟩, ⟨16, none, .store (.tmp 48) (.tmp 47) 1, none, []⟩]) .skip))))
 (.region false [⟨0, (some 49), .ibin .add .i64 (.tmp 26) (.const (.int .i64 1)), none, []⟩, ⟨1, (some 26), .move (.tmp 49), none, []⟩]))))))))))
 (.region false [⟨0, (some 50), .ibin .add .i64 (.tmp 16) (.const (.int .i64 1)), none, []⟩, ⟨1, (some 16), .move (.tmp 50), none, []⟩])))))))
 (.seq (.region false [⟨0, (some 51), .move (.tmp 6), none, []⟩, ⟨1, (some 4), .move (.tmp 51), none, []⟩])
 .ret))))), [.tmp 4]⟩
/- slices.Clone[[]int,int] -/
def pf62 : PF := ⟨8, (.seq (.region false [⟨0, (some 2), .move (.const (.slice none 0 0)), none, []⟩])
 (.seq (.seq (.region false [⟨0, (some 3), .move (.tmp 0), none, []⟩, ⟨1, (some 4), .nilEq false .sl (.tmp 3), none, []⟩])
 (.cond (.tmp 4) (.seq (.region false [⟨0, (some 2), .move (.const (.slice none 0 0)), none, []⟩])
 .ret) .skip))
 (.seq (.region false [⟨0, (some 5), .bldS 3 1 [] 0 [], none, []⟩, ⟨1, (some 6), .move (.tmp 0), none, []⟩, ⟨2, (some 7), .append 3 1 (.tmp 5) (.tmp 6), none, []⟩, ⟨3, (some 2), .move (.tmp 7), none, []⟩])
 .ret))), [.tmp 2]⟩
/- bellarmine/bellarminelaw07.ShareFree$1 -/
def pf63 : PF := ⟨90, (.seq (.region false [⟨0, (some 13), .load1 (.tmp 1), none, []⟩, ⟨1, (some 14), .move (.tmp 0), none, []⟩, ⟨2, (some 15), .callF 61 [(.tmp 13), (.tmp 14)], none, []⟩, ⟨3, (some 7), .move (.tmp 15), none, []⟩])
 (.seq (.region false [⟨0, (some 8), .move (.const (.bool true)), none, []⟩, ⟨1, (some 9), .move (.const (.bool true)), none, []⟩])
 (.seq (.seq (.region false [⟨0, (some 16), .move (.tmp 7), none, []⟩, ⟨1, (some 17), .len (.tmp 16), none, []⟩, ⟨2, (some 18), .move (.const (.int .i64 0)), none, []⟩])
 (.block 0 (.loop (.seq (.region false [⟨0, (some 19), .ibin .lss .i64 (.tmp 18) (.tmp 17), none, []⟩])
 (.seq (.cond (.tmp 19) .skip (.exit 0))
 (.seq (.block 1 (.seq (.region false [⟨0, (some 20), .move (.tmp 18), none, []⟩, ⟨1, (some 10), .move (.tmp 20), none, []⟩])
 (.seq (.region false [⟨0, (some 11), .move (.const (.int .i64 0)), none, []⟩])
 (.seq (.seq (.region false [⟨0, (some 21), .move (.tmp 7), none, []⟩, ⟨1, (some 22), .len (.tmp 21), none, []⟩, ⟨2, (some 23), .move (.const (.int .i64 0)), none, []⟩])
 (.block 2 (.loop (.seq (.region false [⟨0, (some 24), .ibin .lss .i64 (.tmp 23) (.tmp 22), none, []⟩])
 (.seq (.cond (.tmp 24) .skip (.exit 2))
 (.seq (.block 3 (.seq (.region false [⟨0, (some 25), .move (.tmp 23), none, []⟩, ⟨1, (some 12), .move (.tmp 25), none, []⟩])
 (.seq (.region false [⟨0, (some 26), .move (.tmp 11), none, []⟩, ⟨1, (some 27), .move (.tmp 7), none, []⟩, ⟨2, (some 28), .move (.tmp 10), none, []⟩, ⟨3, (some 29), .idxS (.tmp 27) (.tmp 28) 1, none, []⟩, ⟨4, (some 30), .load1 (.tmp 29), none, []⟩, ⟨5, (some 31), .move (.tmp 12), none, []⟩, ⟨6, (some 32), .idxS (.tmp 30) (.tmp 31) 1, none, []⟩, ⟨7, (some 33), .load1 (.tmp 32), none, []⟩, ⟨8, (some 34), .ibin .add .i64 (.tmp 26) (.tmp 33), none, []⟩, ⟨9, (some 11), .move (.tmp 34), none, []⟩])
 (.region true [⟨0, (some 35), .move (.tmp 9), none, []⟩, ⟨1, (some 36), .move (.tmp 35), none, []⟩, ⟨2, (some 37), .move (.tmp 7), (some (36, true)), []⟩, ⟨3, (some 38), .move (.tmp 10), (some (36, true)), []⟩, ⟨4, (some 39), .idxS (.tmp 37) (.tmp 38) 1, (some (36, true)), []⟩, ⟨5, (some 40), .load1 (.tmp 39), (some (36, true)), []⟩, ⟨6, (some 41), .move (.tmp 12), (some (36, true)), []⟩, ⟨7, (some 42), .idxS (.tmp 40) (.tmp 41) 1, (some (36, true)), []⟩, ⟨8, (some 43), .load1 (.tmp 42), (some (36, true)), []⟩, ⟨9, (some 44), .move (.tmp 7), (some (36, true)), []⟩, ⟨10, (some 45), .move (.tmp 10), (some (36, true)), []⟩, ⟨11, (some 46), .idxS (.tmp 44) (.tmp 45) 1, (some (36, true)), []⟩, ⟨12, (some 47), .load1 (.tmp 46), (some (36, true)), []⟩, ⟨13, (some 48), .move (.tmp 10), (some (36, true)), []⟩, ⟨14, (some 49), .idxS (.tmp 47) (.tmp 48) 1, (some (36, true)), []⟩, ⟨15, (some 50), .load1 (.tmp 49), (some (36, true)), []⟩, ⟨16, (some 51), .ibin .leq .i64 (.tmp 43) (.tmp 50), (some (36, true)), []⟩, ⟨17, (some 52), .pick (.tmp 36) (.tmp 51) (.const (.bool false)), none, []⟩, ⟨18, (some 9), .move (.tmp 52), none, []⟩]))))
 (.region false [⟨0, (some 53), .ibin .add .i64 (.tmp 23) (.const (.int .i64 1)), none, []⟩, ⟨1, (some 23), .move (.tmp 53), none, []⟩])))))))
 (.region true [⟨0, (some 54), .move (.tmp 8), none, []⟩, ⟨1, (some 55), .move (.tmp 54), none, []⟩, ⟨2, (some 56), .load1 (.tmp 2), (some (55, true)), []⟩, ⟨3, (some 57), .move (.tmp 7), (some (55, true)), []⟩, ⟨4, (some 58), .move (.tmp 10), (some (55, true)), []⟩, ⟨5, (some 59), .idxS (.tmp 57) (.tmp 58) 1, (some (55, true)), []⟩, ⟨6, (some 60), .load1 (.tmp 59), (some (55, true)), []⟩, ⟨7, (some 61), .move (.tmp 10), (some (55, true)), []⟩, ⟨8, (some 62), .idxS (.tmp 60) (.tmp 61) 1, (some (55, true)), []⟩, ⟨9, (some 63), .load1 (.tmp 62), (some (55, true)), []⟩, ⟨10, (some 64), .ibin .mul .i64 (.tmp 56) (.tmp 63), (some (55, true)), []⟩, ⟨11, (some 65), .move (.tmp 11), (some (55, true)), []⟩, ⟨12, (some 66), .ibin .geq .i64 (.tmp 64) (.tmp 65), (some (55, true)), []⟩, ⟨13, (some 67), .pick (.tmp 55) (.tmp 66) (.const (.bool false)), none, []⟩, ⟨14, (some 8), .move (.tmp 67), none, []⟩])))))
 (.region false [⟨0, (some 68), .ibin .add .i64 (.tmp 18) (.const (.int .i64 1)), none, []⟩, ⟨1, (some 18), .move (.tmp 68), none, []⟩])))))))
 (.seq (.seq (.region false [⟨0, (some 69), .move (.tmp 9), none, []⟩, ⟨1, (some 70), .move (.tmp 69), none, []⟩, ⟨2, (some 71), .move (.tmp 8), (some (70, true)), []⟩, ⟨3, (some 72), .not (.tmp 71), (some (70, true)), []⟩, ⟨4, (some 73), .pick (.tmp 70) (.tmp 72) (.const (.bool false)), none, []⟩, ⟨5, (some 74), .move (.tmp 73), none, []⟩, ⟨6, (some 75), .load1 (.tmp 2), (some (74, false)), []⟩, ⟨7, (some 76), .ibin .eql .i64 (.tmp 75) (.const (.int .i64 2)), (some (74, false)), []⟩, ⟨8, (some 77), .move (.tmp 76), (some (74, false)), []⟩, ⟨9, (some 78), .move (.tmp 9), (some (77, true)), []⟩, ⟨10, (some 79), .move (.tmp 8), (some (77, true)), []⟩, ⟨11, (some 80), .plain ⟨(some 80), .binOp .neq 4 (.tmp 78) (.tmp 79) 4, 4, (String.ofList [Char.ofNat 111, Char.ofNat 117, Char.ofNat 116, Char.ofNat 114, Char.ofNat 105, Char.ofNat 103, Char.ofNat 104, Char.ofNat 116, Char.ofNat 46, Char.ofNat 103, Char.ofNat 111, Char.ofNat 58, Char.ofNat 50, Char.ofNat 52, Char.ofNat 55]), #[⟨9, .data⟩, ⟨10, .data⟩, ⟨8, .guard⟩], (some (8, true))⟩, (some (77, true)), []⟩, ⟨12, (some 81), .pick (.tmp 77) (.tmp 80) (.const (.bool false)), (some (74, false)), []⟩, ⟨13, (some 82), .pick (.tmp 74) (.const (.bool true)) (.tmp 81), none, []⟩])
 (.cond (.tmp 82) (.region false [⟨0, none, .store (.tmp 3) (.const (.bool false)) 1, none, []⟩]) .skip))
 (.seq (.region false [⟨0, (some 83), .move (.tmp 9), none, []⟩])
 (.cond (.tmp 83) (.seq (.seq (.region false [⟨0, (some 84), .load1 (.tmp 4), none, []⟩, ⟨1, (some 85), .ibin .eql .i64 (.tmp 84) (.const (.int .i64 0)), none, []⟩])
 (.cond (.tmp 85) (.region false [⟨0, (some 86), .move (.tmp 0), none, []⟩, ⟨1, (some 87), .callF 62 [(.tmp 86)], none, []⟩, ⟨2, none, .store (.tmp 5) (.tmp 87) 1, none, []⟩]) .skip))
 (.region false [⟨0, (some 88), .load1 (.tmp 4), none, []⟩, ⟨1, (some 89), .ibin .add .i64 (.tmp 88) (.const (.int .i64 1)), none, []⟩, ⟨2, none, .store (.tmp 4) (.tmp 89) 1, none, []⟩])) .skip)))))), []⟩
/- bellarmine/share.checked -/
def pf70 : PF := ⟨30, (.seq (.region false [⟨0, (some 4), .new 78 [(.slice none 0 0), (.slice none 0 0)], none, []⟩, ⟨1, (some 5), .move (.const (.int .i64 0)), none, []⟩])
 (.seq (.seq (.region false [⟨0, (some 7), .move (.tmp 0), none, []⟩, ⟨1, (some 8), .callF 27 [(.tmp 7)], none, []⟩, ⟨2, (some 6), .move (.tmp 8), none, []⟩])
 (.seq (.region false [⟨0, (some 9), .move (.tmp 6), none, []⟩, ⟨1, (some 10), .ibin .neq .i64 (.tmp 9) (.const (.int .i64 0)), none, []⟩])
 (.cond (.tmp 10) (.seq (.region false [⟨0, (some 11), .bldT [(.slice none 0 0), (.slice none 0 0)] [(0, 1), (1, 1)] [], none, []⟩, ⟨1, (some 12), .move (.tmp 6), none, []⟩, ⟨2, none, .store (.tmp 4) (.tmp 11) 2, none, []⟩, ⟨3, (some 5), .move (.tmp 12), none, []⟩])
 .ret) .skip)))
 (.seq (.seq (.region false [⟨0, (some 13), .move (.tmp 1), none, []⟩, ⟨1, (some 14), .len (.tmp 13), none, []⟩, ⟨2, (some 15), .move (.tmp 0), none, []⟩, ⟨3, (some 16), .idxS (.tmp 15) (.const (.int .i64 0)) 1, none, []⟩, ⟨4, (some 17), .load1 (.tmp 16), none, []⟩, ⟨5, (some 18), .len (.tmp 17), none, []⟩, ⟨6, (some 19), .ibin .neq .i64 (.tmp 14) (.tmp 18), none, []⟩])
 (.cond (.tmp 19) (.seq (.region false [⟨0, (some 20), .bldT [(.slice none 0 0), (.slice none 0 0)] [(0, 1), (1, 1)] [], none, []⟩, ⟨1, none, .store (.tmp 4) (.tmp 20) 2, none, []⟩, ⟨2, (some 5), .move (.const (.int .i64 5)), none, []⟩])
 .ret) .skip))
 (.seq (.seq (.region false [⟨0, (some 21), .move (.tmp 0), none, []⟩, ⟨1, (some 22), .len (.tmp 21), none, []⟩, ⟨2, (some 23), .move (.tmp 1), none, []⟩, ⟨3, (some 24), .callF 83 [(.tmp 22), (.tmp 23)], none, []⟩, ⟨4, (some 25), .not (.tmp 24), none, []⟩])
 (.cond (.tmp 25) (.seq (.region false [⟨0, (some 26), .bldT [(.slice none 0 0), (.slice none 0 0)] [(0, 1), (1, 1)] [], none, []⟩, ⟨1, none, .store (.tmp 4) (.tmp 26) 2, none, []⟩, ⟨2, (some 5), .move (.const (.int .i64 2)), none, []⟩])
 .ret) .skip))
 (.seq (.region false [⟨0, (some 27), .move (.tmp 0), none, []⟩, ⟨1, (some 28), .move (.tmp 1), none, []⟩, ⟨2, (some 29), .callF 92 [(.tmp 27), (.tmp 28)], none, []⟩, ⟨3, none, .store (.tmp 4) (.tmp 29) 2, none, []⟩, ⟨4, (some 5), .move (.const (.int .i64 0)), none, []⟩])
 .ret))))), [.cell 4 (some 2), .tmp 5]⟩
/- bellarmine/share.ask[int] -/
def pf71 : PF := ⟨26, (.seq (.region false [⟨0, (some 4), .move (.const (.slice none 0 0)), none, []⟩])
 (.seq (.region false [⟨0, (some 8), .move (.tmp 1), none, []⟩, ⟨1, (some 9), .len (.tmp 8), none, []⟩, ⟨2, (some 10), .mkS 3 [(.int .i64 0)] (.tmp 9) (.tmp 9), none, []⟩, ⟨3, (some 5), .move (.tmp 10), none, []⟩])
 (.seq (.seq (.region false [⟨0, (some 11), .move (.tmp 1), none, []⟩, ⟨1, (some 12), .len (.tmp 11), none, []⟩, ⟨2, (some 13), .move (.const (.int .i64 0)), none, []⟩])
 (.block 0 (.loop (.seq (.region false [⟨0, (some 14), .ibin .lss .i64 (.tmp 13) (.tmp 12), none, []⟩])
 (.seq (.cond (.tmp 14) .skip (.exit 0))
 (.seq (.block 1 (.seq (.region false [⟨0, (some 15), .move (.tmp 13), none, []⟩, ⟨1, (some 16), .idxS (.tmp 11) (.tmp 13) 1, none, []⟩, ⟨2, (some 17), .load1 (.tmp 16), none, []⟩, ⟨3, (some 6), .move (.tmp 15), none, []⟩, ⟨4, (some 7), .move (.tmp 17), none, []⟩])
 (.region false [⟨0, (some 18), .move (.tmp 5), none, []⟩, ⟨1, (some 19), .move (.tmp 6), none, []⟩, ⟨2, (some 20), .move (.tmp 0), none, []⟩, ⟨3, (some 21), .move (.tmp 7), none, []⟩, ⟨4, (some 22), .callV (.tmp 20) [(.tmp 21)], none, []⟩, ⟨5, (some 23), .idxS (.tmp 18) (.tmp 19) 1, none, []⟩, ⟨6, none, .store (.tmp 23) (.tmp 22) 1, none, []⟩])))
 (.region false [⟨0, (some 24), .ibin .add .i64 (.tmp 13) (.const (.int .i64 1)), none, []⟩, ⟨1, (some 13), .move (.tmp 24), none, []⟩])))))))
 (.seq (.region false [⟨0, (some 25), .move (.tmp 5), none, []⟩, ⟨1, (some 4), .move (.tmp 25), none, []⟩])
 .ret)))), [.tmp 4]⟩
/- (bellarmine/share.finder).worth -/
def pf72 : PF := ⟨23, (.seq (.region false [⟨0, (some 4), .move (.const (.int .i64 0)), none, []⟩])
 (.seq (.region false [⟨0, (some 5), .move (.const (.int .i64 0)), none, []⟩])
 (.seq (.seq (.region false [⟨0, (some 8), .move (.tmp 0), none, []⟩, ⟨1, (some 9), .len (.tmp 8), none, []⟩, ⟨2, (some 10), .move (.const (.int .i64 0)), none, []⟩])
 (.block 0 (.loop (.seq (.region false [⟨0, (some 11), .ibin .lss .i64 (.tmp 10) (.tmp 9), none, []⟩])
 (.seq (.cond (.tmp 11) .skip (.exit 0))
 (.seq (.block 1 (.seq (.region false [⟨0, (some 12), .move (.tmp 10), none, []⟩, ⟨1, (some 13), .idxS (.tmp 8) (.tmp 10) 1, none, []⟩, ⟨2, (some 14), .load1 (.tmp 13), none, []⟩, ⟨3, (some 6), .move (.tmp 12), none, []⟩, ⟨4, (some 7), .move (.tmp 14), none, []⟩])
 (.seq (.region false [⟨0, (some 15), .move (.tmp 1), none, []⟩, ⟨1, (some 16), .move (.tmp 6), none, []⟩, ⟨2, (some 17), .callF 104 [(.tmp 15), (.tmp 16)], none, []⟩])
 (.cond (.tmp 17) (.region false [⟨0, (some 18), .move (.tmp 5), none, []⟩, ⟨1, (some 19), .move (.tmp 7), none, []⟩, ⟨2, (some 20), .ibin .add .i64 (.tmp 18) (.tmp 19), none, []⟩, ⟨3, (some 5), .move (.tmp 20), none, []⟩]) .skip))))
 (.region false [⟨0, (some 21), .ibin .add .i64 (.tmp 10) (.const (.int .i64 1)), none, []⟩, ⟨1, (some 10), .move (.tmp 21), none, []⟩])))))))
 (.seq (.region false [⟨0, (some 22), .move (.tmp 5), none, []⟩, ⟨1, (some 4), .move (.tmp 22), none, []⟩])
 .ret)))), [.tmp 4]⟩
/- (bellarmine/share.division).pairs -/
def pf76 : PF := ⟨6, (.seq (.region false [⟨0, (some 2), .box 78 (.tmp 0), none, []⟩, ⟨1, (some 3), .box 90 (.tmp 1), none, []⟩, ⟨2, (some 4), .move (.const .nilFunc), none, []⟩])
 (.seq (.region false [⟨0, (some 5), .mkF (.func 106) #[] #[(.tmp 2), (.tmp 3)], none, []⟩, ⟨1, (some 4), .move (.tmp 5), none, []⟩])
 .ret)), [.tmp 4]⟩
/- (bellarmine/share.finder).envies -/
def pf77 : PF := ⟨10, (.seq (.region false [⟨0, (some 2), .box 83 (.tmp 0), none, []⟩, ⟨1, (some 4), .move (.const .nilFunc), none, []⟩])
 (.seq (.region false [⟨0, (some 6), .load1 (.tmp 2), none, []⟩, ⟨1, (some 7), .move (.tmp 1), none, []⟩, ⟨2, (some 8), .callF 72 [(.tmp 6), (.tmp 7)], none, []⟩, ⟨3, (some 5), .new 3 [(.int .i64 0)], none, []⟩, ⟨4, none, .store (.tmp 5) (.tmp 8) 1, none, []⟩])
 (.seq (.region false [⟨0, (some 9), .mkF (.func 108) #[] #[(.tmp 2), (.tmp 5)], none, []⟩, ⟨1, (some 4), .move (.tmp 9), none, []⟩])
 .ret))), [.tmp 4]⟩
/- (bellarmine/share.division).isFair -/
def pf79 : PF := ⟨12, (.seq (.region false [⟨0, (some 1), .box 78 (.tmp 0), none, []⟩, ⟨1, (some 2), .move (.const (.bool false)), none, []⟩])
 (.seq (.region false [⟨0, (some 6), .loadN (.tmp 1) 2, none, []⟩, ⟨1, (some 7), .callF 80 [(.tmp 6), (.func 77)], none, []⟩, ⟨2, (some 5), .move (.tmp 7), none, []⟩, ⟨3, (some 8), .ext (.tmp 5) 0, none, []⟩, ⟨4, (some 9), .ext (.tmp 5) 1, none, []⟩, ⟨5, (some 3), .new 58 [(.int .i64 0), (.int .i64 0)], none, []⟩, ⟨6, none, .store (.tmp 3) (.tmp 8) 2, none, []⟩, ⟨7, (some 4), .move (.tmp 9), none, []⟩])
 (.seq (.region false [⟨0, (some 10), .move (.tmp 4), none, []⟩, ⟨1, (some 11), .not (.tmp 10), none, []⟩, ⟨2, (some 2), .move (.tmp 11), none, []⟩])
 .ret))), [.tmp 2]⟩
/- (bellarmine/share.division).first -/
def pf80 : PF := ⟨13, (.seq (.region false [⟨0, (some 2), .box 78 (.tmp 0), none, []⟩, ⟨1, (some 4), .new 58 [(.int .i64 0), (.int .i64 0)], none, []⟩, ⟨2, (some 5), .new 4 [(.bool false)], none, []⟩])
 (.seq (.seq (.region false [⟨0, (some 7), .loadN (.tmp 2) 2, none, []⟩, ⟨1, (some 8), .move (.tmp 1), none, []⟩, ⟨2, (some 9), .callF 76 [(.tmp 7), (.tmp 8)], none, []⟩])
 (.block 0 (.rangeFunc (.tmp 9) [10] (.region false [⟨0, (some 6), .new 58 [(.int .i64 0), (.int .i64 0)], none, []⟩, ⟨1, none, .store (.tmp 6) (.tmp 10) 2, none, []⟩]) (.block 1 (.seq (.region false [⟨0, (some 11), .loadN (.tmp 6) 2, none, []⟩, ⟨1, none, .store (.tmp 4) (.tmp 11) 2, none, []⟩, ⟨2, none, .store (.tmp 5) (.const (.bool true)) 1, none, []⟩])
 .ret)))))
 (.seq (.region false [⟨0, (some 12), .bldA [(.int .i64 0), (.int .i64 0)] 1 [], none, []⟩, ⟨1, none, .store (.tmp 4) (.tmp 12) 2, none, []⟩, ⟨2, none, .store (.tmp 5) (.const (.bool false)) 1, none, []⟩])
 .ret))), [.cell 4 (some 2), .cell 5 none]⟩
/- (bellarmine/share.finder).enviesByMore -/
def pf81 : PF := ⟨10, (.seq (.region false [⟨0, (some 4), .move (.const .nilFunc), none, []⟩])
 (.seq (.region false [⟨0, (some 6), .move (.tmp 0), none, []⟩, ⟨1, (some 7), .move (.tmp 1), none, []⟩, ⟨2, (some 8), .callF 77 [(.tmp 6), (.tmp 7)], none, []⟩, ⟨3, (some 5), .new 121 [.nilFunc], none, []⟩, ⟨4, none, .store (.tmp 5) (.tmp 8) 1, none, []⟩])
 (.seq (.region false [⟨0, (some 9), .mkF (.func 109) #[] #[(.tmp 5)], none, []⟩, ⟨1, (some 4), .move (.tmp 9), none, []⟩])
 .ret))), [.tmp 4]⟩
/- bellarmine/share.areBelow -/
def pf83 : PF := ⟨21, (.seq (.region false [⟨0, (some 4), .move (.const (.bool false)), none, []⟩])
 (.seq (.seq (.region false [⟨0, (some 7), .move (.tmp 1), none, []⟩, ⟨1, (some 8), .len (.tmp 7), none, []⟩, ⟨2, (some 9), .move (.const (.int .i64 0)), none, []⟩])
 (.block 0 (.loop (.seq (.region false [⟨0, (some 10), .ibin .lss .i64 (.tmp 9) (.tmp 8), none, []⟩])
 (.seq (.cond (.tmp 10) .skip (.exit 0))
 (.seq (.block 1 (.seq (.region false [⟨0, (some 11), .idxS (.tmp 7) (.tmp 9) 1, none, []⟩, ⟨1, (some 12), .load1 (.tmp 11), none, []⟩, ⟨2, (some 6), .move (.tmp 12), none, []⟩])
 (.seq (.region false [⟨0, (some 13), .move (.tmp 6), none, []⟩, ⟨1, (some 14), .ibin .lss .i64 (.tmp 13) (.const (.int .i64 0)), none, []⟩, ⟨2, (some 15), .move (.tmp 14), none, []⟩, ⟨3, (some 16), .move (.tmp 6), (some (15, false)), []⟩, ⟨4, (some 17), .move (.tmp 0), (some (15, false)), []⟩, ⟨5, (some 18), .ibin .geq .i64 (.tmp 16) (.tmp 17), (some (15, false)), []⟩, ⟨6, (some 19), .pick (.tmp 15) (.const (.bool true)) (.tmp 18), none, []⟩])
 (.cond (.tmp 19) (.seq (.region false [⟨0, (some 4), .move (.const (.bool false)), none, []⟩])
 .ret) .skip))))
 (.region false [⟨0, (some 20), .ibin .add .i64 (.tmp 9) (.const (.int .i64 1)), none, []⟩, ⟨1, (some 9), .move (.tmp 20), none, []⟩])))))))
 (.seq (.region false [⟨0, (some 4), .move (.const (.bool true)), none, []⟩])
 .ret))), [.tmp 4]⟩
/- bellarmine/share.byTurns -/
def pf85 : PF := ⟨44, (.seq (.region false [⟨0, (some 4), .new 78 [(.slice none 0 0), (.slice none 0 0)], none, []⟩])
 (.seq (.region false [⟨0, (some 10), .move (.tmp 0), none, []⟩, ⟨1, (some 11), .callF 92 [(.tmp 10), (.const (.slice none 0 0))], none, []⟩, ⟨2, (some 5), .new 78 [(.slice none 0 0), (.slice none 0 0)], none, []⟩, ⟨3, none, .store (.tmp 5) (.tmp 11) 2, none, []⟩])
 (.seq (.region false [⟨0, (some 12), .move (.tmp 0), none, []⟩, ⟨1, (some 13), .idxS (.tmp 12) (.const (.int .i64 0)) 1, none, []⟩, ⟨2, (some 14), .load1 (.tmp 13), none, []⟩, ⟨3, (some 15), .len (.tmp 14), none, []⟩, ⟨4, (some 16), .callF 112 [(.tmp 15)], none, []⟩, ⟨5, (some 17), .ibin .sub .u64 (.tmp 16) (.const (.int .u64 1)), none, []⟩, ⟨6, (some 6), .move (.tmp 17), none, []⟩])
 (.seq (.seq (.region false [⟨0, (some 7), .move (.const (.int .i64 0)), none, []⟩])
 (.block 0 (.loop (.seq (.seq (.region false [⟨0, (some 18), .move (.tmp 6), none, []⟩, ⟨1, (some 19), .ibin .neq .u64 (.tmp 18) (.const (.int .u64 0)), none, []⟩])
 (.cond (.tmp 19) .skip (.exit 0)))
 (.seq (.block 1 (.seq (.region false [⟨0, (some 22), .move (.tmp 1), none, []⟩, ⟨1, (some 23), .move (.tmp 7), none, []⟩, ⟨2, (some 24), .move (.tmp 1), none, []⟩, ⟨3, (some 25), .len (.tmp 24), none, []⟩, ⟨4, (some 26), .ibin .rem .i64 (.tmp 23) (.tmp 25), none, []⟩, ⟨5, (some 27), .idxS (.tmp 22) (.tmp 26) 1, none, []⟩, ⟨6, (some 28), .load1 (.tmp 27), none, []⟩, ⟨7, (some 8), .move (.tmp 28), none, []⟩])
 (.seq (.region false [⟨0, (some 29), .move (.tmp 0), none, []⟩, ⟨1, (some 30), .move (.tmp 8), none, []⟩, ⟨2, (some 31), .idxS (.tmp 29) (.tmp 30) 1, none, []⟩, ⟨3, (some 32), .load1 (.tmp 31), none, []⟩, ⟨4, (some 33), .move (.tmp 6), none, []⟩, ⟨5, (some 34), .callF 113 [(.tmp 32), (.tmp 33)], none, []⟩, ⟨6, (some 9), .move (.tmp 34), none, []⟩])
 (.seq (.region false [⟨0, (some 35), .loadN (.tmp 5) 2, none, []⟩, ⟨1, (some 36), .move (.tmp 9), none, []⟩, ⟨2, (some 37), .move (.tmp 8), none, []⟩, ⟨3, (some 38), .callF 114 [(.tmp 35), (.tmp 36), (.tmp 37)], none, []⟩])
 (.region false [⟨0, (some 39), .move (.tmp 6), none, []⟩, ⟨1, (some 40), .move (.tmp 9), none, []⟩, ⟨2, (some 41), .callF 112 [(.tmp 40)], none, []⟩, ⟨3, (some 42), .ibin .andNot .u64 (.tmp 39) (.tmp 41), none, []⟩, ⟨4, (some 6), .move (.tmp 42), none, []⟩])))))
 (.region false [⟨0, (some 20), .move (.tmp 7), none, []⟩, ⟨1, (some 21), .ibin .add .i64 (.tmp 20) (.const (.int .i64 1)), none, []⟩, ⟨2, (some 7), .move (.tmp 21), none, []⟩]))))))
 (.seq (.region false [⟨0, (some 43), .loadN (.tmp 5) 2, none, []⟩, ⟨1, none, .store (.tmp 4) (.tmp 43) 2, none, []⟩])
 .ret))))), [.cell 4 (some 2)]⟩
/- (bellarmine/share.division).owners -/
def pf86 : PF := ⟨25, (.seq (.region false [⟨0, (some 1), .box 78 (.tmp 0), none, []⟩, ⟨1, (some 2), .move (.const (.slice none 0 0)), none, []⟩])
 (.seq (.region false [⟨0, (some 5), .fieldAddr (.tmp 1) 0, none, []⟩, ⟨1, (some 6), .load1 (.tmp 5), none, []⟩, ⟨2, (some 7), .idxS (.tmp 6) (.const (.int .i64 0)) 1, none, []⟩, ⟨3, (some 8), .load1 (.tmp 7), none, []⟩, ⟨4, (some 9), .len (.tmp 8), none, []⟩, ⟨5, (some 10), .mkS 3 [(.int .i64 0)] (.tmp 9) (.tmp 9), none, []⟩, ⟨6, (some 3), .move (.tmp 10), none, []⟩])
 (.seq (.seq (.region false [⟨0, (some 11), .move (.tmp 3), none, []⟩, ⟨1, (some 12), .len (.tmp 11), none, []⟩, ⟨2, (some 13), .move (.const (.int .i64 0)), none, []⟩])
 (.block 0 (.loop (.seq (.region false [⟨0, (some 14), .ibin .lss .i64 (.tmp 13) (.tmp 12), none, []⟩])
 (.seq (.cond (.tmp 14) .skip (.exit 0))
 (.seq (.block 1 (.seq (.region false [⟨0, (some 15), .move (.tmp 13), none, []⟩, ⟨1, (some 4), .new 3 [(.int .i64 0)], none, []⟩, ⟨2, none, .store (.tmp 4) (.tmp 15) 1, none, []⟩])
 (.region true [⟨0, (some 16), .move (.tmp 3), none, []⟩, ⟨1, (some 17), .load1 (.tmp 4), none, []⟩, ⟨2, (some 18), .fieldAddr (.tmp 1) 1, none, []⟩, ⟨3, (some 19), .load1 (.tmp 18), none, []⟩, ⟨4, (some 20), .mkF (.func 116) #[] #[(.tmp 4)], none, []⟩, ⟨5, (some 21), .callF 115 [(.tmp 19), (.tmp 20)], none, [1]⟩, ⟨6, (some 22), .idxS (.tmp 16) (.tmp 17) 1, none, []⟩, ⟨7, none, .store (.tmp 22) (.tmp 21) 1, none, []⟩])))
 (.region false [⟨0, (some 23), .ibin .add .i64 (.tmp 13) (.const (.int .i64 1)), none, []⟩, ⟨1, (some 13), .move (.tmp 23), none, []⟩])))))))
 (.seq (.region false [⟨0, (some 24), .move (.tmp 3), none, []⟩, ⟨1, (some 2), .move (.tmp 24), none, []⟩])
 .ret)))), [.tmp 2]⟩
/- bellarmine/share.oneAfterOther -/
def pf88 : PF := ⟨31, (.seq (.region false [⟨0, (some 2), .new 78 [(.slice none 0 0), (.slice none 0 0)], none, []⟩])
 (.seq (.region false [⟨0, (some 6), .move (.tmp 0), none, []⟩, ⟨1, (some 7), .callF 92 [(.tmp 6), (.const (.slice none 0 0))], none, []⟩, ⟨2, (some 3), .new 78 [(.slice none 0 0), (.slice none 0 0)], none, []⟩, ⟨3, none, .store (.tmp 3) (.tmp 7) 2, none, []⟩])
 (.seq (.seq (.region false [⟨0, (some 8), .move (.tmp 0), none, []⟩, ⟨1, (some 9), .idxS (.tmp 8) (.const (.int .i64 0)) 1, none, []⟩, ⟨2, (some 10), .load1 (.tmp 9), none, []⟩, ⟨3, (some 11), .len (.tmp 10), none, []⟩, ⟨4, (some 12), .move (.const (.int .i64 0)), none, []⟩])
 (.block 0 (.loop (.seq (.region false [⟨0, (some 13), .ibin .lss .i64 (.tmp 12) (.tmp 11), none, []⟩])
 (.seq (.cond (.tmp 13) .skip (.exit 0))
 (.seq (.block 1 (.seq (.region false [⟨0, (some 14), .move (.tmp 12), none, []⟩, ⟨1, (some 4), .move (.tmp 14), none, []⟩])
 (.seq (.region false [⟨0, (some 15), .loadN (.tmp 3) 2, none, []⟩, ⟨1, (some 16), .callF 117 [(.tmp 15)], none, []⟩, ⟨2, (some 5), .move (.tmp 16), none, []⟩])
 (.seq (.block 2 (.loop (.seq (.seq (.region false [⟨0, (some 17), .move (.tmp 5), none, []⟩, ⟨1, (some 18), .ibin .eql .i64 (.tmp 17) (.const (.int .i64 (-1))), none, []⟩])
 (.cond (.tmp 18) .skip (.exit 2)))
 (.block 3 (.seq (.region true [⟨0, (some 19), .loadN (.tmp 3) 2, none, []⟩, ⟨1, (some 20), .loadN (.tmp 3) 2, none, []⟩, ⟨2, (some 21), .callF 119 [(.tmp 20)], none, [0]⟩, ⟨3, (some 22), .callF 118 [(.tmp 19), (.tmp 21)], none, []⟩])
 (.region false [⟨0, (some 23), .loadN (.tmp 3) 2, none, []⟩, ⟨1, (some 24), .callF 117 [(.tmp 23)], none, []⟩, ⟨2, (some 5), .move (.tmp 24), none, []⟩]))))))
 (.region false [⟨0, (some 25), .loadN (.tmp 3) 2, none, []⟩, ⟨1, (some 26), .move (.tmp 4), none, []⟩, ⟨2, (some 27), .move (.tmp 5), none, []⟩, ⟨3, (some 28), .callF 114 [(.tmp 25), (.tmp 26), (.tmp 27)], none, []⟩])))))
 (.region false [⟨0, (some 29), .ibin .add .i64 (.tmp 12) (.const (.int .i64 1)), none, []⟩, ⟨1, (some 12), .move (.tmp 29), none, []⟩])))))))
 (.seq (.region false [⟨0, (some 30), .loadN (.tmp 3) 2, none, []⟩, ⟨1, none, .store (.tmp 2) (.tmp 30) 2, none, []⟩])
 .ret)))), [.cell 2 (some 2)]⟩
/- bellarmine/share.allOwners -/
def pf91 : PF := ⟨4, (.seq (.region false [⟨0, (some 1), .box 22 (.tmp 0), none, []⟩, ⟨1, (some 2), .move (.const .nilFunc), none, []⟩])
 (.seq (.region false [⟨0, (some 3), .mkF (.func 121) #[] #[(.tmp 1)], none, []⟩, ⟨1, (some 2), .move (.tmp 3), none, []⟩])
 .ret)), [.tmp 2]⟩
/- bellarmine/share.divide -/
def pf92 : PF := ⟨26, (.seq (.region false [⟨0, (some 4), .new 78 [(.slice none 0 0), (.slice none 0 0)], none, []⟩])
 (.seq (.region false [⟨0, (some 8), .move (.tmp 0), none, []⟩, ⟨1, (some 9), .move (.tmp 0), none, []⟩, ⟨2, (some 10), .len (.tmp 9), none, []⟩, ⟨3, (some 11), .mkS 116 [(.int .u64 0)] (.tmp 10) (.tmp 10), none, []⟩, ⟨4, (some 12), .bldT [(.slice none 0 0), (.slice none 0 0)] [(0, 1), (1, 1)] [(0, (.tmp 8)), (1, (.tmp 11))], none, []⟩, ⟨5, (some 5), .new 78 [(.slice none 0 0), (.slice none 0 0)], none, []⟩, ⟨6, none, .store (.tmp 5) (.tmp 12) 2, none, []⟩])
 (.seq (.seq (.region false [⟨0, (some 13), .move (.tmp 1), none, []⟩, ⟨1, (some 14), .len (.tmp 13), none, []⟩, ⟨2, (some 15), .move (.const (.int .i64 0)), none, []⟩])
 (.block 0 (.loop (.seq (.region false [⟨0, (some 16), .ibin .lss .i64 (.tmp 15) (.tmp 14), none, []⟩])
 (.seq (.cond (.tmp 16) .skip (.exit 0))
 (.seq (.block 1 (.seq (.region false [⟨0, (some 17), .move (.tmp 15), none, []⟩, ⟨1, (some 18), .idxS (.tmp 13) (.tmp 15) 1, none, []⟩, ⟨2, (some 19), .load1 (.tmp 18), none, []⟩, ⟨3, (some 6), .move (.tmp 17), none, []⟩, ⟨4, (some 7), .move (.tmp 19), none, []⟩])
 (.region false [⟨0, (some 20), .loadN (.tmp 5) 2, none, []⟩, ⟨1, (some 21), .move (.tmp 6), none, []⟩, ⟨2, (some 22), .move (.tmp 7), none, []⟩, ⟨3, (some 23), .callF 114 [(.tmp 20), (.tmp 21), (.tmp 22)], none, []⟩])))
 (.region false [⟨0, (some 24), .ibin .add .i64 (.tmp 15) (.const (.int .i64 1)), none, []⟩, ⟨1, (some 15), .move (.tmp 24), none, []⟩])))))))
 (.seq (.region false [⟨0, (some 25), .loadN (.tmp 5) 2, none, []⟩, ⟨1, none, .store (.tmp 4) (.tmp 25) 2, none, []⟩])
 .ret)))), [.cell 4 (some 2)]⟩
/- bellarmine/share.most -/
def pf94 : PF := ⟨23, (.seq (.region false [⟨0, (some 1), .box 22 (.tmp 0), none, []⟩, ⟨1, (some 2), .move (.const (.slice none 0 0)), none, []⟩])
 (.seq (.region false [⟨0, (some 3), .new 23 [(.slice none 0 0)], none, []⟩])
 (.seq (.region false [⟨0, (some 7), .bldT [(.int .i64 0), (.int .i64 0)] [(0, 1), (1, 1)] [(0, (.const (.int .i64 (-1))))], none, []⟩, ⟨1, (some 4), .new 130 [(.int .i64 0), (.int .i64 0)], none, []⟩, ⟨2, none, .store (.tmp 4) (.tmp 7) 2, none, []⟩])
 (.seq (.seq (.region false [⟨0, (some 8), .load1 (.tmp 1), none, []⟩, ⟨1, (some 9), .callF 91 [(.tmp 8)], none, []⟩])
 (.block 0 (.rangeFunc (.tmp 9) [10] (.region false [⟨0, (some 5), .move (.tmp 10), none, []⟩]) (.block 1 (.seq (.region false [⟨0, (some 11), .load1 (.tmp 1), none, []⟩, ⟨1, (some 12), .move (.tmp 5), none, []⟩, ⟨2, (some 13), .callF 92 [(.tmp 11), (.tmp 12)], none, []⟩, ⟨3, (some 14), .callF 97 [(.tmp 13)], none, []⟩, ⟨4, (some 15), .callF 123 [(.tmp 14)], none, []⟩, ⟨5, (some 6), .new 130 [(.int .i64 0), (.int .i64 0)], none, []⟩, ⟨6, none, .store (.tmp 6) (.tmp 15) 2, none, []⟩])
 (.seq (.region false [⟨0, (some 16), .loadN (.tmp 6) 2, none, []⟩, ⟨1, (some 17), .loadN (.tmp 4) 2, none, []⟩, ⟨2, (some 18), .callF 124 [(.tmp 16), (.tmp 17)], none, []⟩])
 (.cond (.tmp 18) (.region true [⟨0, (some 19), .move (.tmp 5), none, []⟩, ⟨2, (some 21), .loadN (.tmp 6) 2, none, []⟩, ⟨1, (some 20), .callF 62 [(.tmp 19)], none, [2]⟩, ⟨3, none, .store (.tmp 3) (.tmp 20) 1, none, [2]⟩, ⟨4, none, .store (.tmp 4) (.tmp 21) 2, none, []⟩]) .skip)))))))
 (.seq (.region false [⟨0, (some 22), .load1 (.tmp 3), none, []⟩, ⟨1, (some 2), .move (.tmp 22), none, []⟩])
 .ret))))), [.tmp 2]⟩
/- (bellarmine/share.division).own -/
def pf97 : PF := ⟨30, (.seq (.region false [⟨0, (some 1), .box 78 (.tmp 0), none, []⟩, ⟨1, (some 2), .move (.const (.slice none 0 0)), none, []⟩])
 (.seq (.region false [⟨0, (some 6), .fieldAddr (.tmp 1) 1, none, []⟩, ⟨1, (some 7), .load1 (.tmp 6), none, []⟩, ⟨2, (some 8), .len (.tmp 7), none, []⟩, ⟨3, (some 9), .mkS 3 [(.int .i64 0)] (.tmp 8) (.tmp 8), none, []⟩, ⟨4, (some 3), .move (.tmp 9), none, []⟩])
 (.seq (.seq (.region false [⟨0, (some 10), .fieldAddr (.tmp 1) 1, none, []⟩, ⟨1, (some 11), .load1 (.tmp 10), none, []⟩, ⟨2, (some 12), .len (.tmp 11), none, []⟩, ⟨3, (some 13), .move (.const (.int .i64 0)), none, []⟩])
 (.block 0 (.loop (.seq (.region false [⟨0, (some 14), .ibin .lss .i64 (.tmp 13) (.tmp 12), none, []⟩])
 (.seq (.cond (.tmp 14) .skip (.exit 0))
 (.seq (.block 1 (.seq (.region false [⟨0, (some 15), .move (.tmp 13), none, []⟩, ⟨1, (some 16), .idxS (.tmp 11) (.tmp 13) 1, none, []⟩, ⟨2, (some 17), .load1 (.tmp 16), none, []⟩, ⟨3, (some 4), .move (.tmp 15), none, []⟩, ⟨4, (some 5), .move (.tmp 17), none, []⟩])
 (.region false [⟨0, (some 18), .move (.tmp 3), none, []⟩, ⟨1, (some 19), .move (.tmp 4), none, []⟩, ⟨2, (some 20), .fieldAddr (.tmp 1) 0, none, []⟩, ⟨3, (some 21), .load1 (.tmp 20), none, []⟩, ⟨4, (some 22), .move (.tmp 4), none, []⟩, ⟨5, (some 23), .idxS (.tmp 21) (.tmp 22) 1, none, []⟩, ⟨6, (some 24), .load1 (.tmp 23), none, []⟩, ⟨7, (some 25), .move (.tmp 5), none, []⟩, ⟨8, (some 26), .callF 72 [(.tmp 24), (.tmp 25)], none, []⟩, ⟨9, (some 27), .idxS (.tmp 18) (.tmp 19) 1, none, []⟩, ⟨10, none, .store (.tmp 27) (.tmp 26) 1, none, []⟩])))
 (.region false [⟨0, (some 28), .ibin .add .i64 (.tmp 13) (.const (.int .i64 1)), none, []⟩, ⟨1, (some 13), .move (.tmp 28), none, []⟩])))))))
 (.seq (.region false [⟨0, (some 29), .move (.tmp 3), none, []⟩, ⟨1, (some 2), .move (.tmp 29), none, []⟩])
 .ret)))), [.tmp 2]⟩
/- bellarmine/share.isBetter -/
def pf98 : PF := ⟨32, (.seq (.region false [⟨0, (some 4), .move (.const (.bool false)), none, []⟩])
 (.seq (.region false [⟨0, (some 5), .move (.const (.bool false)), none, []⟩])
 (.seq (.seq (.region false [⟨0, (some 8), .move (.tmp 0), none, []⟩, ⟨1, (some 9), .len (.tmp 8), none, []⟩, ⟨2, (some 10), .move (.const (.int .i64 0)), none, []⟩])
 (.block 0 (.loop (.seq (.region false [⟨0, (some 11), .ibin .lss .i64 (.tmp 10) (.tmp 9), none, []⟩])
 (.seq (.cond (.tmp 11) .skip (.exit 0))
 (.seq (.block 1 (.seq (.region false [⟨0, (some 12), .move (.tmp 10), none, []⟩, ⟨1, (some 13), .idxS (.tmp 8) (.tmp 10) 1, none, []⟩, ⟨2, (some 14), .load1 (.tmp 13), none, []⟩, ⟨3, (some 6), .move (.tmp 12), none, []⟩, ⟨4, (some 7), .move (.tmp 14), none, []⟩])
 (.seq (.seq (.region false [⟨0, (some 15), .move (.tmp 7), none, []⟩, ⟨1, (some 16), .move (.tmp 1), none, []⟩, ⟨2, (some 17), .move (.tmp 6), none, []⟩, ⟨3, (some 18), .idxS (.tmp 16) (.tmp 17) 1, none, []⟩, ⟨4, (some 19), .load1 (.tmp 18), none, []⟩, ⟨5, (some 20), .ibin .lss .i64 (.tmp 15) (.tmp 19), none, []⟩])
 (.cond (.tmp 20) (.seq (.region false [⟨0, (some 4), .move (.const (.bool false)), none, []⟩])
 .ret) .skip))
 (.region false [⟨0, (some 21), .move (.tmp 5), none, []⟩, ⟨1, (some 22), .move (.tmp 21), none, []⟩, ⟨2, (some 23), .move (.tmp 7), (some (22, false)), []⟩, ⟨3, (some 24), .move (.tmp 1), (some (22, false)), []⟩, ⟨4, (some 25), .move (.tmp 6), (some (22, false)), []⟩, ⟨5, (some 26), .idxS (.tmp 24) (.tmp 25) 1, (some (22, false)), []⟩, ⟨6, (some 27), .load1 (.tmp 26), (some (22, false)), []⟩, ⟨7, (some 28), .ibin .gtr .i64 (.tmp 23) (.tmp 27), (some (22, false)), []⟩, ⟨8, (some 29), .pick (.tmp 22) (.const (.bool true)) (.tmp 28), none, []⟩, ⟨9, (some 5), .move (.tmp 29), none, []⟩]))))
 (.region false [⟨0, (some 30), .ibin .add .i64 (.tmp 10) (.const (.int .i64 1)), none, []⟩, ⟨1, (some 10), .move (.tmp 30), none, []⟩])))))))
 (.seq (.region false [⟨0, (some 31), .move (.tmp 5), none, []⟩, ⟨1, (some 4), .move (.tmp 31), none, []⟩])
 .ret)))), [.tmp 4]⟩
/- math/bits.Mul -/
def pf100 : PF := ⟨30, (.seq (.region false [⟨0, (some 4), .move (.const (.int .u64 0)), none, []⟩, ⟨1, (some 5), .move (.const (.int .u64 0)), none, []⟩])
 (.seq (.cond (.const (.bool false)) (.seq (.region false [⟨0, (some 11), .move (.tmp 0), none, []⟩, ⟨1, (some 12), .plain ⟨(some 12), .convert 112 133 (.tmp 11), 133, (String.ofList [Char.ofNat 98, Char.ofNat 105, Char.ofNat 116, Char.ofNat 115, Char.ofNat 46, Char.ofNat 103, Char.ofNat 111, Char.ofNat 58, Char.ofNat 52, Char.ofNat 52, Char.ofNat 55]), #[⟨0, .data⟩], none⟩, none, []⟩, ⟨2, (some 13), .move (.tmp 1), none, []⟩, ⟨3, (some 14), .plain ⟨(some 14), .convert 112 133 (.tmp 13), 133, (String.ofList [Char.ofNat 98, Char.ofNat 105, Char.ofNat 116, Char.ofNat 115, Char.ofNat 46, Char.ofNat 103, Char.ofNat 111, Char.ofNat 58, Char.ofNat 52, Char.ofNat 52, Char.ofNat 55]), #[⟨2, .data⟩], none⟩, none, []⟩, ⟨4, (some 15), .callF 125 [(.tmp 12), (.tmp 14)], none, []⟩, ⟨5, (some 10), .move (.tmp 15), none, []⟩, ⟨6, (some 16), .ext (.tmp 10) 0, none, []⟩, ⟨7, (some 17), .ext (.tmp 10) 1, none, []⟩, ⟨8, (some 6), .move (.tmp 16), none, []⟩, ⟨9, (some 7), .move (.tmp 17), none, []⟩])
 (.seq (.region false [⟨0, (some 18), .move (.tmp 6), none, []⟩, ⟨1, (some 19), .plain ⟨(some 19), .convert 133 112 (.tmp 18), 112, (String.ofList [Char.ofNat 98, Char.ofNat 105, Char.ofNat 116, Char.ofNat 115, Char.ofNat 46, Char.ofNat 103, Char.ofNat 111, Char.ofNat 58, Char.ofNat 52, Char.ofNat 52, Char.ofNat 56]), #[⟨0, .data⟩], none⟩, none, []⟩, ⟨2, (some 20), .move (.tmp 7), none, []⟩, ⟨3, (some 21), .plain ⟨(some 21), .convert 133 112 (.tmp 20), 112, (String.ofList [Char.ofNat 98, Char.ofNat 105, Char.ofNat 116, Char.ofNat 115, Char.ofNat 46, Char.ofNat 103, Char.ofNat 111, Char.ofNat 58, Char.ofNat 52, Char.ofNat 52, Char.ofNat 56]), #[⟨2, .data⟩, ⟨4, (.gcOnly .lateStores)⟩], none⟩, none, []⟩, ⟨4, (some 4), .move (.tmp 19), none, []⟩, ⟨5, (some 5), .move (.tmp 21), none, []⟩])
 .ret)) .skip)
 (.seq (.region false [⟨0, (some 23), .move (.tmp 0), none, []⟩, ⟨1, (some 24), .move (.tmp 1), none, []⟩, ⟨2, (some 25), .callF 126 [(.tmp 23), (.tmp 24)], none, []⟩, ⟨3, (some 22), .move (.tmp 25), none, []⟩, ⟨4, (some 26), .ext (.tmp 22) 0, none, []⟩, ⟨5, (some 27), .ext (.tmp 22) 1, none, []⟩, ⟨6, (some 8), .move (.tmp 26), none, []⟩, ⟨7, (some 9), .move (.tmp 27), none, []⟩])
 (.seq (.region false [⟨0, (some 28), .move (.tmp 8), none, []⟩, ⟨1, (some 29), .move (.tmp 9), none, []⟩, ⟨2, (some 4), .move (.tmp 28), none, []⟩, ⟨3, (some 5), .move (.tmp 29), none, []⟩])
 .ret)))), [.tmp 4, .tmp 5]⟩
/- bellarmine/bellarminelaw07.enemy$1 -/
def pf101 : PF := ⟨20, (.seq (.region false [⟨0, (some 4), .move (.const (.bool false)), none, []⟩])
 (.seq (.region true [⟨0, (some 5), .load1 (.tmp 1), none, []⟩, ⟨1, (some 6), .move (.tmp 0), none, []⟩, ⟨2, (some 7), .idxS (.tmp 5) (.tmp 6) 1, none, []⟩, ⟨3, (some 8), .load1 (.tmp 7), none, []⟩, ⟨4, (some 9), .load1 (.tmp 2), none, []⟩, ⟨5, (some 10), .idxS (.tmp 8) (.tmp 9) 1, none, []⟩, ⟨6, (some 11), .load1 (.tmp 10), none, []⟩, ⟨7, (some 12), .load1 (.tmp 1), none, []⟩, ⟨8, (some 13), .move (.tmp 0), none, []⟩, ⟨9, (some 14), .idxS (.tmp 12) (.tmp 13) 1, none, []⟩, ⟨10, (some 15), .load1 (.tmp 14), none, []⟩, ⟨11, (some 16), .move (.tmp 0), none, []⟩, ⟨12, (some 17), .idxS (.tmp 15) (.tmp 16) 1, none, []⟩, ⟨13, (some 18), .load1 (.tmp 17), none, []⟩, ⟨14, (some 19), .ibin .gtr .i64 (.tmp 11) (.tmp 18), none, []⟩, ⟨15, (some 4), .move (.tmp 19), none, []⟩])
 .ret)), [.tmp 4]⟩
/- slices.ContainsFunc[[]int,int] -/
def pf102 : PF := ⟨9, (.seq (.region false [⟨0, (some 4), .move (.const (.bool false)), none, []⟩])
 (.seq (.region false [⟨0, (some 5), .move (.tmp 0), none, []⟩, ⟨1, (some 6), .move (.tmp 1), none, []⟩, ⟨2, (some 7), .callF 127 [(.tmp 5), (.tmp 6)], none, []⟩, ⟨3, (some 8), .ibin .geq .i64 (.tmp 7) (.const (.int .i64 0)), none, []⟩, ⟨4, (some 4), .move (.tmp 8), none, []⟩])
 .ret)), [.tmp 4]⟩
/- bellarmine/bellarminelaw07.proper$1 -/
def pf103 : PF := ⟨12, (.seq (.region false [⟨0, (some 3), .move (.const (.bool false)), none, []⟩])
 (.seq (.region false [⟨0, (some 4), .move (.tmp 0), none, []⟩, ⟨1, (some 5), .ibin .lss .i64 (.tmp 4) (.const (.int .i64 0)), none, []⟩, ⟨2, (some 6), .move (.tmp 5), none, []⟩, ⟨3, (some 7), .move (.tmp 0), (some (6, false)), []⟩, ⟨4, (some 8), .load1 (.tmp 1), (some (6, false)), []⟩, ⟨5, (some 9), .len (.tmp 8), (some (6, false)), []⟩, ⟨6, (some 10), .ibin .geq .i64 (.tmp 7) (.tmp 9), (some (6, false)), []⟩, ⟨7, (some 11), .pick (.tmp 6) (.const (.bool true)) (.tmp 10), none, []⟩, ⟨8, (some 3), .move (.tmp 11), none, []⟩])
 .ret)), [.tmp 3]⟩
/- (bellarmine/share.share).has -/
def pf104 : PF := ⟨10, (.seq (.region false [⟨0, (some 4), .move (.const (.bool false)), none, []⟩])
 (.seq (.region false [⟨0, (some 5), .move (.tmp 0), none, []⟩, ⟨1, (some 6), .move (.tmp 1), none, []⟩, ⟨2, (some 7), .callF 112 [(.tmp 6)], none, []⟩, ⟨3, (some 8), .ibin .and .u64 (.tmp 5) (.tmp 7), none, []⟩, ⟨4, (some 9), .ibin .neq .u64 (.tmp 8) (.const (.int .u64 0)), none, []⟩, ⟨5, (some 4), .move (.tmp 9), none, []⟩])
 .ret)), [.tmp 4]⟩
/- (bellarmine/share.division).pairs$1 -/
def pf106 : PF := ⟨44, (.seq (.region false [⟨0, (some 8), .fieldAddr (.tmp 1) 1, none, []⟩, ⟨1, (some 9), .load1 (.tmp 8), none, []⟩, ⟨2, (some 10), .len (.tmp 9), none, []⟩, ⟨3, (some 11), .move (.const (.int .i64 0)), none, []⟩])
 (.block 0 (.loop (.seq (.region false [⟨0, (some 12), .ibin .lss .i64 (.tmp 11) (.tmp 10), none, []⟩])
 (.seq (.cond (.tmp 12) .skip (.exit 0))
 (.seq (.block 1 (.seq (.region false [⟨0, (some 13), .move (.tmp 11), none, []⟩, ⟨1, (some 14), .idxS (.tmp 9) (.tmp 11) 1, none, []⟩, ⟨2, (some 15), .load1 (.tmp 14), none, []⟩, ⟨3, (some 4), .move (.tmp 13), none, []⟩, ⟨4, (some 5), .move (.tmp 15), none, []⟩])
 (.seq (.region true [⟨0, (some 16), .load1 (.tmp 2), none, []⟩, ⟨1, (some 17), .fieldAddr (.tmp 1) 0, none, []⟩, ⟨2, (some 18), .load1 (.tmp 17), none, []⟩, ⟨3, (some 19), .move (.tmp 4), none, []⟩, ⟨4, (some 20), .idxS (.tmp 18) (.tmp 19) 1, none, []⟩, ⟨5, (some 21), .load1 (.tmp 20), none, []⟩, ⟨6, (some 22), .move (.tmp 5), none, []⟩, ⟨8, (some 24), .fieldAddr (.tmp 1) 1, none, []⟩, ⟨9, (some 25), .load1 (.tmp 24), none, []⟩, ⟨12, (some 28), .move (.const (.int .i64 0)), none, []⟩, ⟨7, (some 23), .callV (.tmp 16) [(.tmp 21), (.tmp 22)], none, [9]⟩, ⟨10, (some 26), .callF 107 [(.tmp 23), (.tmp 25)], none, []⟩, ⟨11, (some 27), .len (.tmp 26), none, []⟩])
 (.block 2 (.loop (.seq (.region false [⟨0, (some 29), .ibin .lss .i64 (.tmp 28) (.tmp 27), none, []⟩])
 (.seq (.cond (.tmp 29) .skip (.exit 2))
 (.seq (.block 3 (.seq (.region false [⟨0, (some 30), .move (.tmp 28), none, []⟩, ⟨1, (some 31), .idxS (.tmp 26) (.tmp 28) 1, none, []⟩, ⟨2, (some 32), .load1 (.tmp 31), none, []⟩, ⟨3, (some 6), .move (.tmp 30), none, []⟩, ⟨4, (some 7), .move (.tmp 32), none, []⟩])
 (.seq (.region false [⟨0, (some 33), .move (.tmp 7), none, []⟩, ⟨1, (some 34), .move (.tmp 33), none, []⟩, ⟨2, (some 35), .move (.tmp 0), (some (34, true)), []⟩, ⟨3, (some 36), .move (.tmp 4), (some (34, true)), []⟩, ⟨4, (some 37), .move (.tmp 6), (some (34, true)), []⟩, ⟨5, (some 38), .bldA [(.int .i64 0), (.int .i64 0)] 1 [(0, (.tmp 36)), (1, (.tmp 37))], (some (34, true)), []⟩, ⟨6, (some 39), .callV (.tmp 35) [(.tmp 38)], (some (34, true)), []⟩, ⟨7, (some 40), .not (.tmp 39), (some (34, true)), []⟩, ⟨8, (some 41), .pick (.tmp 34) (.tmp 40) (.const (.bool false)), none, []⟩])
 (.cond (.tmp 41) .ret .skip))))
 (.region false [⟨0, (some 42), .ibin .add .i64 (.tmp 28) (.const (.int .i64 1)), none, []⟩, ⟨1, (some 28), .move (.tmp 42), none, []⟩])))))))))
 (.region false [⟨0, (some 43), .ibin .add .i64 (.tmp 11) (.const (.int .i64 1)), none, []⟩, ⟨1, (some 11), .move (.tmp 43), none, []⟩]))))))), []⟩
/- bellarmine/share.ask[bool] -/
def pf107 : PF := ⟨26, (.seq (.region false [⟨0, (some 4), .move (.const (.slice none 0 0)), none, []⟩])
 (.seq (.region false [⟨0, (some 8), .move (.tmp 1), none, []⟩, ⟨1, (some 9), .len (.tmp 8), none, []⟩, ⟨2, (some 10), .mkS 4 [(.bool false)] (.tmp 9) (.tmp 9), none, []⟩, ⟨3, (some 5), .move (.tmp 10), none, []⟩])
 (.seq (.seq (.region false [⟨0, (some 11), .move (.tmp 1), none, []⟩, ⟨1, (some 12), .len (.tmp 11), none, []⟩, ⟨2, (some 13), .move (.const (.int .i64 0)), none, []⟩])
 (.block 0 (.loop (.seq (.region false [⟨0, (some 14), .ibin .lss .i64 (.tmp 13) (.tmp 12), none, []⟩])
 (.seq (.cond (.tmp 14) .skip (.exit 0))
 (.seq (.block 1 (.seq (.region false [⟨0, (some 15), .move (.tmp 13), none, []⟩, ⟨1, (some 16), .idxS (.tmp 11) (.tmp 13) 1, none, []⟩, ⟨2, (some 17), .load1 (.tmp 16), none, []⟩, ⟨3, (some 6), .move (.tmp 15), none, []⟩, ⟨4, (some 7), .move (.tmp 17), none, []⟩])
 (.region false [⟨0, (some 18), .move (.tmp 5), none, []⟩, ⟨1, (some 19), .move (.tmp 6), none, []⟩, ⟨2, (some 20), .move (.tmp 0), none, []⟩, ⟨3, (some 21), .move (.tmp 7), none, []⟩, ⟨4, (some 22), .callV (.tmp 20) [(.tmp 21)], none, []⟩, ⟨5, (some 23), .idxS (.tmp 18) (.tmp 19) 1, none, []⟩, ⟨6, none, .store (.tmp 23) (.tmp 22) 1, none, []⟩])))
 (.region false [⟨0, (some 24), .ibin .add .i64 (.tmp 13) (.const (.int .i64 1)), none, []⟩, ⟨1, (some 13), .move (.tmp 24), none, []⟩])))))))
 (.seq (.region false [⟨0, (some 25), .move (.tmp 5), none, []⟩, ⟨1, (some 4), .move (.tmp 25), none, []⟩])
 .ret)))), [.tmp 4]⟩
/- (bellarmine/share.finder).envies$1 -/
def pf108 : PF := ⟨10, (.seq (.region false [⟨0, (some 4), .move (.const (.bool false)), none, []⟩])
 (.seq (.region true [⟨0, (some 5), .load1 (.tmp 1), none, []⟩, ⟨1, (some 6), .move (.tmp 0), none, []⟩, ⟨3, (some 8), .load1 (.tmp 2), none, []⟩, ⟨2, (some 7), .callF 72 [(.tmp 5), (.tmp 6)], none, [3]⟩, ⟨4, (some 9), .ibin .gtr .i64 (.tmp 7) (.tmp 8), none, []⟩, ⟨5, (some 4), .move (.tmp 9), none, []⟩])
 .ret)), [.tmp 4]⟩
/- (bellarmine/share.finder).enviesByMore$1 -/
def pf109 : PF := ⟨17, (.seq (.region false [⟨0, (some 3), .move (.const (.bool false)), none, []⟩])
 (.seq (.region false [⟨0, (some 5), .move (.tmp 0), none, []⟩, ⟨1, (some 6), .callF 110 [(.tmp 5)], none, []⟩, ⟨2, (some 4), .move (.tmp 6), none, []⟩])
 (.seq (.region false [⟨0, (some 7), .move (.tmp 4), none, []⟩, ⟨1, (some 8), .len (.tmp 7), none, []⟩, ⟨2, (some 9), .ibin .gtr .i64 (.tmp 8) (.const (.int .i64 0)), none, []⟩, ⟨3, (some 10), .move (.tmp 9), none, []⟩, ⟨4, (some 11), .load1 (.tmp 1), (some (10, true)), []⟩, ⟨5, (some 12), .move (.tmp 4), (some (10, true)), []⟩, ⟨6, (some 13), .callF 107 [(.tmp 11), (.tmp 12)], (some (10, true)), []⟩, ⟨7, (some 14), .callF 111 [(.tmp 13), (.const (.bool false))], (some (10, true)), []⟩, ⟨8, (some 15), .not (.tmp 14), (some (10, true)), []⟩, ⟨9, (some 16), .pick (.tmp 10) (.tmp 15) (.const (.bool false)), none, []⟩, ⟨10, (some 3), .move (.tmp 16), none, []⟩])
 .ret))), [.tmp 3]⟩
/- (bellarmine/share.share).lessOne -/
def pf110 : PF := ⟨20, (.seq (.region false [⟨0, (some 2), .move (.const (.slice none 0 0)), none, []⟩])
 (.seq (.region false [⟨0, (some 3), .move (.const (.slice none 0 0)), none, []⟩])
 (.seq (.seq (.region false [⟨0, (some 5), .move (.const (.int .i64 0)), none, []⟩])
 (.block 0 (.loop (.seq (.region false [⟨0, (some 6), .ibin .lss .i64 (.tmp 5) (.const (.int .i64 6)), none, []⟩])
 (.seq (.cond (.tmp 6) .skip (.exit 0))
 (.seq (.block 1 (.seq (.region false [⟨0, (some 7), .move (.tmp 5), none, []⟩, ⟨1, (some 4), .move (.tmp 7), none, []⟩])
 (.seq (.region false [⟨0, (some 8), .move (.tmp 0), none, []⟩, ⟨1, (some 9), .move (.tmp 4), none, []⟩, ⟨2, (some 10), .callF 104 [(.tmp 8), (.tmp 9)], none, []⟩])
 (.cond (.tmp 10) (.region false [⟨0, (some 11), .move (.tmp 3), none, []⟩, ⟨1, (some 12), .move (.tmp 0), none, []⟩, ⟨2, (some 13), .move (.tmp 4), none, []⟩, ⟨3, (some 14), .callF 112 [(.tmp 13)], none, []⟩, ⟨4, (some 15), .ibin .andNot .u64 (.tmp 12) (.tmp 14), none, []⟩, ⟨5, (some 16), .bldS 116 1 [(.int .u64 0)] 1 [(0, (.tmp 15))], none, []⟩, ⟨6, (some 17), .append 116 1 (.tmp 11) (.tmp 16), none, []⟩, ⟨7, (some 3), .move (.tmp 17), none, []⟩]) .skip))))
 (.region false [⟨0, (some 18), .ibin .add .i64 (.tmp 5) (.const (.int .i64 1)), none, []⟩, ⟨1, (some 5), .move (.tmp 18), none, []⟩])))))))
 (.seq (.region false [⟨0, (some 19), .move (.tmp 3), none, []⟩, ⟨1, (some 2), .move (.tmp 19), none, []⟩])
 .ret)))), [.tmp 2]⟩
/- slices.Contains[[]bool,bool] -/
def pf111 : PF := ⟨9, (.seq (.region false [⟨0, (some 4), .move (.const (.bool false)), none, []⟩])
 (.seq (.region false [⟨0, (some 5), .move (.tmp 0), none, []⟩, ⟨1, (some 6), .move (.tmp 1), none, []⟩, ⟨2, (some 7), .callF 128 [(.tmp 5), (.tmp 6)], none, []⟩, ⟨3, (some 8), .ibin .geq .i64 (.tmp 7) (.const (.int .i64 0)), none, []⟩, ⟨4, (some 4), .move (.tmp 8), none, []⟩])
 .ret)), [.tmp 4]⟩
/- bellarmine/share.only -/
def pf112 : PF := ⟨5, (.seq (.region false [⟨0, (some 2), .move (.const (.int .u64 0)), none, []⟩])
 (.seq (.region false [⟨0, (some 3), .move (.tmp 0), none, []⟩, ⟨1, (some 4), .plain ⟨(some 4), .binOp .shl 116 (.const (.int .u64 1)) (.tmp 3) 3, 116, (String.ofList [Char.ofNat 115, Char.ofNat 104, Char.ofNat 97, Char.ofNat 114, Char.ofNat 101, Char.ofNat 115, Char.ofNat 46, Char.ofNat 103, Char.ofNat 111, Char.ofNat 58, Char.ofNat 49, Char.ofNat 50]), #[⟨0, .data⟩], none⟩, none, []⟩, ⟨2, (some 2), .move (.tmp 4), none, []⟩])
 .ret)), [.tmp 2]⟩
/- (bellarmine/share.finder).dearest -/
def pf113 : PF := ⟨33, (.seq (.region false [⟨0, (some 4), .move (.const (.int .i64 0)), none, []⟩])
 (.seq (.region false [⟨0, (some 5), .move (.const (.int .i64 (-1))), none, []⟩])
 (.seq (.seq (.region false [⟨0, (some 8), .move (.tmp 0), none, []⟩, ⟨1, (some 9), .len (.tmp 8), none, []⟩, ⟨2, (some 10), .move (.const (.int .i64 0)), none, []⟩])
 (.block 0 (.loop (.seq (.region false [⟨0, (some 11), .ibin .lss .i64 (.tmp 10) (.tmp 9), none, []⟩])
 (.seq (.cond (.tmp 11) .skip (.exit 0))
 (.seq (.block 1 (.seq (.region false [⟨0, (some 12), .move (.tmp 10), none, []⟩, ⟨1, (some 13), .idxS (.tmp 8) (.tmp 10) 1, none, []⟩, ⟨2, (some 14), .load1 (.tmp 13), none, []⟩, ⟨3, (some 6), .move (.tmp 12), none, []⟩, ⟨4, (some 7), .move (.tmp 14), none, []⟩])
 (.seq (.region false [⟨0, (some 15), .move (.tmp 1), none, []⟩, ⟨1, (some 16), .move (.tmp 6), none, []⟩, ⟨2, (some 17), .callF 104 [(.tmp 15), (.tmp 16)], none, []⟩, ⟨3, (some 18), .move (.tmp 17), none, []⟩, ⟨4, (some 19), .move (.tmp 5), (some (18, true)), []⟩, ⟨5, (some 20), .ibin .lss .i64 (.tmp 19) (.const (.int .i64 0)), (some (18, true)), []⟩, ⟨6, (some 21), .move (.tmp 20), (some (18, true)), []⟩, ⟨7, (some 22), .move (.tmp 7), (some (21, false)), []⟩, ⟨8, (some 23), .move (.tmp 0), (some (21, false)), []⟩, ⟨9, (some 24), .move (.tmp 5), (some (21, false)), []⟩, ⟨10, (some 25), .idxS (.tmp 23) (.tmp 24) 1, (some (21, false)), []⟩, ⟨11, (some 26), .load1 (.tmp 25), (some (21, false)), []⟩, ⟨12, (some 27), .ibin .gtr .i64 (.tmp 22) (.tmp 26), (some (21, false)), []⟩, ⟨13, (some 28), .pick (.tmp 21) (.const (.bool true)) (.tmp 27), (some (18, true)), []⟩, ⟨14, (some 29), .pick (.tmp 18) (.tmp 28) (.const (.bool false)), none, []⟩])
 (.cond (.tmp 29) (.region false [⟨0, (some 30), .move (.tmp 6), none, []⟩, ⟨1, (some 5), .move (.tmp 30), none, []⟩]) .skip))))
 (.region false [⟨0, (some 31), .ibin .add .i64 (.tmp 10) (.const (.int .i64 1)), none, []⟩, ⟨1, (some 10), .move (.tmp 31), none, []⟩])))))))
 (.seq (.region false [⟨0, (some 32), .move (.tmp 5), none, []⟩, ⟨1, (some 4), .move (.tmp 32), none, []⟩])
 .ret)))), [.tmp 4]⟩
/- (bellarmine/share.division).give -/
def pf114 : PF := ⟨15, (.seq (.region false [⟨0, (some 3), .box 78 (.tmp 0), none, []⟩])
 (.region true [⟨0, (some 6), .fieldAddr (.tmp 3) 1, none, []⟩, ⟨1, (some 7), .load1 (.tmp 6), none, []⟩, ⟨2, (some 8), .move (.tmp 2), none, []⟩, ⟨3, (some 9), .idxS (.tmp 7) (.tmp 8) 1, none, []⟩, ⟨4, (some 10), .load1 (.tmp 9), none, []⟩, ⟨5, (some 11), .move (.tmp 1), none, []⟩, ⟨6, (some 12), .callF 112 [(.tmp 11)], none, [1, 4]⟩, ⟨7, (some 13), .ibin .or .u64 (.tmp 10) (.tmp 12), none, []⟩, ⟨8, (some 14), .idxS (.tmp 7) (.tmp 8) 1, none, []⟩, ⟨9, none, .store (.tmp 14) (.tmp 13) 1, none, []⟩])), []⟩
/- slices.IndexFunc[[]bellarmine/share.share,bellarmine/share.share] -/
def pf115 : PF := ⟨19, (.seq (.region false [⟨0, (some 4), .move (.const (.int .i64 0)), none, []⟩])
 (.seq (.seq (.region false [⟨0, (some 6), .move (.tmp 0), none, []⟩, ⟨1, (some 7), .len (.tmp 6), none, []⟩, ⟨2, (some 8), .move (.const (.int .i64 0)), none, []⟩])
 (.block 0 (.loop (.seq (.region false [⟨0, (some 9), .ibin .lss .i64 (.tmp 8) (.tmp 7), none, []⟩])
 (.seq (.cond (.tmp 9) .skip (.exit 0))
 (.seq (.block 1 (.seq (.region false [⟨0, (some 10), .move (.tmp 8), none, []⟩, ⟨1, (some 5), .move (.tmp 10), none, []⟩])
 (.seq (.region false [⟨0, (some 11), .move (.tmp 1), none, []⟩, ⟨1, (some 12), .move (.tmp 0), none, []⟩, ⟨2, (some 13), .move (.tmp 5), none, []⟩, ⟨3, (some 14), .idxS (.tmp 12) (.tmp 13) 1, none, []⟩, ⟨4, (some 15), .load1 (.tmp 14), none, []⟩, ⟨5, (some 16), .callV (.tmp 11) [(.tmp 15)], none, []⟩])
 (.cond (.tmp 16) (.seq (.region false [⟨0, (some 17), .move (.tmp 5), none, []⟩, ⟨1, (some 4), .move (.tmp 17), none, []⟩])
 .ret) .skip))))
 (.region false [⟨0, (some 18), .ibin .add .i64 (.tmp 8) (.const (.int .i64 1)), none, []⟩, ⟨1, (some 8), .move (.tmp 18), none, []⟩])))))))
 (.seq (.region false [⟨0, (some 4), .move (.const (.int .i64 (-1))), none, []⟩])
 .ret))), [.tmp 4]⟩
/- (bellarmine/share.division).owners$1 -/
def pf116 : PF := ⟨7, (.seq (.region false [⟨0, (some 3), .move (.const (.bool false)), none, []⟩])
 (.seq (.region false [⟨0, (some 4), .move (.tmp 0), none, []⟩, ⟨1, (some 5), .load1 (.tmp 1), none, []⟩, ⟨2, (some 6), .callF 104 [(.tmp 4), (.tmp 5)], none, []⟩, ⟨3, (some 3), .move (.tmp 6), none, []⟩])
 .ret)), [.tmp 3]⟩
/- (bellarmine/share.division).unenvied -/
def pf117 : PF := ⟨16, (.seq (.region false [⟨0, (some 1), .box 78 (.tmp 0), none, []⟩, ⟨1, (some 2), .move (.const (.int .i64 0)), none, []⟩])
 (.seq (.seq (.region false [⟨0, (some 4), .fieldAddr (.tmp 1) 1, none, []⟩, ⟨1, (some 5), .load1 (.tmp 4), none, []⟩, ⟨2, (some 6), .len (.tmp 5), none, []⟩, ⟨3, (some 7), .move (.const (.int .i64 0)), none, []⟩])
 (.block 0 (.loop (.seq (.region false [⟨0, (some 8), .ibin .lss .i64 (.tmp 7) (.tmp 6), none, []⟩])
 (.seq (.cond (.tmp 8) .skip (.exit 0))
 (.seq (.block 1 (.seq (.region false [⟨0, (some 9), .move (.tmp 7), none, []⟩, ⟨1, (some 3), .move (.tmp 9), none, []⟩])
 (.seq (.region false [⟨0, (some 10), .loadN (.tmp 1) 2, none, []⟩, ⟨1, (some 11), .move (.tmp 3), none, []⟩, ⟨2, (some 12), .callF 129 [(.tmp 10), (.tmp 11)], none, []⟩, ⟨3, (some 13), .ibin .eql .i64 (.tmp 12) (.const (.int .i64 (-1))), none, []⟩])
 (.cond (.tmp 13) (.seq (.region false [⟨0, (some 14), .move (.tmp 3), none, []⟩, ⟨1, (some 2), .move (.tmp 14), none, []⟩])
 .ret) .skip))))
 (.region false [⟨0, (some 15), .ibin .add .i64 (.tmp 7) (.const (.int .i64 1)), none, []⟩, ⟨1, (some 7), .move (.tmp 15), none, []⟩])))))))
 (.seq (.region false [⟨0, (some 2), .move (.const (.int .i64 (-1))), none, []⟩])
 .ret))), [.tmp 2]⟩
/- (bellarmine/share.division).turn -/
def pf118 : PF := ⟨33, (.seq (.region false [⟨0, (some 2), .box 78 (.tmp 0), none, []⟩])
 (.seq (.region false [⟨0, (some 8), .fieldAddr (.tmp 2) 1, none, []⟩, ⟨1, (some 9), .load1 (.tmp 8), none, []⟩, ⟨2, (some 10), .callF 130 [(.tmp 9)], none, []⟩, ⟨3, (some 4), .move (.tmp 10), none, []⟩])
 (.seq (.region false [⟨0, (some 11), .move (.tmp 1), none, []⟩, ⟨1, (some 12), .move (.tmp 1), none, []⟩, ⟨2, (some 13), .len (.tmp 12), none, []⟩, ⟨3, (some 14), .ibin .sub .i64 (.tmp 13) (.const (.int .i64 1)), none, []⟩, ⟨4, (some 15), .idxS (.tmp 11) (.tmp 14) 1, none, []⟩, ⟨5, (some 16), .load1 (.tmp 15), none, []⟩, ⟨6, (some 5), .move (.tmp 16), none, []⟩])
 (.seq (.region false [⟨0, (some 17), .move (.tmp 1), none, []⟩, ⟨1, (some 18), .len (.tmp 17), none, []⟩, ⟨2, (some 19), .move (.const (.int .i64 0)), none, []⟩])
 (.block 0 (.loop (.seq (.region false [⟨0, (some 20), .ibin .lss .i64 (.tmp 19) (.tmp 18), none, []⟩])
 (.seq (.cond (.tmp 20) .skip (.exit 0))
 (.seq (.block 1 (.seq (.region false [⟨0, (some 21), .idxS (.tmp 17) (.tmp 19) 1, none, []⟩, ⟨1, (some 22), .load1 (.tmp 21), none, []⟩, ⟨2, (some 7), .move (.tmp 22), none, []⟩])
 (.seq (.region true [⟨0, (some 23), .fieldAddr (.tmp 2) 1, none, []⟩, ⟨1, (some 24), .load1 (.tmp 23), none, []⟩, ⟨2, (some 25), .move (.tmp 7), none, []⟩, ⟨3, (some 26), .move (.tmp 4), none, []⟩, ⟨4, (some 27), .move (.tmp 5), none, []⟩, ⟨5, (some 28), .idxS (.tmp 26) (.tmp 27) 1, none, []⟩, ⟨6, (some 29), .load1 (.tmp 28), none, []⟩, ⟨7, (some 30), .idxS (.tmp 24) (.tmp 25) 1, none, []⟩, ⟨8, none, .store (.tmp 30) (.tmp 29) 1, none, []⟩])
 (.region false [⟨0, (some 31), .move (.tmp 7), none, []⟩, ⟨1, (some 5), .move (.tmp 31), none, []⟩]))))
 (.region false [⟨0, (some 32), .ibin .add .i64 (.tmp 19) (.const (.int .i64 1)), none, []⟩, ⟨1, (some 19), .move (.tmp 32), none, []⟩])))))))))), []⟩
/- (bellarmine/share.division).ring -/
def pf119 : PF := ⟨21, (.seq (.region false [⟨0, (some 1), .box 78 (.tmp 0), none, []⟩, ⟨1, (some 2), .move (.const (.slice none 0 0)), none, []⟩])
 (.seq (.region false [⟨0, (some 3), .move (.const (.slice none 0 0)), none, []⟩])
 (.seq (.region false [⟨0, (some 4), .move (.const (.int .i64 0)), none, []⟩])
 (.seq (.block 0 (.loop (.seq (.seq (.region false [⟨0, (some 5), .move (.tmp 3), none, []⟩, ⟨1, (some 6), .move (.tmp 4), none, []⟩, ⟨2, (some 7), .callF 52 [(.tmp 5), (.tmp 6)], none, []⟩, ⟨3, (some 8), .not (.tmp 7), none, []⟩])
 (.cond (.tmp 8) .skip (.exit 0)))
 (.block 1 (.seq (.region false [⟨0, (some 9), .move (.tmp 3), none, []⟩, ⟨1, (some 10), .move (.tmp 4), none, []⟩, ⟨2, (some 11), .bldS 3 1 [(.int .i64 0)] 1 [(0, (.tmp 10))], none, []⟩, ⟨3, (some 12), .append 3 1 (.tmp 9) (.tmp 11), none, []⟩, ⟨4, (some 3), .move (.tmp 12), none, []⟩])
 (.region false [⟨0, (some 13), .loadN (.tmp 1) 2, none, []⟩, ⟨1, (some 14), .move (.tmp 4), none, []⟩, ⟨2, (some 15), .callF 129 [(.tmp 13), (.tmp 14)], none, []⟩, ⟨3, (some 4), .move (.tmp 15), none, []⟩]))))))
 (.seq (.region false [⟨0, (some 16), .move (.tmp 3), none, []⟩, ⟨1, (some 17), .move (.tmp 3), none, []⟩, ⟨2, (some 18), .move (.tmp 4), none, []⟩, ⟨3, (some 19), .callF 53 [(.tmp 17), (.tmp 18)], none, []⟩, ⟨4, (some 20), .slS (.tmp 16) 1 (some (.tmp 19)) none none, none, []⟩, ⟨5, (some 2), .move (.tmp 20), none, []⟩])
 .ret))))), [.tmp 2]⟩
/- bellarmine/share.allOwners$1 -/
def pf121 : PF := ⟨18, (.seq (.region false [⟨0, (some 4), .load1 (.tmp 1), none, []⟩, ⟨1, (some 5), .idxS (.tmp 4) (.const (.int .i64 0)) 1, none, []⟩, ⟨2, (some 6), .load1 (.tmp 5), none, []⟩, ⟨3, (some 7), .len (.tmp 6), none, []⟩, ⟨4, (some 8), .mkS 3 [(.int .i64 0)] (.tmp 7) (.tmp 7), none, []⟩, ⟨5, (some 3), .move (.tmp 8), none, []⟩])
 (.block 0 (.loop (.seq (.seq (.region false [⟨0, (some 9), .move (.tmp 0), none, []⟩, ⟨1, (some 10), .move (.tmp 3), none, []⟩, ⟨2, (some 11), .callV (.tmp 9) [(.tmp 10)], none, []⟩, ⟨3, (some 12), .move (.tmp 11), none, []⟩, ⟨4, (some 13), .move (.tmp 3), (some (12, true)), []⟩, ⟨5, (some 14), .load1 (.tmp 1), (some (12, true)), []⟩, ⟨6, (some 15), .len (.tmp 14), (some (12, true)), []⟩, ⟨7, (some 16), .callF 122 [(.tmp 13), (.tmp 15)], (some (12, true)), []⟩, ⟨8, (some 17), .pick (.tmp 12) (.tmp 16) (.const (.bool false)), none, []⟩])
 (.cond (.tmp 17) .skip (.exit 0)))
 (.block 1 .skip))))), []⟩
/- bellarmine/share.goOn -/
def pf122 : PF := ⟨24, (.seq (.region false [⟨0, (some 2), .box 23 (.tmp 0), none, []⟩, ⟨1, (some 3), .box 3 (.tmp 1), none, []⟩, ⟨2, (some 4), .new 4 [(.bool false)], none, []⟩])
 (.seq (.seq (.region false [⟨0, (some 7), .load1 (.tmp 2), none, []⟩, ⟨1, (some 8), .callF 131 [(.tmp 7)], none, []⟩])
 (.block 0 (.rangeFunc (.tmp 8) [9, 10] (.seq (.region false [⟨0, (some 5), .move (.tmp 9), none, []⟩])
 (.region false [⟨0, (some 6), .move (.tmp 10), none, []⟩])) (.block 1 (.seq (.seq (.region false [⟨0, (some 11), .move (.tmp 6), none, []⟩, ⟨1, (some 12), .ibin .add .i64 (.tmp 11) (.const (.int .i64 1)), none, []⟩, ⟨2, (some 13), .load1 (.tmp 3), none, []⟩, ⟨3, (some 14), .ibin .lss .i64 (.tmp 12) (.tmp 13), none, []⟩])
 (.cond (.tmp 14) (.seq (.region false [⟨0, (some 15), .load1 (.tmp 2), none, []⟩, ⟨1, (some 16), .move (.tmp 5), none, []⟩, ⟨2, (some 17), .idxS (.tmp 15) (.tmp 16) 1, none, []⟩, ⟨3, (some 18), .load1 (.tmp 17), none, []⟩, ⟨4, (some 19), .ibin .add .i64 (.tmp 18) (.const (.int .i64 1)), none, []⟩, ⟨5, (some 20), .idxS (.tmp 15) (.tmp 16) 1, none, []⟩, ⟨6, none, .store (.tmp 20) (.tmp 19) 1, none, []⟩])
 (.seq (.region false [⟨0, none, .store (.tmp 4) (.const (.bool true)) 1, none, []⟩])
 .ret)) .skip))
 (.region false [⟨0, (some 21), .load1 (.tmp 2), none, []⟩, ⟨1, (some 22), .move (.tmp 5), none, []⟩, ⟨2, (some 23), .idxS (.tmp 21) (.tmp 22) 1, none, []⟩, ⟨3, none, .store (.tmp 23) (.const (.int .i64 0)) 1, none, []⟩]))))))
 (.seq (.region false [⟨0, none, .store (.tmp 4) (.const (.bool false)) 1, none, []⟩])
 .ret))), [.cell 4 none]⟩
/- bellarmine/share.gainOf -/
def pf123 : PF := ⟨26, (.seq (.region false [⟨0, (some 2), .new 130 [(.int .i64 0), (.int .i64 0)], none, []⟩])
 (.seq (.region false [⟨0, (some 6), .bldT [(.int .i64 0), (.int .i64 0)] [(0, 1), (1, 1)] [(1, (.const (.int .i64 1)))], none, []⟩, ⟨1, (some 3), .new 130 [(.int .i64 0), (.int .i64 0)], none, []⟩, ⟨2, none, .store (.tmp 3) (.tmp 6) 2, none, []⟩])
 (.seq (.seq (.region false [⟨0, (some 7), .move (.tmp 0), none, []⟩, ⟨1, (some 8), .len (.tmp 7), none, []⟩, ⟨2, (some 9), .move (.const (.int .i64 0)), none, []⟩])
 (.block 0 (.loop (.seq (.region false [⟨0, (some 10), .ibin .lss .i64 (.tmp 9) (.tmp 8), none, []⟩])
 (.seq (.cond (.tmp 10) .skip (.exit 0))
 (.seq (.block 1 (.seq (.region false [⟨0, (some 11), .idxS (.tmp 7) (.tmp 9) 1, none, []⟩, ⟨1, (some 12), .load1 (.tmp 11), none, []⟩, ⟨2, (some 5), .move (.tmp 12), none, []⟩])
 (.seq (.region false [⟨0, (some 13), .move (.tmp 5), none, []⟩, ⟨1, (some 14), .ibin .gtr .i64 (.tmp 13) (.const (.int .i64 0)), none, []⟩])
 (.cond (.tmp 14) (.seq (.region false [⟨0, (some 15), .fieldAddr (.tmp 3) 0, none, []⟩, ⟨1, (some 16), .load1 (.tmp 15), none, []⟩, ⟨2, (some 17), .ibin .add .i64 (.tmp 16) (.const (.int .i64 1)), none, []⟩, ⟨3, (some 18), .fieldAddr (.tmp 3) 0, none, []⟩, ⟨4, none, .store (.tmp 18) (.tmp 17) 1, none, []⟩])
 (.region false [⟨0, (some 19), .fieldAddr (.tmp 3) 1, none, []⟩, ⟨1, (some 20), .load1 (.tmp 19), none, []⟩, ⟨2, (some 21), .move (.tmp 5), none, []⟩, ⟨3, (some 22), .ibin .mul .i64 (.tmp 20) (.tmp 21), none, []⟩, ⟨4, (some 23), .fieldAddr (.tmp 3) 1, none, []⟩, ⟨5, none, .store (.tmp 23) (.tmp 22) 1, none, []⟩])) .skip))))
 (.region false [⟨0, (some 24), .ibin .add .i64 (.tmp 9) (.const (.int .i64 1)), none, []⟩, ⟨1, (some 9), .move (.tmp 24), none, []⟩])))))))
 (.seq (.region false [⟨0, (some 25), .loadN (.tmp 3) 2, none, []⟩, ⟨1, none, .store (.tmp 2) (.tmp 25) 2, none, []⟩])
 .ret)))), [.cell 2 (some 2)]⟩
/- (bellarmine/share.gain).exceeds -/
def pf124 : PF := ⟨18, (.seq (.region false [⟨0, (some 2), .box 130 (.tmp 0), none, []⟩, ⟨1, (some 3), .box 130 (.tmp 1), none, []⟩, ⟨2, (some 4), .move (.const (.bool false)), none, []⟩])
 (.seq (.region true [⟨0, (some 5), .fieldAddr (.tmp 2) 0, none, []⟩, ⟨1, (some 6), .load1 (.tmp 5), none, []⟩, ⟨2, (some 7), .fieldAddr (.tmp 3) 0, none, []⟩, ⟨3, (some 8), .load1 (.tmp 7), none, []⟩, ⟨5, (some 10), .fieldAddr (.tmp 2) 1, none, []⟩, ⟨6, (some 11), .load1 (.tmp 10), none, []⟩, ⟨7, (some 12), .fieldAddr (.tmp 3) 1, none, []⟩, ⟨8, (some 13), .load1 (.tmp 12), none, []⟩, ⟨4, (some 9), .callF 133 [(.tmp 6), (.tmp 8)], none, [6, 8]⟩, ⟨9, (some 14), .callF 133 [(.tmp 11), (.tmp 13)], none, []⟩, ⟨10, (some 15), .bldS 3 1 [(.int .i64 0), (.int .i64 0)] 2 [(0, (.tmp 9)), (1, (.tmp 14))], none, []⟩, ⟨11, (some 16), .callF 132 [(.tmp 15)], none, []⟩, ⟨12, (some 17), .ibin .gtr .i64 (.tmp 16) (.const (.int .i64 0)), none, []⟩, ⟨13, (some 4), .move (.tmp 17), none, []⟩])
 .ret)), [.tmp 4]⟩
/- math/bits.Mul32 -/
def pf125 : PF := ⟨17, (.seq (.region false [⟨0, (some 4), .move (.const (.int .u32 0)), none, []⟩, ⟨1, (some 5), .move (.const (.int .u32 0)), none, []⟩])
 (.seq (.region false [⟨0, (some 7), .move (.tmp 0), none, []⟩, ⟨1, (some 8), .plain ⟨(some 8), .convert 133 136 (.tmp 7), 136, (String.ofList [Char.ofNat 98, Char.ofNat 105, Char.ofNat 116, Char.ofNat 115, Char.ofNat 46, Char.ofNat 103, Char.ofNat 111, Char.ofNat 58, Char.ofNat 52, Char.ofNat 54, Char.ofNat 48]), #[⟨0, .data⟩], none⟩, none, []⟩, ⟨2, (some 9), .move (.tmp 1), none, []⟩, ⟨3, (some 10), .plain ⟨(some 10), .convert 133 136 (.tmp 9), 136, (String.ofList [Char.ofNat 98, Char.ofNat 105, Char.ofNat 116, Char.ofNat 115, Char.ofNat 46, Char.ofNat 103, Char.ofNat 111, Char.ofNat 58, Char.ofNat 52, Char.ofNat 54, Char.ofNat 48]), #[⟨2, .data⟩], none⟩, none, []⟩, ⟨4, (some 11), .ibin .mul .u64 (.tmp 8) (.tmp 10), none, []⟩, ⟨5, (some 6), .move (.tmp 11), none, []⟩])
 (.seq (.region false [⟨0, (some 12), .move (.tmp 6), none, []⟩, ⟨1, (some 13), .plain ⟨(some 13), .binOp .shr 136 (.tmp 12) (.const (.int .u64 32)) 112, 136, (String.ofList [Char.ofNat 98, Char.ofNat 105, Char.ofNat 116, Char.ofNat 115, Char.ofNat 46, Char.ofNat 103, Char.ofNat 111, Char.ofNat 58, Char.ofNat 52, Char.ofNat 54, Char.ofNat 49]), #[⟨0, .data⟩], none⟩, none, []⟩, ⟨2, (some 14), .plain ⟨(some 14), .convert 136 133 (.tmp 13), 133, (String.ofList [Char.ofNat 98, Char.ofNat 105, Char.ofNat 116, Char.ofNat 115, Char.ofNat 46, Char.ofNat 103, Char.ofNat 111, Char.ofNat 58, Char.ofNat 52, Char.ofNat 54, Char.ofNat 49]), #[⟨1, .data⟩], none⟩, none, []⟩, ⟨3, (some 15), .move (.tmp 6), none, []⟩, ⟨4, (some 16), .plain ⟨(some 16), .convert 136 133 (.tmp 15), 133, (String.ofList [Char.ofNat 98, Char.ofNat 105, Char.ofNat 116, Char.ofNat 115, Char.ofNat 46, Char.ofNat 103, Char.ofNat 111, Char.ofNat 58, Char.ofNat 52, Char.ofNat 54, Char.ofNat 49]), #[⟨3, .data⟩, ⟨5, (.gcOnly .lateStores)⟩], none⟩, none, []⟩, ⟨5, (some 4), .move (.tmp 14), none, []⟩, ⟨6, (some 5), .move (.tmp 16), none, []⟩])
 .ret))), [.tmp 4, .tmp 5]⟩
/- math/bits.Mul64 -/
def pf126 : PF := ⟨51, (.seq (.region false [⟨0, (some 4), .move (.const (.int .u64 0)), none, []⟩, ⟨1, (some 5), .move (.const (.int .u64 0)), none, []⟩])
 (.seq (.region false [⟨0, (some 14), .move (.tmp 0), none, []⟩, ⟨1, (some 15), .ibin .and .u64 (.tmp 14) (.const (.int .u64 4294967295)), none, []⟩, ⟨2, (some 6), .move (.tmp 15), none, []⟩])
 (.seq (.region false [⟨0, (some 16), .move (.tmp 0), none, []⟩, ⟨1, (some 17), .plain ⟨(some 17), .binOp .shr 136 (.tmp 16) (.const (.int .u64 32)) 112, 136, (String.ofList [Char.ofNat 98, Char.ofNat 105, Char.ofNat 116, Char.ofNat 115, Char.ofNat 46, Char.ofNat 103, Char.ofNat 111, Char.ofNat 58, Char.ofNat 52, Char.ofNat 55, Char.ofNat 51]), #[⟨0, .data⟩], none⟩, none, []⟩, ⟨2, (some 7), .move (.tmp 17), none, []⟩])
 (.seq (.region false [⟨0, (some 18), .move (.tmp 1), none, []⟩, ⟨1, (some 19), .ibin .and .u64 (.tmp 18) (.const (.int .u64 4294967295)), none, []⟩, ⟨2, (some 8), .move (.tmp 19), none, []⟩])
 (.seq (.region false [⟨0, (some 20), .move (.tmp 1), none, []⟩, ⟨1, (some 21), .plain ⟨(some 21), .binOp .shr 136 (.tmp 20) (.const (.int .u64 32)) 112, 136, (String.ofList [Char.ofNat 98, Char.ofNat 105, Char.ofNat 116, Char.ofNat 115, Char.ofNat 46, Char.ofNat 103, Char.ofNat 111, Char.ofNat 58, Char.ofNat 52, Char.ofNat 55, Char.ofNat 53]), #[⟨0, .data⟩], none⟩, none, []⟩, ⟨2, (some 9), .move (.tmp 21), none, []⟩])
 (.seq (.region false [⟨0, (some 22), .move (.tmp 6), none, []⟩, ⟨1, (some 23), .move (.tmp 8), none, []⟩, ⟨2, (some 24), .ibin .mul .u64 (.tmp 22) (.tmp 23), none, []⟩, ⟨3, (some 10), .move (.tmp 24), none, []⟩])
 (.seq (.region false [⟨0, (some 25), .move (.tmp 7), none, []⟩, ⟨1, (some 26), .move (.tmp 8), none, []⟩, ⟨2, (some 27), .ibin .mul .u64 (.tmp 25) (.tmp 26), none, []⟩, ⟨3, (some 28), .move (.tmp 10), none, []⟩, ⟨4, (some 29), .plain ⟨(some 29), .binOp .shr 136 (.tmp 28) (.const (.int .u64 32)) 112, 136, (String.ofList [Char.ofNat 98, Char.ofNat 105, Char.ofNat 116, Char.ofNat 115, Char.ofNat 46, Char.ofNat 103, Char.ofNat 111, Char.ofNat 58, Char.ofNat 52, Char.ofNat 55, Char.ofNat 55]), #[⟨3, .data⟩], none⟩, none, []⟩, ⟨5, (some 30), .ibin .add .u64 (.tmp 27) (.tmp 29), none, []⟩, ⟨6, (some 11), .move (.tmp 30), none, []⟩])
 (.seq (.region false [⟨0, (some 31), .move (.tmp 11), none, []⟩, ⟨1, (some 32), .ibin .and .u64 (.tmp 31) (.const (.int .u64 4294967295)), none, []⟩, ⟨2, (some 12), .move (.tmp 32), none, []⟩])
 (.seq (.region false [⟨0, (some 33), .move (.tmp 11), none, []⟩, ⟨1, (some 34), .plain ⟨(some 34), .binOp .shr 136 (.tmp 33) (.const (.int .u64 32)) 112, 136, (String.ofList [Char.ofNat 98, Char.ofNat 105, Char.ofNat 116, Char.ofNat 115, Char.ofNat 46, Char.ofNat 103, Char.ofNat 111, Char.ofNat 58, Char.ofNat 52, Char.ofNat 55, Char.ofNat 57]), #[⟨0, .data⟩], none⟩, none, []⟩, ⟨2, (some 13), .move (.tmp 34), none, []⟩])
 (.seq (.region false [⟨0, (some 35), .move (.tmp 12), none, []⟩, ⟨1, (some 36), .move (.tmp 6), none, []⟩, ⟨2, (some 37), .move (.tmp 9), none, []⟩, ⟨3, (some 38), .ibin .mul .u64 (.tmp 36) (.tmp 37), none, []⟩, ⟨4, (some 39), .ibin .add .u64 (.tmp 35) (.tmp 38), none, []⟩, ⟨5, (some 12), .move (.tmp 39), none, []⟩])
 (.seq (.region false [⟨0, (some 40), .move (.tmp 7), none, []⟩, ⟨1, (some 41), .move (.tmp 9), none, []⟩, ⟨2, (some 42), .ibin .mul .u64 (.tmp 40) (.tmp 41), none, []⟩, ⟨3, (some 43), .move (.tmp 13), none, []⟩, ⟨4, (some 44), .ibin .add .u64 (.tmp 42) (.tmp 43), none, []⟩, ⟨5, (some 45), .move (.tmp 12), none, []⟩, ⟨6, (some 46), .plain ⟨(some 46), .binOp .shr 136 (.tmp 45) (.const (.int .u64 32)) 112, 136, (String.ofList [Char.ofNat 98, Char.ofNat 105, Char.ofNat 116, Char.ofNat 115, Char.ofNat 46, Char.ofNat 103, Char.ofNat 111, Char.ofNat 58, Char.ofNat 52, Char.ofNat 56, Char.ofNat 49]), #[⟨5, .data⟩], none⟩, none, []⟩, ⟨7, (some 47), .ibin .add .u64 (.tmp 44) (.tmp 46), none, []⟩, ⟨8, (some 4), .move (.tmp 47), none, []⟩])
 (.seq (.region false [⟨0, (some 48), .move (.tmp 0), none, []⟩, ⟨1, (some 49), .move (.tmp 1), none, []⟩, ⟨2, (some 50), .ibin .mul .u64 (.tmp 48) (.tmp 49), none, []⟩, ⟨3, (some 5), .move (.tmp 50), none, []⟩])
 .ret)))))))))))), [.tmp 4, .tmp 5]⟩
/- slices.IndexFunc[[]int,int] -/
def pf127 : PF := ⟨19, (.seq (.region false [⟨0, (some 4), .move (.const (.int .i64 0)), none, []⟩])
 (.seq (.seq (.region false [⟨0, (some 6), .move (.tmp 0), none, []⟩, ⟨1, (some 7), .len (.tmp 6), none, []⟩, ⟨2, (some 8), .move (.const (.int .i64 0)), none, []⟩])
 (.block 0 (.loop (.seq (.region false [⟨0, (some 9), .ibin .lss .i64 (.tmp 8) (.tmp 7), none, []⟩])
 (.seq (.cond (.tmp 9) .skip (.exit 0))
 (.seq (.block 1 (.seq (.region false [⟨0, (some 10), .move (.tmp 8), none, []⟩, ⟨1, (some 5), .move (.tmp 10), none, []⟩])
 (.seq (.region false [⟨0, (some 11), .move (.tmp 1), none, []⟩, ⟨1, (some 12), .move (.tmp 0), none, []⟩, ⟨2, (some 13), .move (.tmp 5), none, []⟩, ⟨3, (some 14), .idxS (.tmp 12) (.tmp 13) 1, none, []⟩, ⟨4, (some 15), .load1 (.tmp 14), none, []⟩, ⟨5, (some 16), .callV (.tmp 11) [(.tmp 15)], none, []⟩])
 (.cond (.tmp 16) (.seq (.region false [⟨0, (some 17), .move (.tmp 5), none, []⟩, ⟨1, (some 4), .move (.tmp 17), none, []⟩])
 .ret) .skip))))
 (.region false [⟨0, (some 18), .ibin .add .i64 (.tmp 8) (.const (.int .i64 1)), none, []⟩, ⟨1, (some 8), .move (.tmp 18), none, []⟩])))))))
 (.seq (.region false [⟨0, (some 4), .move (.const (.int .i64 (-1))), none, []⟩])
 .ret))), [.tmp 4]⟩
/- slices.Index[[]bool,bool] -/
def pf128 : PF := ⟨19, (.seq (.region false [⟨0, (some 4), .move (.const (.int .i64 0)), none, []⟩])
 (.seq (.seq (.region false [⟨0, (some 6), .move (.tmp 0), none, []⟩, ⟨1, (some 7), .len (.tmp 6), none, []⟩, ⟨2, (some 8), .move (.const (.int .i64 0)), none, []⟩])
 (.block 0 (.loop (.seq (.region false [⟨0, (some 9), .ibin .lss .i64 (.tmp 8) (.tmp 7), none, []⟩])
 (.seq (.cond (.tmp 9) .skip (.exit 0))
 (.seq (.block 1 (.seq (.region false [⟨0, (some 10), .move (.tmp 8), none, []⟩, ⟨1, (some 5), .move (.tmp 10), none, []⟩])
 (.seq (.region false [⟨0, (some 11), .move (.tmp 1), none, []⟩, ⟨1, (some 12), .move (.tmp 0), none, []⟩, ⟨2, (some 13), .move (.tmp 5), none, []⟩, ⟨3, (some 14), .idxS (.tmp 12) (.tmp 13) 1, none, []⟩, ⟨4, (some 15), .load1 (.tmp 14), none, []⟩, ⟨5, (some 16), .plain ⟨(some 16), .binOp .eql 4 (.tmp 11) (.tmp 15) 4, 4, (String.ofList [Char.ofNat 115, Char.ofNat 108, Char.ofNat 105, Char.ofNat 99, Char.ofNat 101, Char.ofNat 115, Char.ofNat 46, Char.ofNat 103, Char.ofNat 111, Char.ofNat 58, Char.ofNat 57, Char.ofNat 56]), #[⟨0, .data⟩, ⟨4, .data⟩], none⟩, none, []⟩])
 (.cond (.tmp 16) (.seq (.region false [⟨0, (some 17), .move (.tmp 5), none, []⟩, ⟨1, (some 4), .move (.tmp 17), none, []⟩])
 .ret) .skip))))
 (.region false [⟨0, (some 18), .ibin .add .i64 (.tmp 8) (.const (.int .i64 1)), none, []⟩, ⟨1, (some 8), .move (.tmp 18), none, []⟩])))))))
 (.seq (.region false [⟨0, (some 4), .move (.const (.int .i64 (-1))), none, []⟩])
 .ret))), [.tmp 4]⟩
/- (bellarmine/share.division).envier -/
def pf129 : PF := ⟨15, (.seq (.region false [⟨0, (some 2), .box 78 (.tmp 0), none, []⟩, ⟨1, (some 3), .box 3 (.tmp 1), none, []⟩, ⟨2, (some 4), .new 3 [(.int .i64 0)], none, []⟩])
 (.seq (.seq (.region false [⟨0, (some 6), .loadN (.tmp 2) 2, none, []⟩, ⟨1, (some 7), .callF 76 [(.tmp 6), (.func 77)], none, []⟩])
 (.block 0 (.rangeFunc (.tmp 7) [8] (.region false [⟨0, (some 5), .new 58 [(.int .i64 0), (.int .i64 0)], none, []⟩, ⟨1, none, .store (.tmp 5) (.tmp 8) 2, none, []⟩]) (.block 1 (.seq (.region false [⟨0, (some 9), .idxA (.tmp 5) (.const (.int .i64 1)) 2 1, none, []⟩, ⟨1, (some 10), .load1 (.tmp 9), none, []⟩, ⟨2, (some 11), .load1 (.tmp 3), none, []⟩, ⟨3, (some 12), .ibin .eql .i64 (.tmp 10) (.tmp 11), none, []⟩])
 (.cond (.tmp 12) (.seq (.region false [⟨0, (some 13), .idxA (.tmp 5) (.const (.int .i64 0)) 2 1, none, []⟩, ⟨1, (some 14), .load1 (.tmp 13), none, []⟩, ⟨2, none, .store (.tmp 4) (.tmp 14) 1, none, []⟩])
 .ret) .skip))))))
 (.seq (.region false [⟨0, none, .store (.tmp 4) (.const (.int .i64 (-1))) 1, none, []⟩])
 .ret))), [.cell 4 none]⟩
/- slices.Clone[[]bellarmine/share.share,bellarmine/share.share] -/
def pf130 : PF := ⟨8, (.seq (.region false [⟨0, (some 2), .move (.const (.slice none 0 0)), none, []⟩])
 (.seq (.seq (.region false [⟨0, (some 3), .move (.tmp 0), none, []⟩, ⟨1, (some 4), .nilEq false .sl (.tmp 3), none, []⟩])
 (.cond (.tmp 4) (.seq (.region false [⟨0, (some 2), .move (.const (.slice none 0 0)), none, []⟩])
 .ret) .skip))
 (.seq (.region false [⟨0, (some 5), .bldS 116 1 [] 0 [], none, []⟩, ⟨1, (some 6), .move (.tmp 0), none, []⟩, ⟨2, (some 7), .append 116 1 (.tmp 5) (.tmp 6), none, []⟩, ⟨3, (some 2), .move (.tmp 7), none, []⟩])
 .ret))), [.tmp 2]⟩
/- slices.Backward[[]int,int] -/
def pf131 : PF := ⟨4, (.seq (.region false [⟨0, (some 1), .box 23 (.tmp 0), none, []⟩, ⟨1, (some 2), .move (.const .nilFunc), none, []⟩])
 (.seq (.region false [⟨0, (some 3), .mkF (.func 134) #[] #[(.tmp 1)], none, []⟩, ⟨1, (some 2), .move (.tmp 3), none, []⟩])
 .ret)), [.tmp 2]⟩
/- cmp.Or[int] -/
def pf132 : PF := ⟨18, (.seq (.region false [⟨0, (some 2), .move (.const (.int .i64 0)), none, []⟩])
 (.seq (.region false [⟨0, (some 3), .move (.const (.int .i64 0)), none, []⟩])
 (.seq (.seq (.region false [⟨0, (some 6), .move (.tmp 0), none, []⟩, ⟨1, (some 7), .len (.tmp 6), none, []⟩, ⟨2, (some 8), .move (.const (.int .i64 0)), none, []⟩])
 (.block 0 (.loop (.seq (.region false [⟨0, (some 9), .ibin .lss .i64 (.tmp 8) (.tmp 7), none, []⟩])
 (.seq (.cond (.tmp 9) .skip (.exit 0))
 (.seq (.block 1 (.seq (.region false [⟨0, (some 10), .idxS (.tmp 6) (.tmp 8) 1, none, []⟩, ⟨1, (some 11), .load1 (.tmp 10), none, []⟩, ⟨2, (some 5), .move (.tmp 11), none, []⟩])
 (.seq (.region false [⟨0, (some 12), .move (.tmp 5), none, []⟩, ⟨1, (some 13), .move (.tmp 3), none, []⟩, ⟨2, (some 14), .ibin .neq .i64 (.tmp 12) (.tmp 13), none, []⟩])
 (.cond (.tmp 14) (.seq (.region false [⟨0, (some 15), .move (.tmp 5), none, []⟩, ⟨1, (some 2), .move (.tmp 15), none, []⟩])
 .ret) .skip))))
 (.region false [⟨0, (some 16), .ibin .add .i64 (.tmp 8) (.const (.int .i64 1)), none, []⟩, ⟨1, (some 8), .move (.tmp 16), none, []⟩])))))))
 (.seq (.region false [⟨0, (some 17), .move (.tmp 3), none, []⟩, ⟨1, (some 2), .move (.tmp 17), none, []⟩])
 .ret)))), [.tmp 2]⟩
/- cmp.Compare[int] -/
def pf133 : PF := ⟨20, (.seq (.region false [⟨0, (some 4), .move (.const (.int .i64 0)), none, []⟩])
 (.seq (.region false [⟨0, (some 7), .move (.tmp 0), none, []⟩, ⟨1, (some 8), .callF 135 [(.tmp 7)], none, []⟩, ⟨2, (some 5), .move (.tmp 8), none, []⟩])
 (.seq (.region false [⟨0, (some 9), .move (.tmp 1), none, []⟩, ⟨1, (some 10), .callF 135 [(.tmp 9)], none, []⟩, ⟨2, (some 6), .move (.tmp 10), none, []⟩])
 (.seq (.seq (.region false [⟨0, (some 11), .move (.tmp 5), none, []⟩])
 (.cond (.tmp 11) (.seq (.seq (.region false [⟨0, (some 12), .move (.tmp 6), none, []⟩])
 (.cond (.tmp 12) (.seq (.region false [⟨0, (some 4), .move (.const (.int .i64 0)), none, []⟩])
 .ret) .skip))
 (.seq (.region false [⟨0, (some 4), .move (.const (.int .i64 (-1))), none, []⟩])
 .ret)) .skip))
 (.seq (.seq (.region false [⟨0, (some 13), .move (.tmp 6), none, []⟩])
 (.cond (.tmp 13) (.seq (.region false [⟨0, (some 4), .move (.const (.int .i64 1)), none, []⟩])
 .ret) .skip))
 (.seq (.seq (.region false [⟨0, (some 14), .move (.tmp 0), none, []⟩, ⟨1, (some 15), .move (.tmp 1), none, []⟩, ⟨2, (some 16), .ibin .lss .i64 (.tmp 14) (.tmp 15), none, []⟩])
 (.cond (.tmp 16) (.seq (.region false [⟨0, (some 4), .move (.const (.int .i64 (-1))), none, []⟩])
 .ret) .skip))
 (.seq (.seq (.region false [⟨0, (some 17), .move (.tmp 0), none, []⟩, ⟨1, (some 18), .move (.tmp 1), none, []⟩, ⟨2, (some 19), .ibin .gtr .i64 (.tmp 17) (.tmp 18), none, []⟩])
 (.cond (.tmp 19) (.seq (.region false [⟨0, (some 4), .move (.const (.int .i64 1)), none, []⟩])
 .ret) .skip))
 (.seq (.region false [⟨0, (some 4), .move (.const (.int .i64 0)), none, []⟩])
 .ret)))))))), [.tmp 4]⟩
/- slices.Backward[[]int,int]$1 -/
def pf134 : PF := ⟨19, (.seq (.region false [⟨0, (some 4), .load1 (.tmp 1), none, []⟩, ⟨1, (some 5), .len (.tmp 4), none, []⟩, ⟨2, (some 6), .ibin .sub .i64 (.tmp 5) (.const (.int .i64 1)), none, []⟩, ⟨3, (some 3), .move (.tmp 6), none, []⟩])
 (.block 0 (.loop (.seq (.seq (.region false [⟨0, (some 7), .move (.tmp 3), none, []⟩, ⟨1, (some 8), .ibin .geq .i64 (.tmp 7) (.const (.int .i64 0)), none, []⟩])
 (.cond (.tmp 8) .skip (.exit 0)))
 (.seq (.block 1 (.seq (.region false [⟨0, (some 11), .move (.tmp 0), none, []⟩, ⟨1, (some 12), .move (.tmp 3), none, []⟩, ⟨2, (some 13), .load1 (.tmp 1), none, []⟩, ⟨3, (some 14), .move (.tmp 3), none, []⟩, ⟨4, (some 15), .idxS (.tmp 13) (.tmp 14) 1, none, []⟩, ⟨5, (some 16), .load1 (.tmp 15), none, []⟩, ⟨6, (some 17), .callV (.tmp 11) [(.tmp 12), (.tmp 16)], none, []⟩, ⟨7, (some 18), .not (.tmp 17), none, []⟩])
 (.cond (.tmp 18) .ret .skip)))
 (.region false [⟨0, (some 9), .move (.tmp 3), none, []⟩, ⟨1, (some 10), .ibin .sub .i64 (.tmp 9) (.const (.int .i64 1)), none, []⟩, ⟨2, (some 3), .move (.tmp 10), none, []⟩])))))), []⟩
/- cmp.isNaN[int] -/
def pf135 : PF := ⟨6, (.seq (.region false [⟨0, (some 2), .move (.const (.bool false)), none, []⟩])
 (.seq (.region false [⟨0, (some 3), .move (.tmp 0), none, []⟩, ⟨1, (some 4), .move (.tmp 0), none, []⟩, ⟨2, (some 5), .ibin .neq .i64 (.tmp 3) (.tmp 4), none, []⟩, ⟨3, (some 2), .move (.tmp 5), none, []⟩])
 .ret)), [.tmp 2]⟩
def funcs : Tr PF := (.node none (.node none (.node none (.node none (.node (some pf15) (.node none (.node (some pf63) (.node (some pf127) .nil .nil) .nil) .nil) (.node (some pf47) (.node (some pf79) .nil .nil) (.node (some pf111) .nil .nil))) (.node (some pf23) (.node none (.node (some pf71) (.node (some pf135) .nil .nil) .nil) (.node (some pf103) .nil .nil)) (.node (some pf55) .nil (.node (some pf119) .nil .nil)))) (.node none (.node none (.node (some pf35) (.node none (.node (some pf131) .nil .nil) .nil) .nil) (.node none (.node (some pf83) .nil .nil) (.node (some pf115) .nil .nil))) (.node (some pf27) (.node none .nil (.node (some pf107) .nil .nil)) (.node (some pf59) (.node (some pf91) .nil .nil) (.node (some pf123) .nil .nil))))) (.node none (.node none (.node none (.node (some pf33) (.node none (.node (some pf129) .nil .nil) .nil) (.node (some pf97) .nil .nil)) (.node (some pf49) (.node (some pf81) .nil .nil) (.node (some pf113) .nil .nil))) (.node none .nil (.node (some pf57) .nil (.node (some pf121) .nil .nil)))) (.node none (.node none (.node (some pf37) (.node none (.node (some pf133) .nil .nil) .nil) (.node (some pf101) .nil .nil)) (.node (some pf53) (.node (some pf85) .nil .nil) (.node (some pf117) .nil .nil))) (.node (some pf29) (.node none (.node (some pf77) .nil .nil) (.node (some pf109) .nil .nil)) (.node (some pf61) .nil (.node (some pf125) .nil .nil)))))) (.node none (.node none (.node none (.node none (.node none (.node none (.node (some pf128) .nil .nil) .nil) .nil) (.node (some pf48) (.node (some pf80) .nil .nil) (.node (some pf112) .nil .nil))) (.node none (.node (some pf40) (.node (some pf72) .nil .nil) (.node (some pf104) .nil .nil)) (.node (some pf56) (.node (some pf88) .nil .nil) .nil))) (.node none (.node none (.node none (.node none (.node (some pf132) .nil .nil) .nil) (.node (some pf100) .nil .nil)) (.node (some pf52) .nil (.node (some pf116) .nil .nil))) (.node none (.node none (.node (some pf76) .nil .nil) (.node (some pf108) .nil .nil)) (.node none (.node (some pf92) .nil .nil) (.node (some pf124) .nil .nil))))) (.node none (.node (some pf10) (.node none (.node none (.node none (.node (some pf130) .nil .nil) .nil) (.node (some pf98) .nil .nil)) (.node (some pf50) .nil (.node (some pf114) .nil .nil))) (.node none (.node none .nil (.node (some pf106) .nil .nil)) (.node (some pf58) .nil (.node (some pf122) .nil .nil)))) (.node none (.node none (.node (some pf38) (.node (some pf70) (.node (some pf134) .nil .nil) .nil) (.node (some pf102) .nil .nil)) (.node (some pf54) (.node (some pf86) .nil .nil) (.node (some pf118) .nil .nil))) (.node none (.node (some pf46) .nil (.node (some pf110) .nil .nil)) (.node (some pf62) (.node (some pf94) .nil .nil) (.node (some pf126) .nil .nil)))))))
noncomputable def C : CW := ⟨{ P := Try.prog, funcs := funcs }, 18⟩
end Go.Proofs.Ytaipmdhnhffckaa.Sh
