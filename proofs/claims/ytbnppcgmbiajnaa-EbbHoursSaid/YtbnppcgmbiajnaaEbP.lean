/- The program's functions, prepared: written by program, checked below. -/
import Derived.Test.YtbnppcgmbiajnaaSymMono
import Derived.Test.YtbnppcgmbiajnaaRows
namespace Go.Proofs.Ytbnppcgmbiajnaa.Eb
open Go Go.Abs
set_option maxRecDepth 100000
set_option maxHeartbeats 4000000
/- bellarmine/bellarminelaw01.EbbHours -/
def pf4 : PF := ⟨44, (.seq (.region false [⟨0, (some 3), .box 24 (.tmp 0), none, []⟩, ⟨1, (some 6), .move (.const (.bool false)), none, []⟩])
 (.seq (.seq (.region false [⟨0, (some 11), .fieldAddr (.tmp 3) 2, none, []⟩, ⟨1, (some 12), .load1 (.tmp 11), none, []⟩, ⟨2, (some 13), .callF 15 [(.tmp 12)], none, []⟩, ⟨3, (some 14), .move (.tmp 13), none, []⟩, ⟨4, (some 15), .move (.tmp 1), (some (14, false)), []⟩, ⟨5, (some 16), .callF 15 [(.tmp 15)], (some (14, false)), []⟩, ⟨6, (some 17), .pick (.tmp 14) (.const (.bool true)) (.tmp 16), none, []⟩])
 (.cond (.tmp 17) (.seq (.region false [⟨0, (some 18), .callF 16 [], none, []⟩, ⟨1, (some 6), .move (.tmp 18), none, []⟩])
 .ret) .skip))
 (.seq (.region false [⟨0, (some 20), .loadN (.tmp 3) 3, none, []⟩, ⟨1, (some 21), .move (.tmp 1), none, []⟩, ⟨2, (some 22), .move (.tmp 2), none, []⟩, ⟨3, (some 23), .callF 29 [(.tmp 20), (.tmp 21), (.tmp 22)], none, []⟩, ⟨4, (some 19), .move (.tmp 23), none, []⟩, ⟨5, (some 24), .ext (.tmp 19) 0, none, []⟩, ⟨6, (some 25), .ext (.tmp 19) 1, none, []⟩, ⟨7, (some 7), .move (.tmp 24), none, []⟩, ⟨8, (some 8), .move (.tmp 25), none, []⟩])
 (.seq (.region false [⟨0, (some 27), .loadN (.tmp 3) 3, none, []⟩, ⟨1, (some 28), .move (.tmp 1), none, []⟩, ⟨2, (some 29), .move (.tmp 2), none, []⟩, ⟨3, (some 30), .callF 30 [(.tmp 27), (.tmp 28), (.tmp 29)], none, []⟩, ⟨4, (some 26), .move (.tmp 30), none, []⟩, ⟨5, (some 31), .ext (.tmp 26) 0, none, []⟩, ⟨6, (some 32), .ext (.tmp 26) 1, none, []⟩, ⟨7, (some 9), .move (.tmp 31), none, []⟩, ⟨8, (some 10), .move (.tmp 32), none, []⟩])
 (.seq (.region false [⟨0, (some 33), .move (.tmp 7), none, []⟩, ⟨1, (some 34), .move (.tmp 9), none, []⟩, ⟨2, (some 35), .ibin .eql .i64 (.tmp 33) (.tmp 34), none, []⟩, ⟨3, (some 36), .move (.tmp 35), none, []⟩, ⟨4, (some 37), .move (.tmp 8), (some (36, true)), []⟩, ⟨5, (some 38), .move (.tmp 10), (some (36, true)), []⟩, ⟨6, (some 39), .ibin .eql .i64 (.tmp 37) (.tmp 38), (some (36, true)), []⟩, ⟨7, (some 40), .pick (.tmp 36) (.tmp 39) (.const (.bool false)), none, []⟩, ⟨8, (some 41), .move (.tmp 40), none, []⟩, ⟨9, (some 42), .callF 16 [], (some (41, true)), []⟩, ⟨10, (some 43), .pick (.tmp 41) (.tmp 42) (.const (.bool false)), none, []⟩, ⟨11, (some 6), .move (.tmp 43), none, []⟩])
 .ret))))), [.tmp 6]⟩
/- bellarmine/bellarminelaw01.large -/
def pf15 : PF := ⟨6, (.seq (.region false [⟨0, (some 2), .move (.const (.bool false)), none, []⟩])
 (.seq (.region false [⟨0, (some 3), .move (.tmp 0), none, []⟩, ⟨1, (some 4), .len (.tmp 3), none, []⟩, ⟨2, (some 5), .ibin .gtr .i64 (.tmp 4) (.const (.int .i64 60)), none, []⟩, ⟨3, (some 2), .move (.tmp 5), none, []⟩])
 .ret)), [.tmp 2]⟩
/- bellarmine/ebb.Sills -/
def pf17 : PF := ⟨19, (.seq (.region false [⟨0, (some 1), .box 24 (.tmp 0), none, []⟩, ⟨1, (some 2), .move (.const (.slice none 0 0)), none, []⟩, ⟨2, (some 3), .move (.const (.int .i64 0)), none, []⟩])
 (.seq (.region false [⟨0, (some 8), .loadN (.tmp 1) 3, none, []⟩, ⟨1, (some 9), .callF 55 [(.tmp 8)], none, []⟩, ⟨2, (some 7), .move (.tmp 9), none, []⟩, ⟨3, (some 10), .ext (.tmp 7) 0, none, []⟩, ⟨4, (some 11), .ext (.tmp 7) 1, none, []⟩, ⟨5, (some 4), .move (.tmp 10), none, []⟩, ⟨6, (some 5), .move (.tmp 11), none, []⟩])
 (.seq (.seq (.region false [⟨0, (some 12), .move (.tmp 5), none, []⟩, ⟨1, (some 13), .ibin .neq .i64 (.tmp 12) (.const (.int .i64 0)), none, []⟩])
 (.cond (.tmp 13) (.seq (.region false [⟨0, (some 14), .move (.tmp 5), none, []⟩, ⟨1, (some 2), .move (.const (.slice none 0 0)), none, []⟩, ⟨2, (some 3), .move (.tmp 14), none, []⟩])
 .ret) .skip))
 (.seq (.region false [⟨0, (some 15), .move (.tmp 4), none, []⟩, ⟨1, (some 16), .callF 56 [(.tmp 15)], none, []⟩, ⟨2, (some 6), .new 86 (List.replicate 37 (.int .i64 0)), none, []⟩, ⟨3, none, .store (.tmp 6) (.tmp 16) 37, none, []⟩])
 (.seq (.region false [⟨0, (some 17), .move (.tmp 4), none, []⟩, ⟨1, (some 18), .callF 57 [(.tmp 17), (.tmp 6)], none, []⟩, ⟨2, (some 2), .move (.tmp 18), none, []⟩, ⟨3, (some 3), .move (.const (.int .i64 0)), none, []⟩])
 .ret))))), [.tmp 2, .tmp 3]⟩
/- bellarmine/ebb.Depths -/
def pf19 : PF := ⟨23, (.seq (.region false [⟨0, (some 2), .box 24 (.tmp 0), none, []⟩, ⟨1, (some 4), .move (.const (.slice none 0 0)), none, []⟩, ⟨2, (some 5), .move (.const (.int .i64 0)), none, []⟩])
 (.seq (.region false [⟨0, (some 10), .loadN (.tmp 2) 3, none, []⟩, ⟨1, (some 11), .move (.tmp 1), none, []⟩, ⟨2, (some 12), .callF 59 [(.tmp 10), (.tmp 11)], none, []⟩, ⟨3, (some 9), .move (.tmp 12), none, []⟩, ⟨4, (some 13), .ext (.tmp 9) 0, none, []⟩, ⟨5, (some 14), .ext (.tmp 9) 1, none, []⟩, ⟨6, (some 6), .move (.tmp 13), none, []⟩, ⟨7, (some 7), .move (.tmp 14), none, []⟩])
 (.seq (.seq (.region false [⟨0, (some 15), .move (.tmp 7), none, []⟩, ⟨1, (some 16), .ibin .neq .i64 (.tmp 15) (.const (.int .i64 0)), none, []⟩])
 (.cond (.tmp 16) (.seq (.region false [⟨0, (some 17), .move (.tmp 7), none, []⟩, ⟨1, (some 4), .move (.const (.slice none 0 0)), none, []⟩, ⟨2, (some 5), .move (.tmp 17), none, []⟩])
 .ret) .skip))
 (.seq (.region false [⟨0, (some 18), .move (.tmp 6), none, []⟩, ⟨1, (some 19), .move (.tmp 1), none, []⟩, ⟨2, (some 20), .callF 60 [(.tmp 18), (.tmp 19)], none, []⟩, ⟨3, (some 8), .new 86 (List.replicate 37 (.int .i64 0)), none, []⟩, ⟨4, none, .store (.tmp 8) (.tmp 20) 37, none, []⟩])
 (.seq (.region false [⟨0, (some 21), .move (.tmp 6), none, []⟩, ⟨1, (some 22), .callF 57 [(.tmp 21), (.tmp 8)], none, []⟩, ⟨2, (some 4), .move (.tmp 22), none, []⟩, ⟨3, (some 5), .move (.const (.int .i64 0)), none, []⟩])
 .ret))))), [.tmp 4, .tmp 5]⟩
/- bellarmine/ebb.Check -/
def pf22 : PF := ⟨26, (.seq (.region false [⟨0, (some 1), .box 24 (.tmp 0), none, []⟩, ⟨1, (some 2), .move (.const (.int .i64 0)), none, []⟩])
 (.seq (.seq (.region false [⟨0, (some 3), .fieldAddr (.tmp 1) 0, none, []⟩, ⟨1, (some 4), .load1 (.tmp 3), none, []⟩, ⟨2, (some 5), .callF 63 [(.tmp 4), (.const (.int .i64 1)), (.const (.int .i64 6))], none, []⟩, ⟨3, (some 6), .not (.tmp 5), none, []⟩, ⟨4, (some 7), .move (.tmp 6), none, []⟩, ⟨5, (some 8), .fieldAddr (.tmp 1) 1, (some (7, false)), []⟩, ⟨6, (some 9), .load1 (.tmp 8), (some (7, false)), []⟩, ⟨7, (some 10), .callF 63 [(.tmp 9), (.const (.int .i64 1)), (.const (.int .i64 6))], (some (7, false)), []⟩, ⟨8, (some 11), .not (.tmp 10), (some (7, false)), []⟩, ⟨9, (some 12), .pick (.tmp 7) (.const (.bool true)) (.tmp 11), none, []⟩])
 (.cond (.tmp 12) (.seq (.region false [⟨0, (some 2), .move (.const (.int .i64 1)), none, []⟩])
 .ret) .skip))
 (.seq (.seq (.region false [⟨0, (some 13), .fieldAddr (.tmp 1) 2, none, []⟩, ⟨1, (some 14), .load1 (.tmp 13), none, []⟩, ⟨2, (some 15), .len (.tmp 14), none, []⟩, ⟨3, (some 16), .fieldAddr (.tmp 1) 0, none, []⟩, ⟨4, (some 17), .load1 (.tmp 16), none, []⟩, ⟨5, (some 18), .fieldAddr (.tmp 1) 1, none, []⟩, ⟨6, (some 19), .load1 (.tmp 18), none, []⟩, ⟨7, (some 20), .ibin .mul .i64 (.tmp 17) (.tmp 19), none, []⟩, ⟨8, (some 21), .ibin .neq .i64 (.tmp 15) (.tmp 20), none, []⟩])
 (.cond (.tmp 21) (.seq (.region false [⟨0, (some 2), .move (.const (.int .i64 5)), none, []⟩])
 .ret) .skip))
 (.seq (.seq (.region false [⟨0, (some 22), .fieldAddr (.tmp 1) 2, none, []⟩, ⟨1, (some 23), .load1 (.tmp 22), none, []⟩, ⟨2, (some 24), .callF 64 [(.tmp 23)], none, []⟩, ⟨3, (some 25), .not (.tmp 24), none, []⟩])
 (.cond (.tmp 25) (.seq (.region false [⟨0, (some 2), .move (.const (.int .i64 1)), none, []⟩])
 .ret) .skip))
 (.seq (.region false [⟨0, (some 2), .move (.const (.int .i64 0)), none, []⟩])
 .ret))))), [.tmp 2]⟩
/- bellarmine/bellarmineref01.Check -/
def pf23 : PF := ⟨37, (.seq (.region false [⟨0, (some 1), .box 27 (.tmp 0), none, []⟩, ⟨1, (some 2), .move (.const (.int .i64 0)), none, []⟩])
 (.seq (.seq (.region false [⟨0, (some 4), .fieldAddr (.tmp 1) 0, none, []⟩, ⟨1, (some 5), .load1 (.tmp 4), none, []⟩, ⟨2, (some 6), .callF 65 [(.tmp 5), (.const (.int .i64 1)), (.const (.int .i64 6))], none, []⟩, ⟨3, (some 7), .not (.tmp 6), none, []⟩, ⟨4, (some 8), .move (.tmp 7), none, []⟩, ⟨5, (some 9), .fieldAddr (.tmp 1) 1, (some (8, false)), []⟩, ⟨6, (some 10), .load1 (.tmp 9), (some (8, false)), []⟩, ⟨7, (some 11), .callF 65 [(.tmp 10), (.const (.int .i64 1)), (.const (.int .i64 6))], (some (8, false)), []⟩, ⟨8, (some 12), .not (.tmp 11), (some (8, false)), []⟩, ⟨9, (some 13), .pick (.tmp 8) (.const (.bool true)) (.tmp 12), none, []⟩])
 (.cond (.tmp 13) (.seq (.region false [⟨0, (some 2), .move (.const (.int .i64 1)), none, []⟩])
 .ret) .skip))
 (.seq (.seq (.region false [⟨0, (some 14), .fieldAddr (.tmp 1) 2, none, []⟩, ⟨1, (some 15), .load1 (.tmp 14), none, []⟩, ⟨2, (some 16), .len (.tmp 15), none, []⟩, ⟨3, (some 17), .fieldAddr (.tmp 1) 0, none, []⟩, ⟨4, (some 18), .load1 (.tmp 17), none, []⟩, ⟨5, (some 19), .fieldAddr (.tmp 1) 1, none, []⟩, ⟨6, (some 20), .load1 (.tmp 19), none, []⟩, ⟨7, (some 21), .ibin .mul .i64 (.tmp 18) (.tmp 20), none, []⟩, ⟨8, (some 22), .ibin .neq .i64 (.tmp 16) (.tmp 21), none, []⟩])
 (.cond (.tmp 22) (.seq (.region false [⟨0, (some 2), .move (.const (.int .i64 5)), none, []⟩])
 .ret) .skip))
 (.seq (.seq (.region false [⟨0, (some 3), .move (.const (.int .i64 0)), none, []⟩])
 (.block 0 (.loop (.seq (.seq (.region false [⟨0, (some 23), .move (.tmp 3), none, []⟩, ⟨1, (some 24), .fieldAddr (.tmp 1) 2, none, []⟩, ⟨2, (some 25), .load1 (.tmp 24), none, []⟩, ⟨3, (some 26), .len (.tmp 25), none, []⟩, ⟨4, (some 27), .ibin .lss .i64 (.tmp 23) (.tmp 26), none, []⟩])
 (.cond (.tmp 27) .skip (.exit 0)))
 (.seq (.block 1 (.seq (.region false [⟨0, (some 30), .fieldAddr (.tmp 1) 2, none, []⟩, ⟨1, (some 31), .load1 (.tmp 30), none, []⟩, ⟨2, (some 32), .move (.tmp 3), none, []⟩, ⟨3, (some 33), .idxS (.tmp 31) (.tmp 32) 1, none, []⟩, ⟨4, (some 34), .load1 (.tmp 33), none, []⟩, ⟨5, (some 35), .callF 65 [(.tmp 34), (.const (.int .i64 0)), (.const (.int .i64 30))], none, []⟩, ⟨6, (some 36), .not (.tmp 35), none, []⟩])
 (.cond (.tmp 36) (.seq (.region false [⟨0, (some 2), .move (.const (.int .i64 1)), none, []⟩])
 .ret) .skip)))
 (.region false [⟨0, (some 28), .move (.tmp 3), none, []⟩, ⟨1, (some 29), .ibin .add .i64 (.tmp 28) (.const (.int .i64 1)), none, []⟩, ⟨2, (some 3), .move (.tmp 29), none, []⟩]))))))
 (.seq (.region false [⟨0, (some 2), .move (.const (.int .i64 0)), none, []⟩])
 .ret))))), [.tmp 2]⟩
/- bellarmine/ebb.Bare -/
def pf24 : PF := ⟨38, (.seq (.region false [⟨0, (some 2), .box 24 (.tmp 0), none, []⟩, ⟨1, (some 4), .move (.const (.slice none 0 0)), none, []⟩, ⟨2, (some 5), .move (.const (.int .i64 0)), none, []⟩])
 (.seq (.region false [⟨0, (some 12), .loadN (.tmp 2) 3, none, []⟩, ⟨1, (some 13), .move (.tmp 1), none, []⟩, ⟨2, (some 14), .callF 59 [(.tmp 12), (.tmp 13)], none, []⟩, ⟨3, (some 11), .move (.tmp 14), none, []⟩, ⟨4, (some 15), .ext (.tmp 11) 0, none, []⟩, ⟨5, (some 16), .ext (.tmp 11) 1, none, []⟩, ⟨6, (some 6), .move (.tmp 15), none, []⟩, ⟨7, (some 7), .move (.tmp 16), none, []⟩])
 (.seq (.seq (.region false [⟨0, (some 17), .move (.tmp 7), none, []⟩, ⟨1, (some 18), .ibin .neq .i64 (.tmp 17) (.const (.int .i64 0)), none, []⟩])
 (.cond (.tmp 18) (.seq (.region false [⟨0, (some 19), .move (.tmp 7), none, []⟩, ⟨1, (some 4), .move (.const (.slice none 0 0)), none, []⟩, ⟨2, (some 5), .move (.tmp 19), none, []⟩])
 .ret) .skip))
 (.seq (.region false [⟨0, (some 20), .move (.tmp 6), none, []⟩, ⟨1, (some 21), .move (.tmp 1), none, []⟩, ⟨2, (some 22), .callF 60 [(.tmp 20), (.tmp 21)], none, []⟩, ⟨3, (some 8), .new 86 (List.replicate 37 (.int .i64 0)), none, []⟩, ⟨4, none, .store (.tmp 8) (.tmp 22) 37, none, []⟩])
 (.seq (.region false [⟨0, (some 9), .new 97 (List.replicate 37 (.bool false)), none, []⟩])
 (.seq (.seq (.region false [⟨0, (some 23), .move (.tmp 6), none, []⟩, ⟨1, (some 24), .nilCheck (.tmp 23), none, []⟩, ⟨2, (some 25), .fieldAddr (.tmp 24) 1, none, []⟩, ⟨3, (some 26), .load1 (.tmp 25), none, []⟩, ⟨4, (some 27), .move (.const (.int .i64 0)), none, []⟩])
 (.block 0 (.loop (.seq (.region false [⟨0, (some 28), .ibin .lss .i64 (.tmp 27) (.tmp 26), none, []⟩])
 (.seq (.cond (.tmp 28) .skip (.exit 0))
 (.seq (.block 1 (.seq (.region false [⟨0, (some 29), .move (.tmp 27), none, []⟩, ⟨1, (some 10), .move (.tmp 29), none, []⟩])
 (.region false [⟨0, (some 30), .move (.tmp 10), none, []⟩, ⟨1, (some 31), .move (.tmp 10), none, []⟩, ⟨2, (some 32), .idxA (.tmp 8) (.tmp 31) 37 1, none, []⟩, ⟨3, (some 33), .load1 (.tmp 32), none, []⟩, ⟨4, (some 34), .ibin .eql .i64 (.tmp 33) (.const (.int .i64 0)), none, []⟩, ⟨5, (some 35), .idxA (.tmp 9) (.tmp 30) 37 1, none, []⟩, ⟨6, none, .store (.tmp 35) (.tmp 34) 1, none, []⟩])))
 (.region false [⟨0, (some 36), .ibin .add .i64 (.tmp 27) (.const (.int .i64 1)), none, []⟩, ⟨1, (some 27), .move (.tmp 36), none, []⟩])))))))
 (.seq (.region false [⟨0, (some 37), .callF 66 [(.tmp 9)], none, []⟩, ⟨1, (some 4), .move (.tmp 37), none, []⟩, ⟨2, (some 5), .move (.const (.int .i64 0)), none, []⟩])
 .ret))))))), [.tmp 4, .tmp 5]⟩
/- bellarmine/ebb.Hour -/
def pf29 : PF := ⟨45, (.seq (.region false [⟨0, (some 3), .box 24 (.tmp 0), none, []⟩, ⟨1, (some 6), .move (.const (.int .i64 0)), none, []⟩, ⟨2, (some 7), .move (.const (.int .i64 0)), none, []⟩])
 (.seq (.region false [⟨0, (some 13), .loadN (.tmp 3) 3, none, []⟩, ⟨1, (some 14), .callF 55 [(.tmp 13)], none, []⟩, ⟨2, (some 12), .move (.tmp 14), none, []⟩, ⟨3, (some 15), .ext (.tmp 12) 0, none, []⟩, ⟨4, (some 16), .ext (.tmp 12) 1, none, []⟩, ⟨5, (some 8), .move (.tmp 15), none, []⟩, ⟨6, (some 9), .move (.tmp 16), none, []⟩])
 (.seq (.seq (.region false [⟨0, (some 17), .move (.tmp 9), none, []⟩, ⟨1, (some 18), .ibin .neq .i64 (.tmp 17) (.const (.int .i64 0)), none, []⟩])
 (.cond (.tmp 18) (.seq (.region false [⟨0, (some 19), .move (.tmp 9), none, []⟩, ⟨1, (some 6), .move (.const (.int .i64 0)), none, []⟩, ⟨2, (some 7), .move (.tmp 19), none, []⟩])
 .ret) .skip))
 (.seq (.seq (.region false [⟨0, (some 20), .move (.tmp 1), none, []⟩, ⟨1, (some 21), .len (.tmp 20), none, []⟩, ⟨2, (some 22), .ibin .gtr .i64 (.tmp 21) (.const (.int .i64 24)), none, []⟩])
 (.cond (.tmp 22) (.seq (.region false [⟨0, (some 6), .move (.const (.int .i64 0)), none, []⟩, ⟨1, (some 7), .move (.const (.int .i64 3)), none, []⟩])
 .ret) .skip))
 (.seq (.seq (.region false [⟨0, (some 23), .move (.tmp 1), none, []⟩, ⟨1, (some 24), .callF 64 [(.tmp 23)], none, []⟩, ⟨2, (some 25), .not (.tmp 24), none, []⟩])
 (.cond (.tmp 25) (.seq (.region false [⟨0, (some 6), .move (.const (.int .i64 0)), none, []⟩, ⟨1, (some 7), .move (.const (.int .i64 1)), none, []⟩])
 .ret) .skip))
 (.seq (.seq (.region false [⟨0, (some 26), .move (.tmp 8), none, []⟩, ⟨1, (some 27), .move (.tmp 2), none, []⟩, ⟨2, (some 28), .callF 70 [(.tmp 26), (.tmp 27)], none, []⟩, ⟨3, (some 29), .not (.tmp 28), none, []⟩])
 (.cond (.tmp 29) (.seq (.region false [⟨0, (some 6), .move (.const (.int .i64 0)), none, []⟩, ⟨1, (some 7), .move (.const (.int .i64 2)), none, []⟩])
 .ret) .skip))
 (.seq (.seq (.region false [⟨0, (some 30), .move (.tmp 1), none, []⟩, ⟨1, (some 31), .len (.tmp 30), none, []⟩, ⟨2, (some 32), .move (.const (.int .i64 0)), none, []⟩])
 (.block 0 (.loop (.seq (.region false [⟨0, (some 33), .ibin .lss .i64 (.tmp 32) (.tmp 31), none, []⟩])
 (.seq (.cond (.tmp 33) .skip (.exit 0))
 (.seq (.block 1 (.seq (.region false [⟨0, (some 34), .move (.tmp 32), none, []⟩, ⟨1, (some 35), .idxS (.tmp 30) (.tmp 32) 1, none, []⟩, ⟨2, (some 36), .load1 (.tmp 35), none, []⟩, ⟨3, (some 10), .move (.tmp 34), none, []⟩, ⟨4, (some 11), .move (.tmp 36), none, []⟩])
 (.seq (.region false [⟨0, (some 37), .move (.tmp 8), none, []⟩, ⟨1, (some 38), .move (.tmp 11), none, []⟩, ⟨2, (some 39), .callF 60 [(.tmp 37), (.tmp 38)], none, []⟩, ⟨3, (some 40), .move (.tmp 2), none, []⟩, ⟨4, (some 41), .idx (.tmp 39) (.tmp 40) 37 1 false, none, []⟩, ⟨5, (some 42), .ibin .eql .i64 (.tmp 41) (.const (.int .i64 0)), none, []⟩])
 (.cond (.tmp 42) (.seq (.region false [⟨0, (some 43), .move (.tmp 10), none, []⟩, ⟨1, (some 6), .move (.tmp 43), none, []⟩, ⟨2, (some 7), .move (.const (.int .i64 0)), none, []⟩])
 .ret) .skip))))
 (.region false [⟨0, (some 44), .ibin .add .i64 (.tmp 32) (.const (.int .i64 1)), none, []⟩, ⟨1, (some 32), .move (.tmp 44), none, []⟩])))))))
 (.seq (.region false [⟨0, (some 6), .move (.const (.int .i64 0)), none, []⟩, ⟨1, (some 7), .move (.const (.int .i64 12)), none, []⟩])
 .ret)))))))), [.tmp 6, .tmp 7]⟩
/- bellarmine/bellarmineref01.Hour -/
def pf30 : PF := ⟨50, (.seq (.region false [⟨0, (some 3), .box 27 (.tmp 0), none, []⟩, ⟨1, (some 6), .move (.const (.int .i64 0)), none, []⟩, ⟨2, (some 7), .move (.const (.int .i64 0)), none, []⟩])
 (.seq (.region false [⟨0, (some 11), .loadN (.tmp 3) 3, none, []⟩, ⟨1, (some 12), .callF 23 [(.tmp 11)], none, []⟩, ⟨2, (some 8), .move (.tmp 12), none, []⟩])
 (.seq (.seq (.region false [⟨0, (some 13), .move (.tmp 8), none, []⟩, ⟨1, (some 14), .ibin .neq .i64 (.tmp 13) (.const (.int .i64 0)), none, []⟩])
 (.cond (.tmp 14) (.seq (.region false [⟨0, (some 15), .move (.tmp 8), none, []⟩, ⟨1, (some 6), .move (.const (.int .i64 0)), none, []⟩, ⟨2, (some 7), .move (.tmp 15), none, []⟩])
 .ret) .skip))
 (.seq (.seq (.region false [⟨0, (some 16), .move (.tmp 1), none, []⟩, ⟨1, (some 17), .len (.tmp 16), none, []⟩, ⟨2, (some 18), .ibin .gtr .i64 (.tmp 17) (.const (.int .i64 24)), none, []⟩])
 (.cond (.tmp 18) (.seq (.region false [⟨0, (some 6), .move (.const (.int .i64 0)), none, []⟩, ⟨1, (some 7), .move (.const (.int .i64 3)), none, []⟩])
 .ret) .skip))
 (.seq (.seq (.region false [⟨0, (some 9), .move (.const (.int .i64 0)), none, []⟩])
 (.block 0 (.loop (.seq (.seq (.region false [⟨0, (some 19), .move (.tmp 9), none, []⟩, ⟨1, (some 20), .move (.tmp 1), none, []⟩, ⟨2, (some 21), .len (.tmp 20), none, []⟩, ⟨3, (some 22), .ibin .lss .i64 (.tmp 19) (.tmp 21), none, []⟩])
 (.cond (.tmp 22) .skip (.exit 0)))
 (.seq (.block 1 (.seq (.region false [⟨0, (some 25), .move (.tmp 1), none, []⟩, ⟨1, (some 26), .move (.tmp 9), none, []⟩, ⟨2, (some 27), .idxS (.tmp 25) (.tmp 26) 1, none, []⟩, ⟨3, (some 28), .load1 (.tmp 27), none, []⟩, ⟨4, (some 29), .callF 65 [(.tmp 28), (.const (.int .i64 0)), (.const (.int .i64 30))], none, []⟩, ⟨5, (some 30), .not (.tmp 29), none, []⟩])
 (.cond (.tmp 30) (.seq (.region false [⟨0, (some 6), .move (.const (.int .i64 0)), none, []⟩, ⟨1, (some 7), .move (.const (.int .i64 1)), none, []⟩])
 .ret) .skip)))
 (.region false [⟨0, (some 23), .move (.tmp 9), none, []⟩, ⟨1, (some 24), .ibin .add .i64 (.tmp 23) (.const (.int .i64 1)), none, []⟩, ⟨2, (some 9), .move (.tmp 24), none, []⟩]))))))
 (.seq (.seq (.region false [⟨0, (some 31), .loadN (.tmp 3) 3, none, []⟩, ⟨1, (some 32), .move (.tmp 2), none, []⟩, ⟨2, (some 33), .callF 71 [(.tmp 31), (.tmp 32)], none, []⟩, ⟨3, (some 34), .not (.tmp 33), none, []⟩])
 (.cond (.tmp 34) (.seq (.region false [⟨0, (some 6), .move (.const (.int .i64 0)), none, []⟩, ⟨1, (some 7), .move (.const (.int .i64 2)), none, []⟩])
 .ret) .skip))
 (.seq (.seq (.region false [⟨0, (some 10), .move (.const (.int .i64 0)), none, []⟩])
 (.block 2 (.loop (.seq (.seq (.region false [⟨0, (some 35), .move (.tmp 10), none, []⟩, ⟨1, (some 36), .move (.tmp 1), none, []⟩, ⟨2, (some 37), .len (.tmp 36), none, []⟩, ⟨3, (some 38), .ibin .lss .i64 (.tmp 35) (.tmp 37), none, []⟩])
 (.cond (.tmp 38) .skip (.exit 2)))
 (.seq (.block 3 (.seq (.region true [⟨0, (some 41), .loadN (.tmp 3) 3, none, []⟩, ⟨1, (some 42), .move (.tmp 1), none, []⟩, ⟨2, (some 43), .move (.tmp 10), none, []⟩, ⟨3, (some 44), .idxS (.tmp 42) (.tmp 43) 1, none, []⟩, ⟨4, (some 45), .load1 (.tmp 44), none, []⟩, ⟨5, (some 46), .move (.tmp 2), none, []⟩, ⟨6, (some 47), .callF 62 [(.tmp 41), (.tmp 45), (.tmp 46)], none, []⟩, ⟨7, (some 48), .ibin .leq .i64 (.tmp 47) (.const (.int .i64 0)), none, []⟩])
 (.cond (.tmp 48) (.seq (.region false [⟨0, (some 49), .move (.tmp 10), none, []⟩, ⟨1, (some 6), .move (.tmp 49), none, []⟩, ⟨2, (some 7), .move (.const (.int .i64 0)), none, []⟩])
 .ret) .skip)))
 (.region false [⟨0, (some 39), .move (.tmp 10), none, []⟩, ⟨1, (some 40), .ibin .add .i64 (.tmp 39) (.const (.int .i64 1)), none, []⟩, ⟨2, (some 10), .move (.tmp 40), none, []⟩]))))))
 (.seq (.region false [⟨0, (some 6), .move (.const (.int .i64 0)), none, []⟩, ⟨1, (some 7), .move (.const (.int .i64 12)), none, []⟩])
 .ret)))))))), [.tmp 6, .tmp 7]⟩
/- (bellarmine/bellarminelaw01.Strand).made -/
def pf42 : PF := ⟨43, (.seq (.region false [⟨0, (some 2), .box 60 (.tmp 0), none, []⟩, ⟨1, (some 4), .new 24 [(.int .i64 0), (.int .i64 0), (.slice none 0 0)], none, []⟩])
 (.seq (.region true [⟨0, (some 8), .fieldAddr (.tmp 2) 0, none, []⟩, ⟨1, (some 9), .load1 (.tmp 8), none, []⟩, ⟨2, (some 10), .plain ⟨(some 10), .convert 5 3 (.tmp 9), 3, (String.ofList [Char.ofNat 111, Char.ofNat 117, Char.ofNat 116, Char.ofNat 114, Char.ofNat 105, Char.ofNat 103, Char.ofNat 104, Char.ofNat 116, Char.ofNat 46, Char.ofNat 103, Char.ofNat 111, Char.ofNat 58, Char.ofNat 50, Char.ofNat 48]), #[⟨1, .data⟩], none⟩, none, []⟩, ⟨3, (some 11), .move (.tmp 1), none, []⟩, ⟨4, (some 12), .ibin .rem .i64 (.tmp 10) (.tmp 11), none, []⟩, ⟨5, (some 13), .ibin .add .i64 (.const (.int .i64 1)) (.tmp 12), none, []⟩, ⟨6, (some 14), .fieldAddr (.tmp 2) 1, none, []⟩, ⟨7, (some 15), .load1 (.tmp 14), none, []⟩, ⟨8, (some 16), .plain ⟨(some 16), .convert 5 3 (.tmp 15), 3, (String.ofList [Char.ofNat 111, Char.ofNat 117, Char.ofNat 116, Char.ofNat 114, Char.ofNat 105, Char.ofNat 103, Char.ofNat 104, Char.ofNat 116, Char.ofNat 46, Char.ofNat 103, Char.ofNat 111, Char.ofNat 58, Char.ofNat 50, Char.ofNat 48]), #[⟨7, .data⟩], none⟩, none, []⟩, ⟨9, (some 17), .move (.tmp 1), none, []⟩, ⟨10, (some 18), .ibin .rem .i64 (.tmp 16) (.tmp 17), none, []⟩, ⟨11, (some 19), .ibin .add .i64 (.const (.int .i64 1)) (.tmp 18), none, []⟩, ⟨12, (some 20), .bldT [(.int .i64 0), (.int .i64 0), (.slice none 0 0)] [(0, 1), (1, 1), (2, 1)] [(0, (.tmp 13)), (1, (.tmp 19))], none, []⟩, ⟨13, (some 5), .new 24 [(.int .i64 0), (.int .i64 0), (.slice none 0 0)], none, [1, 7]⟩, ⟨14, none, .store (.tmp 5) (.tmp 20) 3, none, []⟩])
 (.seq (.seq (.region false [⟨0, (some 21), .fieldAddr (.tmp 2) 2, none, []⟩, ⟨1, (some 22), .fieldAddr (.tmp 5) 0, none, []⟩, ⟨2, (some 23), .load1 (.tmp 22), none, []⟩, ⟨3, (some 24), .fieldAddr (.tmp 5) 1, none, []⟩, ⟨4, (some 25), .load1 (.tmp 24), none, []⟩, ⟨5, (some 26), .ibin .mul .i64 (.tmp 23) (.tmp 25), none, []⟩, ⟨6, (some 27), .slA (.tmp 21) 36 1 none (some (.tmp 26)) none, none, []⟩, ⟨7, (some 28), .len (.tmp 27), none, []⟩, ⟨8, (some 29), .move (.const (.int .i64 0)), none, []⟩])
 (.block 0 (.loop (.seq (.region false [⟨0, (some 30), .ibin .lss .i64 (.tmp 29) (.tmp 28), none, []⟩])
 (.seq (.cond (.tmp 30) .skip (.exit 0))
 (.seq (.block 1 (.seq (.region false [⟨0, (some 31), .idxS (.tmp 27) (.tmp 29) 1, none, []⟩, ⟨1, (some 32), .load1 (.tmp 31), none, []⟩, ⟨2, (some 7), .move (.tmp 32), none, []⟩])
 (.region false [⟨0, (some 33), .fieldAddr (.tmp 5) 2, none, []⟩, ⟨1, (some 34), .load1 (.tmp 33), none, []⟩, ⟨2, (some 35), .move (.tmp 7), none, []⟩, ⟨3, (some 36), .plain ⟨(some 36), .convert 5 3 (.tmp 35), 3, (String.ofList [Char.ofNat 111, Char.ofNat 117, Char.ofNat 116, Char.ofNat 114, Char.ofNat 105, Char.ofNat 103, Char.ofNat 104, Char.ofNat 116, Char.ofNat 46, Char.ofNat 103, Char.ofNat 111, Char.ofNat 58, Char.ofNat 50, Char.ofNat 50]), #[⟨2, .data⟩], none⟩, none, []⟩, ⟨4, (some 37), .ibin .rem .i64 (.tmp 36) (.const (.int .i64 31)), none, []⟩, ⟨5, (some 38), .bldS 3 1 [(.int .i64 0)] 1 [(0, (.tmp 37))], none, []⟩, ⟨6, (some 39), .append 3 1 (.tmp 34) (.tmp 38), none, []⟩, ⟨7, (some 40), .fieldAddr (.tmp 5) 2, none, []⟩, ⟨8, none, .store (.tmp 40) (.tmp 39) 1, none, []⟩])))
 (.region false [⟨0, (some 41), .ibin .add .i64 (.tmp 29) (.const (.int .i64 1)), none, []⟩, ⟨1, (some 29), .move (.tmp 41), none, []⟩])))))))
 (.seq (.region false [⟨0, (some 42), .loadN (.tmp 5) 3, none, []⟩, ⟨1, none, .store (.tmp 4) (.tmp 42) 3, none, []⟩])
 .ret)))), [.cell 4 (some 3)]⟩
/- bellarmine/bellarminelaw01.beside -/
def pf45 : PF := ⟨56, (.seq (.region false [⟨0, (some 3), .box 24 (.tmp 0), none, []⟩, ⟨1, (some 6), .move (.const (.bool false)), none, []⟩])
 (.seq (.region false [⟨0, (some 8), .fieldAddr (.tmp 3) 2, none, []⟩, ⟨1, (some 9), .load1 (.tmp 8), none, []⟩, ⟨2, (some 10), .len (.tmp 9), none, []⟩, ⟨3, (some 7), .move (.tmp 10), none, []⟩])
 (.seq (.seq (.region false [⟨0, (some 11), .move (.tmp 1), none, []⟩, ⟨1, (some 12), .move (.tmp 2), none, []⟩, ⟨2, (some 13), .plain ⟨(some 13), .call ⟨.builtin .max, #[(.tmp 11), (.tmp 12)], #[3, 3]⟩, 3, (String.ofList [Char.ofNat 111, Char.ofNat 117, Char.ofNat 116, Char.ofNat 114, Char.ofNat 105, Char.ofNat 103, Char.ofNat 104, Char.ofNat 116, Char.ofNat 46, Char.ofNat 103, Char.ofNat 111, Char.ofNat 58, Char.ofNat 51, Char.ofNat 48]), #[⟨0, .data⟩, ⟨1, .data⟩], none⟩, none, []⟩, ⟨3, (some 14), .move (.tmp 7), none, []⟩, ⟨4, (some 15), .ibin .eql .i64 (.tmp 13) (.tmp 14), none, []⟩])
 (.cond (.tmp 15) (.seq (.region false [⟨0, (some 16), .move (.tmp 1), none, []⟩, ⟨1, (some 17), .move (.tmp 2), none, []⟩, ⟨2, (some 18), .ibin .neq .i64 (.tmp 16) (.tmp 17), none, []⟩, ⟨3, (some 19), .move (.tmp 18), none, []⟩, ⟨4, (some 20), .move (.tmp 1), (some (19, true)), []⟩, ⟨5, (some 21), .move (.tmp 2), (some (19, true)), []⟩, ⟨6, (some 22), .plain ⟨(some 22), .call ⟨.builtin .min, #[(.tmp 20), (.tmp 21)], #[3, 3]⟩, 3, (String.ofList [Char.ofNat 111, Char.ofNat 117, Char.ofNat 116, Char.ofNat 114, Char.ofNat 105, Char.ofNat 103, Char.ofNat 104, Char.ofNat 116, Char.ofNat 46, Char.ofNat 103, Char.ofNat 111, Char.ofNat 58, Char.ofNat 51, Char.ofNat 49]), #[⟨4, .data⟩, ⟨5, .data⟩, ⟨3, .guard⟩], (some (3, true))⟩, (some (19, true)), []⟩, ⟨7, (some 23), .move (.tmp 7), (some (19, true)), []⟩, ⟨8, (some 24), .fieldAddr (.tmp 3) 1, (some (19, true)), []⟩, ⟨9, (some 25), .load1 (.tmp 24), (some (19, true)), []⟩, ⟨10, (some 26), .ibin .sub .i64 (.tmp 23) (.tmp 25), (some (19, true)), []⟩, ⟨11, (some 27), .ibin .geq .i64 (.tmp 22) (.tmp 26), (some (19, true)), []⟩, ⟨12, (some 28), .pick (.tmp 19) (.tmp 27) (.const (.bool false)), none, []⟩, ⟨13, (some 6), .move (.tmp 28), none, []⟩])
 .ret) .skip))
 (.seq (.seq (.region true [⟨0, (some 29), .move (.tmp 1), none, []⟩, ⟨1, (some 30), .fieldAddr (.tmp 3) 1, none, []⟩, ⟨2, (some 31), .load1 (.tmp 30), none, []⟩, ⟨3, (some 32), .ibin .quo .i64 (.tmp 29) (.tmp 31), none, []⟩, ⟨4, (some 33), .move (.tmp 2), none, []⟩, ⟨5, (some 34), .fieldAddr (.tmp 3) 1, none, []⟩, ⟨6, (some 35), .load1 (.tmp 34), none, []⟩, ⟨7, (some 36), .ibin .quo .i64 (.tmp 33) (.tmp 35), none, []⟩, ⟨8, (some 37), .ibin .eql .i64 (.tmp 32) (.tmp 36), none, []⟩])
 (.cond (.tmp 37) (.seq (.region false [⟨0, (some 38), .move (.tmp 1), none, []⟩, ⟨1, (some 39), .move (.tmp 2), none, []⟩, ⟨2, (some 40), .ibin .sub .i64 (.tmp 38) (.tmp 39), none, []⟩, ⟨3, (some 41), .move (.tmp 2), none, []⟩, ⟨4, (some 42), .move (.tmp 1), none, []⟩, ⟨5, (some 43), .ibin .sub .i64 (.tmp 41) (.tmp 42), none, []⟩, ⟨6, (some 44), .plain ⟨(some 44), .call ⟨.builtin .max, #[(.tmp 40), (.tmp 43)], #[3, 3]⟩, 3, (String.ofList [Char.ofNat 111, Char.ofNat 117, Char.ofNat 116, Char.ofNat 114, Char.ofNat 105, Char.ofNat 103, Char.ofNat 104, Char.ofNat 116, Char.ofNat 46, Char.ofNat 103, Char.ofNat 111, Char.ofNat 58, Char.ofNat 51, Char.ofNat 52]), #[⟨2, .data⟩, ⟨5, .data⟩], none⟩, none, []⟩, ⟨7, (some 45), .ibin .eql .i64 (.tmp 44) (.const (.int .i64 1)), none, []⟩, ⟨8, (some 6), .move (.tmp 45), none, []⟩])
 .ret) .skip))
 (.seq (.region false [⟨0, (some 46), .move (.tmp 1), none, []⟩, ⟨1, (some 47), .move (.tmp 2), none, []⟩, ⟨2, (some 48), .ibin .sub .i64 (.tmp 46) (.tmp 47), none, []⟩, ⟨3, (some 49), .move (.tmp 2), none, []⟩, ⟨4, (some 50), .move (.tmp 1), none, []⟩, ⟨5, (some 51), .ibin .sub .i64 (.tmp 49) (.tmp 50), none, []⟩, ⟨6, (some 52), .plain ⟨(some 52), .call ⟨.builtin .max, #[(.tmp 48), (.tmp 51)], #[3, 3]⟩, 3, (String.ofList [Char.ofNat 111, Char.ofNat 117, Char.ofNat 116, Char.ofNat 114, Char.ofNat 105, Char.ofNat 103, Char.ofNat 104, Char.ofNat 116, Char.ofNat 46, Char.ofNat 103, Char.ofNat 111, Char.ofNat 58, Char.ofNat 51, Char.ofNat 54]), #[⟨2, .data⟩, ⟨5, .data⟩], none⟩, none, []⟩, ⟨7, (some 53), .fieldAddr (.tmp 3) 1, none, []⟩, ⟨8, (some 54), .load1 (.tmp 53), none, []⟩, ⟨9, (some 55), .ibin .eql .i64 (.tmp 52) (.tmp 54), none, []⟩, ⟨10, (some 6), .move (.tmp 55), none, []⟩])
 .ret))))), [.tmp 6]⟩
/- slices.Clone[[]int,int] -/
def pf46 : PF := ⟨8, (.seq (.region false [⟨0, (some 2), .move (.const (.slice none 0 0)), none, []⟩])
 (.seq (.seq (.region false [⟨0, (some 3), .move (.tmp 0), none, []⟩, ⟨1, (some 4), .nilEq false .sl (.tmp 3), none, []⟩])
 (.cond (.tmp 4) (.seq (.region false [⟨0, (some 2), .move (.const (.slice none 0 0)), none, []⟩])
 .ret) .skip))
 (.seq (.region false [⟨0, (some 5), .bldS 3 1 [] 0 [], none, []⟩, ⟨1, (some 6), .move (.tmp 0), none, []⟩, ⟨2, (some 7), .append 3 1 (.tmp 5) (.tmp 6), none, []⟩, ⟨3, (some 2), .move (.tmp 7), none, []⟩])
 .ret))), [.tmp 2]⟩
/- slices.Contains[[]int,int] -/
def pf48 : PF := ⟨9, (.seq (.region false [⟨0, (some 4), .move (.const (.bool false)), none, []⟩])
 (.seq (.region false [⟨0, (some 5), .move (.tmp 0), none, []⟩, ⟨1, (some 6), .move (.tmp 1), none, []⟩, ⟨2, (some 7), .callF 86 [(.tmp 5), (.tmp 6)], none, []⟩, ⟨3, (some 8), .ibin .geq .i64 (.tmp 7) (.const (.int .i64 0)), none, []⟩, ⟨4, (some 4), .move (.tmp 8), none, []⟩])
 .ret)), [.tmp 4]⟩
/- bellarmine/ebb.lay -/
def pf55 : PF := ⟨12, (.seq (.region false [⟨0, (some 1), .box 24 (.tmp 0), none, []⟩, ⟨1, (some 2), .move (.const (.pointer none)), none, []⟩, ⟨2, (some 3), .move (.const (.int .i64 0)), none, []⟩])
 (.seq (.seq (.region false [⟨0, (some 5), .loadN (.tmp 1) 3, none, []⟩, ⟨1, (some 6), .callF 22 [(.tmp 5)], none, []⟩, ⟨2, (some 4), .move (.tmp 6), none, []⟩])
 (.seq (.region false [⟨0, (some 7), .move (.tmp 4), none, []⟩, ⟨1, (some 8), .ibin .neq .i64 (.tmp 7) (.const (.int .i64 0)), none, []⟩])
 (.cond (.tmp 8) (.seq (.region false [⟨0, (some 9), .move (.tmp 4), none, []⟩, ⟨1, (some 2), .move (.const (.pointer none)), none, []⟩, ⟨2, (some 3), .move (.tmp 9), none, []⟩])
 .ret) .skip)))
 (.seq (.region false [⟨0, (some 10), .loadN (.tmp 1) 3, none, []⟩, ⟨1, (some 11), .callF 88 [(.tmp 10)], none, []⟩, ⟨2, (some 2), .move (.tmp 11), none, []⟩, ⟨3, (some 3), .move (.const (.int .i64 0)), none, []⟩])
 .ret))), [.tmp 2, .tmp 3]⟩
/- (*bellarmine/ebb.grid).sills -/
def pf56 : PF := ⟨9, (.seq (.region false [⟨0, (some 2), .new 86 (List.replicate 37 (.int .i64 0)), none, []⟩])
 (.seq (.region false [⟨0, (some 3), .move (.tmp 0), none, []⟩, ⟨1, (some 4), .move (.tmp 0), none, []⟩, ⟨2, (some 5), .nilCheck (.tmp 4), none, []⟩, ⟨3, (some 6), .fieldAddr (.tmp 5) 1, none, []⟩, ⟨4, (some 7), .load1 (.tmp 6), none, []⟩, ⟨5, (some 8), .callF 80 [(.tmp 3), (.tmp 7)], none, []⟩, ⟨6, none, .store (.tmp 2) (.tmp 8) 37, none, []⟩])
 .ret)), [.cell 2 (some 37)]⟩
/- (*bellarmine/ebb.grid).list -/
def pf57 : PF := ⟨13, (.seq (.region false [⟨0, (some 4), .move (.const (.slice none 0 0)), none, []⟩])
 (.seq (.region true [⟨0, (some 5), .move (.tmp 1), none, []⟩, ⟨1, (some 6), .nilCheck (.tmp 5), none, []⟩, ⟨2, (some 7), .move (.tmp 0), none, []⟩, ⟨3, (some 8), .nilCheck (.tmp 7), none, []⟩, ⟨4, (some 9), .fieldAddr (.tmp 8) 1, none, []⟩, ⟨5, (some 10), .load1 (.tmp 9), none, []⟩, ⟨6, (some 11), .slA (.tmp 6) 37 1 none (some (.tmp 10)) none, none, []⟩, ⟨7, (some 12), .callF 46 [(.tmp 11)], none, []⟩, ⟨8, (some 4), .move (.tmp 12), none, []⟩])
 .ret)), [.tmp 4]⟩
/- bellarmine/bellarmineref01.sill -/
def pf58 : PF := ⟨29, (.seq (.region false [⟨0, (some 2), .box 27 (.tmp 0), none, []⟩, ⟨1, (some 4), .move (.const (.int .i64 0)), none, []⟩])
 (.seq (.seq (.region false [⟨0, (some 5), .move (.const (.int .i64 0)), none, []⟩])
 (.block 0 (.loop (.seq (.seq (.region false [⟨0, (some 8), .move (.tmp 5), none, []⟩, ⟨1, (some 9), .ibin .lss .i64 (.tmp 8) (.const (.int .i64 30)), none, []⟩])
 (.cond (.tmp 9) .skip (.exit 0)))
 (.seq (.block 1 (.seq (.region false [⟨0, (some 12), .loadN (.tmp 2) 3, none, []⟩, ⟨1, (some 13), .move (.tmp 1), none, []⟩, ⟨2, (some 14), .move (.tmp 5), none, []⟩, ⟨3, (some 15), .callF 76 [(.tmp 12), (.tmp 13), (.tmp 14)], none, []⟩, ⟨4, (some 6), .move (.tmp 15), none, []⟩])
 (.seq (.region false [⟨0, (some 7), .move (.const (.int .i64 0)), none, []⟩])
 (.block 2 (.loop (.seq (.seq (.region false [⟨0, (some 16), .move (.tmp 7), none, []⟩, ⟨1, (some 17), .move (.tmp 6), none, []⟩, ⟨2, (some 18), .len (.tmp 17), none, []⟩, ⟨3, (some 19), .ibin .lss .i64 (.tmp 16) (.tmp 18), none, []⟩])
 (.cond (.tmp 19) .skip (.exit 2)))
 (.seq (.block 3 (.seq (.region true [⟨0, (some 22), .loadN (.tmp 2) 3, none, []⟩, ⟨1, (some 23), .move (.tmp 6), none, []⟩, ⟨2, (some 24), .move (.tmp 7), none, []⟩, ⟨3, (some 25), .idxS (.tmp 23) (.tmp 24) 1, none, []⟩, ⟨4, (some 26), .load1 (.tmp 25), none, []⟩, ⟨5, (some 27), .callF 79 [(.tmp 22), (.tmp 26)], none, []⟩])
 (.cond (.tmp 27) (.seq (.region false [⟨0, (some 28), .move (.tmp 5), none, []⟩, ⟨1, (some 4), .move (.tmp 28), none, []⟩])
 .ret) .skip)))
 (.region false [⟨0, (some 20), .move (.tmp 7), none, []⟩, ⟨1, (some 21), .ibin .add .i64 (.tmp 20) (.const (.int .i64 1)), none, []⟩, ⟨2, (some 7), .move (.tmp 21), none, []⟩]))))))))
 (.region false [⟨0, (some 10), .move (.tmp 5), none, []⟩, ⟨1, (some 11), .ibin .add .i64 (.tmp 10) (.const (.int .i64 1)), none, []⟩, ⟨2, (some 5), .move (.tmp 11), none, []⟩]))))))
 (.seq (.region false [⟨0, (some 4), .move (.const (.int .i64 30)), none, []⟩])
 .ret))), [.tmp 4]⟩
/- bellarmine/ebb.layAt -/
def pf59 : PF := ⟨20, (.seq (.region false [⟨0, (some 2), .box 24 (.tmp 0), none, []⟩, ⟨1, (some 4), .move (.const (.pointer none)), none, []⟩, ⟨2, (some 5), .move (.const (.int .i64 0)), none, []⟩])
 (.seq (.region false [⟨0, (some 9), .loadN (.tmp 2) 3, none, []⟩, ⟨1, (some 10), .callF 55 [(.tmp 9)], none, []⟩, ⟨2, (some 8), .move (.tmp 10), none, []⟩, ⟨3, (some 11), .ext (.tmp 8) 0, none, []⟩, ⟨4, (some 12), .ext (.tmp 8) 1, none, []⟩, ⟨5, (some 6), .move (.tmp 11), none, []⟩, ⟨6, (some 7), .move (.tmp 12), none, []⟩])
 (.seq (.seq (.region false [⟨0, (some 13), .move (.tmp 7), none, []⟩, ⟨1, (some 14), .ibin .neq .i64 (.tmp 13) (.const (.int .i64 0)), none, []⟩])
 (.cond (.tmp 14) (.seq (.region false [⟨0, (some 15), .move (.tmp 7), none, []⟩, ⟨1, (some 4), .move (.const (.pointer none)), none, []⟩, ⟨2, (some 5), .move (.tmp 15), none, []⟩])
 .ret) .skip))
 (.seq (.seq (.region false [⟨0, (some 16), .move (.tmp 1), none, []⟩, ⟨1, (some 17), .callF 77 [(.tmp 16)], none, []⟩, ⟨2, (some 18), .not (.tmp 17), none, []⟩])
 (.cond (.tmp 18) (.seq (.region false [⟨0, (some 4), .move (.const (.pointer none)), none, []⟩, ⟨1, (some 5), .move (.const (.int .i64 1)), none, []⟩])
 .ret) .skip))
 (.seq (.region false [⟨0, (some 19), .move (.tmp 6), none, []⟩, ⟨1, (some 4), .move (.tmp 19), none, []⟩, ⟨2, (some 5), .move (.const (.int .i64 0)), none, []⟩])
 .ret))))), [.tmp 4, .tmp 5]⟩
/- (*bellarmine/ebb.grid).depths -/
def pf60 : PF := ⟨33, (.seq (.region false [⟨0, (some 4), .new 86 (List.replicate 37 (.int .i64 0)), none, []⟩])
 (.seq (.region false [⟨0, (some 8), .move (.tmp 0), none, []⟩, ⟨1, (some 9), .callF 56 [(.tmp 8)], none, []⟩, ⟨2, (some 5), .new 86 (List.replicate 37 (.int .i64 0)), none, []⟩, ⟨3, none, .store (.tmp 5) (.tmp 9) 37, none, []⟩])
 (.seq (.region false [⟨0, (some 6), .new 86 (List.replicate 37 (.int .i64 0)), none, []⟩])
 (.seq (.seq (.region false [⟨0, (some 10), .move (.tmp 0), none, []⟩, ⟨1, (some 11), .nilCheck (.tmp 10), none, []⟩, ⟨2, (some 12), .fieldAddr (.tmp 11) 1, none, []⟩, ⟨3, (some 13), .load1 (.tmp 12), none, []⟩, ⟨4, (some 14), .move (.const (.int .i64 0)), none, []⟩])
 (.block 0 (.loop (.seq (.region false [⟨0, (some 15), .ibin .lss .i64 (.tmp 14) (.tmp 13), none, []⟩])
 (.seq (.cond (.tmp 15) .skip (.exit 0))
 (.seq (.block 1 (.seq (.region false [⟨0, (some 16), .move (.tmp 14), none, []⟩, ⟨1, (some 7), .move (.tmp 16), none, []⟩])
 (.region true [⟨0, (some 17), .move (.tmp 7), none, []⟩, ⟨1, (some 18), .move (.tmp 7), none, []⟩, ⟨2, (some 19), .idxA (.tmp 5) (.tmp 18) 37 1, none, []⟩, ⟨3, (some 20), .load1 (.tmp 19), none, []⟩, ⟨4, (some 21), .move (.tmp 1), none, []⟩, ⟨5, (some 22), .plain ⟨(some 22), .call ⟨.builtin .max, #[(.tmp 20), (.tmp 21)], #[3, 3]⟩, 3, (String.ofList [Char.ofNat 103, Char.ofNat 114, Char.ofNat 105, Char.ofNat 100, Char.ofNat 46, Char.ofNat 103, Char.ofNat 111, Char.ofNat 58, Char.ofNat 49, Char.ofNat 48, Char.ofNat 51]), #[⟨3, .data⟩, ⟨4, .data⟩], none⟩, none, []⟩, ⟨6, (some 23), .move (.tmp 0), none, []⟩, ⟨7, (some 24), .move (.tmp 7), none, []⟩, ⟨8, (some 25), .nilCheck (.tmp 23), none, []⟩, ⟨9, (some 26), .fieldAddr (.tmp 25) 2, none, []⟩, ⟨10, (some 27), .idxA (.tmp 26) (.tmp 24) 37 1, none, []⟩, ⟨11, (some 28), .load1 (.tmp 27), none, []⟩, ⟨12, (some 29), .ibin .sub .i64 (.tmp 22) (.tmp 28), none, []⟩, ⟨13, (some 30), .idxA (.tmp 6) (.tmp 17) 37 1, none, []⟩, ⟨14, none, .store (.tmp 30) (.tmp 29) 1, none, []⟩])))
 (.region false [⟨0, (some 31), .ibin .add .i64 (.tmp 14) (.const (.int .i64 1)), none, []⟩, ⟨1, (some 14), .move (.tmp 31), none, []⟩])))))))
 (.seq (.region false [⟨0, (some 32), .loadN (.tmp 6) 37, none, []⟩, ⟨1, none, .store (.tmp 4) (.tmp 32) 37, none, []⟩])
 .ret))))), [.cell 4 (some 37)]⟩
/- bellarmine/bellarmineref01.depth -/
def pf62 : PF := ⟨18, (.seq (.region false [⟨0, (some 3), .box 27 (.tmp 0), none, []⟩, ⟨1, (some 6), .move (.const (.int .i64 0)), none, []⟩])
 (.seq (.region true [⟨0, (some 7), .loadN (.tmp 3) 3, none, []⟩, ⟨1, (some 8), .move (.tmp 2), none, []⟩, ⟨3, (some 10), .move (.tmp 1), none, []⟩, ⟨5, (some 12), .fieldAddr (.tmp 3) 2, none, []⟩, ⟨6, (some 13), .load1 (.tmp 12), none, []⟩, ⟨7, (some 14), .move (.tmp 2), none, []⟩, ⟨8, (some 15), .idxS (.tmp 13) (.tmp 14) 1, none, []⟩, ⟨9, (some 16), .load1 (.tmp 15), none, []⟩, ⟨2, (some 9), .callF 58 [(.tmp 7), (.tmp 8)], none, [6, 9]⟩, ⟨4, (some 11), .plain ⟨(some 11), .call ⟨.builtin .max, #[(.tmp 9), (.tmp 10)], #[3, 3]⟩, 3, (String.ofList [Char.ofNat 114, Char.ofNat 101, Char.ofNat 102, Char.ofNat 46, Char.ofNat 103, Char.ofNat 111, Char.ofNat 58, Char.ofNat 49, Char.ofNat 50, Char.ofNat 49]), #[⟨2, .data⟩, ⟨3, .data⟩], none⟩, none, []⟩, ⟨10, (some 17), .ibin .sub .i64 (.tmp 11) (.tmp 16), none, []⟩, ⟨11, (some 6), .move (.tmp 17), none, []⟩])
 .ret)), [.tmp 6]⟩
/- bellarmine/ebb.within -/
def pf63 : PF := ⟨15, (.seq (.region false [⟨0, (some 6), .move (.const (.bool false)), none, []⟩])
 (.seq (.region false [⟨0, (some 7), .move (.tmp 1), none, []⟩, ⟨1, (some 8), .move (.tmp 0), none, []⟩, ⟨2, (some 9), .ibin .leq .i64 (.tmp 7) (.tmp 8), none, []⟩, ⟨3, (some 10), .move (.tmp 9), none, []⟩, ⟨4, (some 11), .move (.tmp 0), (some (10, true)), []⟩, ⟨5, (some 12), .move (.tmp 2), (some (10, true)), []⟩, ⟨6, (some 13), .ibin .leq .i64 (.tmp 11) (.tmp 12), (some (10, true)), []⟩, ⟨7, (some 14), .pick (.tmp 10) (.tmp 13) (.const (.bool false)), none, []⟩, ⟨8, (some 6), .move (.tmp 14), none, []⟩])
 .ret)), [.tmp 6]⟩
/- bellarmine/ebb.allHeights -/
def pf64 : PF := ⟨15, (.seq (.region false [⟨0, (some 2), .move (.const (.bool false)), none, []⟩])
 (.seq (.seq (.region false [⟨0, (some 5), .move (.tmp 0), none, []⟩, ⟨1, (some 6), .len (.tmp 5), none, []⟩, ⟨2, (some 7), .move (.const (.int .i64 0)), none, []⟩])
 (.block 0 (.loop (.seq (.region false [⟨0, (some 8), .ibin .lss .i64 (.tmp 7) (.tmp 6), none, []⟩])
 (.seq (.cond (.tmp 8) .skip (.exit 0))
 (.seq (.block 1 (.seq (.region false [⟨0, (some 9), .idxS (.tmp 5) (.tmp 7) 1, none, []⟩, ⟨1, (some 10), .load1 (.tmp 9), none, []⟩, ⟨2, (some 4), .move (.tmp 10), none, []⟩])
 (.seq (.region false [⟨0, (some 11), .move (.tmp 4), none, []⟩, ⟨1, (some 12), .callF 77 [(.tmp 11)], none, []⟩, ⟨2, (some 13), .not (.tmp 12), none, []⟩])
 (.cond (.tmp 13) (.seq (.region false [⟨0, (some 2), .move (.const (.bool false)), none, []⟩])
 .ret) .skip))))
 (.region false [⟨0, (some 14), .ibin .add .i64 (.tmp 7) (.const (.int .i64 1)), none, []⟩, ⟨1, (some 7), .move (.tmp 14), none, []⟩])))))))
 (.seq (.region false [⟨0, (some 2), .move (.const (.bool true)), none, []⟩])
 .ret))), [.tmp 2]⟩
/- bellarmine/bellarmineref01.in -/
def pf65 : PF := ⟨15, (.seq (.region false [⟨0, (some 6), .move (.const (.bool false)), none, []⟩])
 (.seq (.region false [⟨0, (some 7), .move (.tmp 0), none, []⟩, ⟨1, (some 8), .move (.tmp 1), none, []⟩, ⟨2, (some 9), .ibin .geq .i64 (.tmp 7) (.tmp 8), none, []⟩, ⟨3, (some 10), .move (.tmp 9), none, []⟩, ⟨4, (some 11), .move (.tmp 0), (some (10, true)), []⟩, ⟨5, (some 12), .move (.tmp 2), (some (10, true)), []⟩, ⟨6, (some 13), .ibin .leq .i64 (.tmp 11) (.tmp 12), (some (10, true)), []⟩, ⟨7, (some 14), .pick (.tmp 10) (.tmp 13) (.const (.bool false)), none, []⟩, ⟨8, (some 6), .move (.tmp 14), none, []⟩])
 .ret)), [.tmp 6]⟩
/- (*bellarmine/ebb.marks).list -/
def pf66 : PF := ⟨20, (.seq (.region false [⟨0, (some 2), .move (.const (.slice none 0 0)), none, []⟩])
 (.seq (.region false [⟨0, (some 3), .move (.const (.slice none 0 0)), none, []⟩])
 (.seq (.seq (.region false [⟨0, (some 6), .move (.tmp 0), none, []⟩, ⟨1, (some 7), .move (.const (.int .i64 0)), none, []⟩])
 (.block 0 (.loop (.seq (.region false [⟨0, (some 8), .ibin .lss .i64 (.tmp 7) (.const (.int .i64 37)), none, []⟩])
 (.seq (.cond (.tmp 8) .skip (.exit 0))
 (.seq (.block 1 (.seq (.region true [⟨0, (some 9), .move (.tmp 7), none, []⟩, ⟨1, (some 10), .nilCheck (.tmp 6), none, []⟩, ⟨2, (some 11), .idxA (.tmp 10) (.tmp 7) 37 1, none, []⟩, ⟨3, (some 12), .load1 (.tmp 11), none, []⟩, ⟨4, (some 4), .move (.tmp 9), none, []⟩, ⟨5, (some 5), .move (.tmp 12), none, []⟩])
 (.seq (.region false [⟨0, (some 13), .move (.tmp 5), none, []⟩])
 (.cond (.tmp 13) (.region false [⟨0, (some 14), .move (.tmp 3), none, []⟩, ⟨1, (some 15), .move (.tmp 4), none, []⟩, ⟨2, (some 16), .bldS 3 1 [(.int .i64 0)] 1 [(0, (.tmp 15))], none, []⟩, ⟨3, (some 17), .append 3 1 (.tmp 14) (.tmp 16), none, []⟩, ⟨4, (some 3), .move (.tmp 17), none, []⟩]) .skip))))
 (.region false [⟨0, (some 18), .ibin .add .i64 (.tmp 7) (.const (.int .i64 1)), none, []⟩, ⟨1, (some 7), .move (.tmp 18), none, []⟩])))))))
 (.seq (.region false [⟨0, (some 19), .move (.tmp 3), none, []⟩, ⟨1, (some 2), .move (.tmp 19), none, []⟩])
 .ret)))), [.tmp 2]⟩
/- bellarmine/bellarmineref01.has -/
def pf68 : PF := ⟨18, (.seq (.region false [⟨0, (some 4), .move (.const (.bool false)), none, []⟩])
 (.seq (.seq (.region false [⟨0, (some 5), .move (.const (.int .i64 0)), none, []⟩])
 (.block 0 (.loop (.seq (.seq (.region false [⟨0, (some 6), .move (.tmp 5), none, []⟩, ⟨1, (some 7), .move (.tmp 0), none, []⟩, ⟨2, (some 8), .len (.tmp 7), none, []⟩, ⟨3, (some 9), .ibin .lss .i64 (.tmp 6) (.tmp 8), none, []⟩])
 (.cond (.tmp 9) .skip (.exit 0)))
 (.seq (.block 1 (.seq (.region false [⟨0, (some 12), .move (.tmp 0), none, []⟩, ⟨1, (some 13), .move (.tmp 5), none, []⟩, ⟨2, (some 14), .idxS (.tmp 12) (.tmp 13) 1, none, []⟩, ⟨3, (some 15), .load1 (.tmp 14), none, []⟩, ⟨4, (some 16), .move (.tmp 1), none, []⟩, ⟨5, (some 17), .ibin .eql .i64 (.tmp 15) (.tmp 16), none, []⟩])
 (.cond (.tmp 17) (.seq (.region false [⟨0, (some 4), .move (.const (.bool true)), none, []⟩])
 .ret) .skip)))
 (.region false [⟨0, (some 10), .move (.tmp 5), none, []⟩, ⟨1, (some 11), .ibin .add .i64 (.tmp 10) (.const (.int .i64 1)), none, []⟩, ⟨2, (some 5), .move (.tmp 11), none, []⟩]))))))
 (.seq (.region false [⟨0, (some 4), .move (.const (.bool false)), none, []⟩])
 .ret))), [.tmp 4]⟩
/- bellarmine/bellarmineref01.beside -/
def pf69 : PF := ⟨40, (.seq (.region false [⟨0, (some 3), .box 27 (.tmp 0), none, []⟩, ⟨1, (some 6), .move (.const (.bool false)), none, []⟩])
 (.seq (.seq (.region true [⟨0, (some 7), .move (.tmp 1), none, []⟩, ⟨1, (some 8), .fieldAddr (.tmp 3) 1, none, []⟩, ⟨2, (some 9), .load1 (.tmp 8), none, []⟩, ⟨3, (some 10), .ibin .quo .i64 (.tmp 7) (.tmp 9), none, []⟩, ⟨4, (some 11), .move (.tmp 2), none, []⟩, ⟨5, (some 12), .fieldAddr (.tmp 3) 1, none, []⟩, ⟨6, (some 13), .load1 (.tmp 12), none, []⟩, ⟨7, (some 14), .ibin .quo .i64 (.tmp 11) (.tmp 13), none, []⟩, ⟨8, (some 15), .ibin .eql .i64 (.tmp 10) (.tmp 14), none, []⟩])
 (.cond (.tmp 15) (.seq (.region false [⟨0, (some 16), .move (.tmp 1), none, []⟩, ⟨1, (some 17), .move (.tmp 2), none, []⟩, ⟨2, (some 18), .ibin .sub .i64 (.tmp 16) (.tmp 17), none, []⟩, ⟨3, (some 19), .ibin .eql .i64 (.tmp 18) (.const (.int .i64 1)), none, []⟩, ⟨4, (some 20), .move (.tmp 19), none, []⟩, ⟨5, (some 21), .move (.tmp 2), (some (20, false)), []⟩, ⟨6, (some 22), .move (.tmp 1), (some (20, false)), []⟩, ⟨7, (some 23), .ibin .sub .i64 (.tmp 21) (.tmp 22), (some (20, false)), []⟩, ⟨8, (some 24), .ibin .eql .i64 (.tmp 23) (.const (.int .i64 1)), (some (20, false)), []⟩, ⟨9, (some 25), .pick (.tmp 20) (.const (.bool true)) (.tmp 24), none, []⟩, ⟨10, (some 6), .move (.tmp 25), none, []⟩])
 .ret) .skip))
 (.seq (.region false [⟨0, (some 26), .move (.tmp 1), none, []⟩, ⟨1, (some 27), .move (.tmp 2), none, []⟩, ⟨2, (some 28), .ibin .sub .i64 (.tmp 26) (.tmp 27), none, []⟩, ⟨3, (some 29), .fieldAddr (.tmp 3) 1, none, []⟩, ⟨4, (some 30), .load1 (.tmp 29), none, []⟩, ⟨5, (some 31), .ibin .eql .i64 (.tmp 28) (.tmp 30), none, []⟩, ⟨6, (some 32), .move (.tmp 31), none, []⟩, ⟨7, (some 33), .move (.tmp 2), (some (32, false)), []⟩, ⟨8, (some 34), .move (.tmp 1), (some (32, false)), []⟩, ⟨9, (some 35), .ibin .sub .i64 (.tmp 33) (.tmp 34), (some (32, false)), []⟩, ⟨10, (some 36), .fieldAddr (.tmp 3) 1, (some (32, false)), []⟩, ⟨11, (some 37), .load1 (.tmp 36), (some (32, false)), []⟩, ⟨12, (some 38), .ibin .eql .i64 (.tmp 35) (.tmp 37), (some (32, false)), []⟩, ⟨13, (some 39), .pick (.tmp 32) (.const (.bool true)) (.tmp 38), none, []⟩, ⟨14, (some 6), .move (.tmp 39), none, []⟩])
 .ret))), [.tmp 6]⟩
/- (*bellarmine/ebb.grid).isPlace -/
def pf70 : PF := ⟨12, (.seq (.region false [⟨0, (some 4), .move (.const (.bool false)), none, []⟩])
 (.seq (.region false [⟨0, (some 5), .move (.tmp 1), none, []⟩, ⟨1, (some 6), .move (.tmp 0), none, []⟩, ⟨2, (some 7), .nilCheck (.tmp 6), none, []⟩, ⟨3, (some 8), .fieldAddr (.tmp 7) 1, none, []⟩, ⟨4, (some 9), .load1 (.tmp 8), none, []⟩, ⟨5, (some 10), .ibin .sub .i64 (.tmp 9) (.const (.int .i64 1)), none, []⟩, ⟨6, (some 11), .callF 63 [(.tmp 5), (.const (.int .i64 0)), (.tmp 10)], none, []⟩, ⟨7, (some 4), .move (.tmp 11), none, []⟩])
 .ret)), [.tmp 4]⟩
/- bellarmine/bellarmineref01.place -/
def pf71 : PF := ⟨11, (.seq (.region false [⟨0, (some 2), .box 27 (.tmp 0), none, []⟩, ⟨1, (some 4), .move (.const (.bool false)), none, []⟩])
 (.seq (.region false [⟨0, (some 5), .move (.tmp 1), none, []⟩, ⟨1, (some 6), .fieldAddr (.tmp 2) 2, none, []⟩, ⟨2, (some 7), .load1 (.tmp 6), none, []⟩, ⟨3, (some 8), .len (.tmp 7), none, []⟩, ⟨4, (some 9), .ibin .sub .i64 (.tmp 8) (.const (.int .i64 1)), none, []⟩, ⟨5, (some 10), .callF 65 [(.tmp 5), (.const (.int .i64 0)), (.tmp 9)], none, []⟩, ⟨6, (some 4), .move (.tmp 10), none, []⟩])
 .ret)), [.tmp 4]⟩
/- bellarmine/bellarmineref01.reached -/
def pf76 : PF := ⟨78, (.seq (.region false [⟨0, (some 3), .box 27 (.tmp 0), none, []⟩, ⟨1, (some 6), .move (.const (.slice none 0 0)), none, []⟩])
 (.seq (.region false [⟨0, (some 12), .bldS 3 1 [] 0 [], none, []⟩, ⟨1, (some 7), .move (.tmp 12), none, []⟩])
 (.seq (.seq (.region false [⟨0, (some 13), .fieldAddr (.tmp 3) 2, none, []⟩, ⟨1, (some 14), .load1 (.tmp 13), none, []⟩, ⟨2, (some 15), .move (.tmp 1), none, []⟩, ⟨3, (some 16), .idxS (.tmp 14) (.tmp 15) 1, none, []⟩, ⟨4, (some 17), .load1 (.tmp 16), none, []⟩, ⟨5, (some 18), .move (.tmp 2), none, []⟩, ⟨6, (some 19), .ibin .leq .i64 (.tmp 17) (.tmp 18), none, []⟩])
 (.cond (.tmp 19) (.region false [⟨0, (some 20), .move (.tmp 7), none, []⟩, ⟨1, (some 21), .move (.tmp 1), none, []⟩, ⟨2, (some 22), .bldS 3 1 [(.int .i64 0)] 1 [(0, (.tmp 21))], none, []⟩, ⟨3, (some 23), .append 3 1 (.tmp 20) (.tmp 22), none, []⟩, ⟨4, (some 7), .move (.tmp 23), none, []⟩]) .skip))
 (.seq (.seq (.region false [⟨0, (some 8), .move (.const (.int .i64 0)), none, []⟩])
 (.block 0 (.loop (.seq (.seq (.region false [⟨0, (some 24), .move (.tmp 8), none, []⟩, ⟨1, (some 25), .move (.tmp 7), none, []⟩, ⟨2, (some 26), .len (.tmp 25), none, []⟩, ⟨3, (some 27), .ibin .lss .i64 (.tmp 24) (.tmp 26), none, []⟩])
 (.cond (.tmp 27) .skip (.exit 0)))
 (.seq (.block 1 (.seq (.region false [⟨0, (some 9), .move (.const (.int .i64 0)), none, []⟩])
 (.block 2 (.loop (.seq (.seq (.region false [⟨0, (some 30), .move (.tmp 9), none, []⟩, ⟨1, (some 31), .fieldAddr (.tmp 3) 2, none, []⟩, ⟨2, (some 32), .load1 (.tmp 31), none, []⟩, ⟨3, (some 33), .len (.tmp 32), none, []⟩, ⟨4, (some 34), .ibin .lss .i64 (.tmp 30) (.tmp 33), none, []⟩])
 (.cond (.tmp 34) .skip (.exit 2)))
 (.seq (.block 3 (.seq (.region true [⟨0, (some 37), .loadN (.tmp 3) 3, none, []⟩, ⟨1, (some 38), .move (.tmp 7), none, []⟩, ⟨2, (some 39), .move (.tmp 8), none, []⟩, ⟨3, (some 40), .idxS (.tmp 38) (.tmp 39) 1, none, []⟩, ⟨4, (some 41), .load1 (.tmp 40), none, []⟩, ⟨5, (some 42), .move (.tmp 9), none, []⟩, ⟨6, (some 43), .callF 69 [(.tmp 37), (.tmp 41), (.tmp 42)], none, []⟩, ⟨7, (some 44), .move (.tmp 43), none, []⟩, ⟨8, (some 45), .fieldAddr (.tmp 3) 2, (some (44, true)), []⟩, ⟨9, (some 46), .load1 (.tmp 45), (some (44, true)), []⟩, ⟨10, (some 47), .move (.tmp 9), (some (44, true)), []⟩, ⟨11, (some 48), .idxS (.tmp 46) (.tmp 47) 1, (some (44, true)), []⟩, ⟨12, (some 49), .load1 (.tmp 48), (some (44, true)), []⟩, ⟨13, (some 50), .move (.tmp 2), (some (44, true)), []⟩, ⟨14, (some 51), .ibin .leq .i64 (.tmp 49) (.tmp 50), (some (44, true)), []⟩, ⟨15, (some 52), .pick (.tmp 44) (.tmp 51) (.const (.bool false)), none, []⟩, ⟨16, (some 53), .move (.tmp 52), none, []⟩, ⟨17, (some 54), .move (.tmp 7), (some (53, true)), []⟩, ⟨18, (some 55), .move (.tmp 9), (some (53, true)), []⟩, ⟨19, (some 56), .callF 68 [(.tmp 54), (.tmp 55)], (some (53, true)), []⟩, ⟨20, (some 57), .not (.tmp 56), (some (53, true)), []⟩, ⟨21, (some 58), .pick (.tmp 53) (.tmp 57) (.const (.bool false)), none, []⟩])
 (.cond (.tmp 58) (.region false [⟨0, (some 59), .move (.tmp 7), none, []⟩, ⟨1, (some 60), .move (.tmp 9), none, []⟩, ⟨2, (some 61), .bldS 3 1 [(.int .i64 0)] 1 [(0, (.tmp 60))], none, []⟩, ⟨3, (some 62), .append 3 1 (.tmp 59) (.tmp 61), none, []⟩, ⟨4, (some 7), .move (.tmp 62), none, []⟩]) .skip)))
 (.region false [⟨0, (some 35), .move (.tmp 9), none, []⟩, ⟨1, (some 36), .ibin .add .i64 (.tmp 35) (.const (.int .i64 1)), none, []⟩, ⟨2, (some 9), .move (.tmp 36), none, []⟩])))))))
 (.region false [⟨0, (some 28), .move (.tmp 8), none, []⟩, ⟨1, (some 29), .ibin .add .i64 (.tmp 28) (.const (.int .i64 1)), none, []⟩, ⟨2, (some 8), .move (.tmp 29), none, []⟩]))))))
 (.seq (.region false [⟨0, (some 10), .move (.const (.slice none 0 0)), none, []⟩])
 (.seq (.seq (.region false [⟨0, (some 11), .move (.const (.int .i64 0)), none, []⟩])
 (.block 4 (.loop (.seq (.seq (.region false [⟨0, (some 63), .move (.tmp 11), none, []⟩, ⟨1, (some 64), .fieldAddr (.tmp 3) 2, none, []⟩, ⟨2, (some 65), .load1 (.tmp 64), none, []⟩, ⟨3, (some 66), .len (.tmp 65), none, []⟩, ⟨4, (some 67), .ibin .lss .i64 (.tmp 63) (.tmp 66), none, []⟩])
 (.cond (.tmp 67) .skip (.exit 4)))
 (.seq (.block 5 (.seq (.region false [⟨0, (some 70), .move (.tmp 7), none, []⟩, ⟨1, (some 71), .move (.tmp 11), none, []⟩, ⟨2, (some 72), .callF 68 [(.tmp 70), (.tmp 71)], none, []⟩])
 (.cond (.tmp 72) (.region false [⟨0, (some 73), .move (.tmp 10), none, []⟩, ⟨1, (some 74), .move (.tmp 11), none, []⟩, ⟨2, (some 75), .bldS 3 1 [(.int .i64 0)] 1 [(0, (.tmp 74))], none, []⟩, ⟨3, (some 76), .append 3 1 (.tmp 73) (.tmp 75), none, []⟩, ⟨4, (some 10), .move (.tmp 76), none, []⟩]) .skip)))
 (.region false [⟨0, (some 68), .move (.tmp 11), none, []⟩, ⟨1, (some 69), .ibin .add .i64 (.tmp 68) (.const (.int .i64 1)), none, []⟩, ⟨2, (some 11), .move (.tmp 69), none, []⟩]))))))
 (.seq (.region false [⟨0, (some 77), .move (.tmp 10), none, []⟩, ⟨1, (some 6), .move (.tmp 77), none, []⟩])
 .ret))))))), [.tmp 6]⟩
/- bellarmine/ebb.isHeight -/
def pf77 : PF := ⟨5, (.seq (.region false [⟨0, (some 2), .move (.const (.bool false)), none, []⟩])
 (.seq (.region false [⟨0, (some 3), .move (.tmp 0), none, []⟩, ⟨1, (some 4), .callF 63 [(.tmp 3), (.const (.int .i64 0)), (.const (.int .i64 30))], none, []⟩, ⟨2, (some 2), .move (.tmp 4), none, []⟩])
 .ret)), [.tmp 2]⟩
/- bellarmine/bellarmineref01.last -/
def pf79 : PF := ⟨13, (.seq (.region false [⟨0, (some 2), .box 27 (.tmp 0), none, []⟩, ⟨1, (some 4), .move (.const (.bool false)), none, []⟩])
 (.seq (.region true [⟨0, (some 5), .move (.tmp 1), none, []⟩, ⟨1, (some 6), .fieldAddr (.tmp 2) 1, none, []⟩, ⟨2, (some 7), .load1 (.tmp 6), none, []⟩, ⟨3, (some 8), .ibin .quo .i64 (.tmp 5) (.tmp 7), none, []⟩, ⟨4, (some 9), .fieldAddr (.tmp 2) 0, none, []⟩, ⟨5, (some 10), .load1 (.tmp 9), none, []⟩, ⟨6, (some 11), .ibin .sub .i64 (.tmp 10) (.const (.int .i64 1)), none, []⟩, ⟨7, (some 12), .ibin .eql .i64 (.tmp 8) (.tmp 11), none, []⟩, ⟨8, (some 4), .move (.tmp 12), none, []⟩])
 .ret)), [.tmp 4]⟩
/- (*bellarmine/ebb.grid).lowest -/
def pf80 : PF := ⟨63, (.seq (.region false [⟨0, (some 2), .box 82 (.tmp 0), none, []⟩, ⟨1, (some 4), .new 86 (List.replicate 37 (.int .i64 0)), none, []⟩])
 (.seq (.region false [⟨0, (some 5), .new 86 (List.replicate 37 (.int .i64 0)), none, []⟩])
 (.seq (.seq (.region false [⟨0, (some 11), .move (.const (.int .i64 0)), none, []⟩])
 (.block 0 (.loop (.seq (.region false [⟨0, (some 12), .ibin .lss .i64 (.tmp 11) (.const (.int .i64 37)), none, []⟩])
 (.seq (.cond (.tmp 12) .skip (.exit 0))
 (.seq (.block 1 (.seq (.region false [⟨0, (some 13), .move (.tmp 11), none, []⟩, ⟨1, (some 6), .move (.tmp 13), none, []⟩])
 (.region false [⟨0, (some 14), .move (.tmp 6), none, []⟩, ⟨1, (some 15), .idxA (.tmp 5) (.tmp 14) 37 1, none, []⟩, ⟨2, none, .store (.tmp 15) (.const (.int .i64 31)) 1, none, []⟩])))
 (.region false [⟨0, (some 16), .ibin .add .i64 (.tmp 11) (.const (.int .i64 1)), none, []⟩, ⟨1, (some 11), .move (.tmp 16), none, []⟩])))))))
 (.seq (.region false [⟨0, (some 17), .move (.tmp 1), none, []⟩, ⟨1, (some 18), .load1 (.tmp 2), none, []⟩, ⟨2, (some 19), .move (.tmp 1), none, []⟩, ⟨3, (some 20), .nilCheck (.tmp 18), none, []⟩, ⟨4, (some 21), .fieldAddr (.tmp 20) 2, none, []⟩, ⟨5, (some 22), .idxA (.tmp 21) (.tmp 19) 37 1, none, []⟩, ⟨6, (some 23), .load1 (.tmp 22), none, []⟩, ⟨7, (some 24), .idxA (.tmp 5) (.tmp 17) 37 1, none, []⟩, ⟨8, none, .store (.tmp 24) (.tmp 23) 1, none, []⟩])
 (.seq (.seq (.region false [⟨0, (some 25), .move (.tmp 1), none, []⟩, ⟨1, (some 26), .bldS 3 1 [(.int .i64 0)] 1 [(0, (.tmp 25))], none, []⟩, ⟨2, (some 7), .new 22 [(.slice none 0 0)], none, []⟩, ⟨3, none, .store (.tmp 7) (.tmp 26) 1, none, []⟩])
 (.block 2 (.loop (.seq (.seq (.region false [⟨0, (some 27), .load1 (.tmp 7), none, []⟩, ⟨1, (some 28), .len (.tmp 27), none, []⟩, ⟨2, (some 29), .ibin .gtr .i64 (.tmp 28) (.const (.int .i64 0)), none, []⟩])
 (.cond (.tmp 29) .skip (.exit 2)))
 (.seq (.block 3 (.seq (.region false [⟨0, (some 32), .load1 (.tmp 7), none, []⟩, ⟨1, (some 33), .idxS (.tmp 32) (.const (.int .i64 0)) 1, none, []⟩, ⟨2, (some 34), .load1 (.tmp 33), none, []⟩, ⟨3, (some 8), .new 3 [(.int .i64 0)], none, []⟩, ⟨4, none, .store (.tmp 8) (.tmp 34) 1, none, []⟩])
 (.seq (.region false [⟨0, (some 35), .load1 (.tmp 2), none, []⟩, ⟨1, (some 36), .load1 (.tmp 8), none, []⟩, ⟨2, (some 37), .callF 89 [(.tmp 35), (.tmp 36)], none, []⟩])
 (.block 4 (.rangeFunc (.tmp 37) [38] (.region false [⟨0, (some 9), .move (.tmp 38), none, []⟩]) (.block 5 (.seq (.region true [⟨0, (some 39), .load1 (.tmp 8), none, []⟩, ⟨1, (some 40), .idxA (.tmp 5) (.tmp 39) 37 1, none, []⟩, ⟨2, (some 41), .load1 (.tmp 40), none, []⟩, ⟨3, (some 42), .load1 (.tmp 2), none, []⟩, ⟨4, (some 43), .move (.tmp 9), none, []⟩, ⟨5, (some 44), .nilCheck (.tmp 42), none, []⟩, ⟨6, (some 45), .fieldAddr (.tmp 44) 2, none, []⟩, ⟨7, (some 46), .idxA (.tmp 45) (.tmp 43) 37 1, none, []⟩, ⟨8, (some 47), .load1 (.tmp 46), none, []⟩, ⟨9, (some 48), .plain ⟨(some 48), .call ⟨.builtin .max, #[(.tmp 41), (.tmp 47)], #[3, 3]⟩, 3, (String.ofList [Char.ofNat 103, Char.ofNat 114, Char.ofNat 105, Char.ofNat 100, Char.ofNat 46, Char.ofNat 103, Char.ofNat 111, Char.ofNat 58, Char.ofNat 56, Char.ofNat 54]), #[⟨2, .data⟩, ⟨8, .data⟩], none⟩, none, []⟩, ⟨10, (some 10), .move (.tmp 48), none, []⟩])
 (.seq (.region false [⟨0, (some 49), .move (.tmp 10), none, []⟩, ⟨1, (some 50), .move (.tmp 9), none, []⟩, ⟨2, (some 51), .idxA (.tmp 5) (.tmp 50) 37 1, none, []⟩, ⟨3, (some 52), .load1 (.tmp 51), none, []⟩, ⟨4, (some 53), .ibin .lss .i64 (.tmp 49) (.tmp 52), none, []⟩])
 (.cond (.tmp 53) (.seq (.region false [⟨0, (some 54), .move (.tmp 9), none, []⟩, ⟨1, (some 55), .move (.tmp 10), none, []⟩, ⟨2, (some 56), .idxA (.tmp 5) (.tmp 54) 37 1, none, []⟩, ⟨3, none, .store (.tmp 56) (.tmp 55) 1, none, []⟩])
 (.region false [⟨0, (some 57), .load1 (.tmp 7), none, []⟩, ⟨1, (some 58), .move (.tmp 9), none, []⟩, ⟨2, (some 59), .bldS 3 1 [(.int .i64 0)] 1 [(0, (.tmp 58))], none, []⟩, ⟨3, (some 60), .append 3 1 (.tmp 57) (.tmp 59), none, []⟩, ⟨4, none, .store (.tmp 7) (.tmp 60) 1, none, []⟩])) .skip)))))))))
 (.seq (.seq (.region false [⟨0, (some 61), .load1 (.tmp 7), none, []⟩])
 (.region false [⟨0, (some 7), .new 22 [(.slice none 0 0)], none, []⟩, ⟨1, none, .store (.tmp 7) (.tmp 61) 1, none, []⟩]))
 (.region false [⟨0, (some 30), .load1 (.tmp 7), none, []⟩, ⟨1, (some 31), .slS (.tmp 30) 1 (some (.const (.int .i64 1))) none none, none, []⟩, ⟨2, none, .store (.tmp 7) (.tmp 31) 1, none, []⟩])))))))
 (.seq (.region false [⟨0, (some 62), .loadN (.tmp 5) 37, none, []⟩, ⟨1, none, .store (.tmp 4) (.tmp 62) 37, none, []⟩])
 .ret)))))), [.cell 4 (some 37)]⟩
/- slices.Index[[]int,int] -/
def pf86 : PF := ⟨19, (.seq (.region false [⟨0, (some 4), .move (.const (.int .i64 0)), none, []⟩])
 (.seq (.seq (.region false [⟨0, (some 6), .move (.tmp 0), none, []⟩, ⟨1, (some 7), .len (.tmp 6), none, []⟩, ⟨2, (some 8), .move (.const (.int .i64 0)), none, []⟩])
 (.block 0 (.loop (.seq (.region false [⟨0, (some 9), .ibin .lss .i64 (.tmp 8) (.tmp 7), none, []⟩])
 (.seq (.cond (.tmp 9) .skip (.exit 0))
 (.seq (.block 1 (.seq (.region false [⟨0, (some 10), .move (.tmp 8), none, []⟩, ⟨1, (some 5), .move (.tmp 10), none, []⟩])
 (.seq (.region false [⟨0, (some 11), .move (.tmp 1), none, []⟩, ⟨1, (some 12), .move (.tmp 0), none, []⟩, ⟨2, (some 13), .move (.tmp 5), none, []⟩, ⟨3, (some 14), .idxS (.tmp 12) (.tmp 13) 1, none, []⟩, ⟨4, (some 15), .load1 (.tmp 14), none, []⟩, ⟨5, (some 16), .ibin .eql .i64 (.tmp 11) (.tmp 15), none, []⟩])
 (.cond (.tmp 16) (.seq (.region false [⟨0, (some 17), .move (.tmp 5), none, []⟩, ⟨1, (some 4), .move (.tmp 17), none, []⟩])
 .ret) .skip))))
 (.region false [⟨0, (some 18), .ibin .add .i64 (.tmp 8) (.const (.int .i64 1)), none, []⟩, ⟨1, (some 8), .move (.tmp 18), none, []⟩])))))))
 (.seq (.region false [⟨0, (some 4), .move (.const (.int .i64 (-1))), none, []⟩])
 .ret))), [.tmp 4]⟩
/- bellarmine/ebb.newGrid -/
def pf88 : PF := ⟨19, (.seq (.region false [⟨0, (some 1), .box 24 (.tmp 0), none, []⟩, ⟨1, (some 2), .move (.const (.pointer none)), none, []⟩])
 (.seq (.region false [⟨0, (some 4), .fieldAddr (.tmp 1) 1, none, []⟩, ⟨1, (some 5), .load1 (.tmp 4), none, []⟩, ⟨2, (some 6), .fieldAddr (.tmp 1) 2, none, []⟩, ⟨3, (some 7), .load1 (.tmp 6), none, []⟩, ⟨4, (some 8), .len (.tmp 7), none, []⟩, ⟨5, (some 9), .bldT (List.replicate 39 (.int .i64 0)) [(0, 1), (1, 1), (2, 37)] [(0, (.tmp 5)), (1, (.tmp 8))], none, []⟩, ⟨6, (some 10), .box 99 (.tmp 9), none, []⟩, ⟨7, (some 3), .move (.tmp 10), none, []⟩])
 (.seq (.region true [⟨0, (some 11), .move (.tmp 3), none, []⟩, ⟨1, (some 12), .nilCheck (.tmp 11), none, []⟩, ⟨2, (some 13), .fieldAddr (.tmp 12) 2, none, []⟩, ⟨3, (some 14), .slA (.tmp 13) 37 1 none none none, none, []⟩, ⟨4, (some 15), .fieldAddr (.tmp 1) 2, none, []⟩, ⟨5, (some 16), .load1 (.tmp 15), none, []⟩, ⟨6, (some 17), .copy 1 (.tmp 14) (.tmp 16), none, []⟩])
 (.seq (.region false [⟨0, (some 18), .move (.tmp 3), none, []⟩, ⟨1, (some 2), .move (.tmp 18), none, []⟩])
 .ret)))), [.tmp 2]⟩
/- (*bellarmine/ebb.grid).neighbours -/
def pf89 : PF := ⟨14, (.seq (.region false [⟨0, (some 2), .box 82 (.tmp 0), none, []⟩, ⟨1, (some 3), .box 3 (.tmp 1), none, []⟩, ⟨2, (some 4), .move (.const .nilFunc), none, []⟩])
 (.seq (.seq (.region true [⟨0, (some 5), .load1 (.tmp 3), none, []⟩, ⟨1, (some 6), .load1 (.tmp 2), none, []⟩, ⟨2, (some 7), .nilCheck (.tmp 6), none, []⟩, ⟨3, (some 8), .fieldAddr (.tmp 7) 1, none, []⟩, ⟨4, (some 9), .load1 (.tmp 8), none, []⟩, ⟨5, (some 10), .ibin .eql .i64 (.tmp 5) (.tmp 9), none, []⟩])
 (.cond (.tmp 10) (.seq (.region false [⟨0, (some 11), .load1 (.tmp 2), none, []⟩, ⟨1, (some 12), .mkF (.func 97) #[(.tmp 11)] #[], none, []⟩, ⟨2, (some 4), .move (.tmp 12), none, []⟩])
 .ret) .skip))
 (.seq (.region false [⟨0, (some 13), .mkF (.func 98) #[] #[(.tmp 3), (.tmp 2)], none, []⟩, ⟨1, (some 4), .move (.tmp 13), none, []⟩])
 .ret))), [.tmp 4]⟩
/- (*bellarmine/ebb.grid).lastRow -/
def pf97 : PF := ⟨26, (.seq (.region true [⟨0, (some 5), .move (.tmp 0), none, []⟩, ⟨1, (some 6), .nilCheck (.tmp 5), none, []⟩, ⟨2, (some 7), .fieldAddr (.tmp 6) 1, none, []⟩, ⟨3, (some 8), .load1 (.tmp 7), none, []⟩, ⟨4, (some 9), .move (.tmp 0), none, []⟩, ⟨5, (some 10), .nilCheck (.tmp 9), none, []⟩, ⟨6, (some 11), .fieldAddr (.tmp 10) 0, none, []⟩, ⟨7, (some 12), .load1 (.tmp 11), none, []⟩, ⟨8, (some 13), .ibin .sub .i64 (.tmp 8) (.tmp 12), none, []⟩, ⟨9, (some 4), .move (.tmp 13), none, []⟩])
 (.block 0 (.loop (.seq (.seq (.region false [⟨0, (some 14), .move (.tmp 4), none, []⟩, ⟨1, (some 15), .move (.tmp 0), none, []⟩, ⟨2, (some 16), .nilCheck (.tmp 15), none, []⟩, ⟨3, (some 17), .fieldAddr (.tmp 16) 1, none, []⟩, ⟨4, (some 18), .load1 (.tmp 17), none, []⟩, ⟨5, (some 19), .ibin .lss .i64 (.tmp 14) (.tmp 18), none, []⟩])
 (.cond (.tmp 19) .skip (.exit 0)))
 (.seq (.block 1 (.seq (.region false [⟨0, (some 22), .move (.tmp 1), none, []⟩, ⟨1, (some 23), .move (.tmp 4), none, []⟩, ⟨2, (some 24), .callV (.tmp 22) [(.tmp 23)], none, []⟩, ⟨3, (some 25), .not (.tmp 24), none, []⟩])
 (.cond (.tmp 25) .ret .skip)))
 (.region false [⟨0, (some 20), .move (.tmp 4), none, []⟩, ⟨1, (some 21), .ibin .add .i64 (.tmp 20) (.const (.int .i64 1)), none, []⟩, ⟨2, (some 4), .move (.tmp 21), none, []⟩])))))), []⟩
/- (*bellarmine/ebb.grid).neighbours$1 -/
def pf98 : PF := ⟨64, (.seq (.region true [⟨0, (some 5), .load1 (.tmp 1), none, []⟩, ⟨1, (some 6), .load1 (.tmp 2), none, []⟩, ⟨2, (some 7), .nilCheck (.tmp 6), none, []⟩, ⟨3, (some 8), .fieldAddr (.tmp 7) 0, none, []⟩, ⟨4, (some 9), .load1 (.tmp 8), none, []⟩, ⟨5, (some 10), .ibin .rem .i64 (.tmp 5) (.tmp 9), none, []⟩, ⟨6, (some 4), .move (.tmp 10), none, []⟩])
 (.seq (.seq (.region true [⟨0, (some 11), .load1 (.tmp 1), none, []⟩, ⟨1, (some 12), .load1 (.tmp 2), none, []⟩, ⟨2, (some 13), .nilCheck (.tmp 12), none, []⟩, ⟨3, (some 14), .fieldAddr (.tmp 13) 0, none, []⟩, ⟨4, (some 15), .load1 (.tmp 14), none, []⟩, ⟨5, (some 16), .ibin .geq .i64 (.tmp 11) (.tmp 15), none, []⟩, ⟨6, (some 17), .move (.tmp 16), none, []⟩, ⟨7, (some 18), .move (.tmp 0), (some (17, true)), []⟩, ⟨8, (some 19), .load1 (.tmp 1), (some (17, true)), []⟩, ⟨9, (some 20), .load1 (.tmp 2), (some (17, true)), []⟩, ⟨10, (some 21), .nilCheck (.tmp 20), (some (17, true)), []⟩, ⟨11, (some 22), .fieldAddr (.tmp 21) 0, (some (17, true)), []⟩, ⟨12, (some 23), .load1 (.tmp 22), (some (17, true)), []⟩, ⟨13, (some 24), .ibin .sub .i64 (.tmp 19) (.tmp 23), (some (17, true)), []⟩, ⟨14, (some 25), .callV (.tmp 18) [(.tmp 24)], (some (17, true)), []⟩, ⟨15, (some 26), .not (.tmp 25), (some (17, true)), []⟩, ⟨16, (some 27), .pick (.tmp 17) (.tmp 26) (.const (.bool false)), none, []⟩])
 (.cond (.tmp 27) .ret .skip))
 (.seq (.seq (.region false [⟨0, (some 28), .move (.tmp 4), none, []⟩, ⟨1, (some 29), .ibin .gtr .i64 (.tmp 28) (.const (.int .i64 0)), none, []⟩, ⟨2, (some 30), .move (.tmp 29), none, []⟩, ⟨3, (some 31), .move (.tmp 0), (some (30, true)), []⟩, ⟨4, (some 32), .load1 (.tmp 1), (some (30, true)), []⟩, ⟨5, (some 33), .ibin .sub .i64 (.tmp 32) (.const (.int .i64 1)), (some (30, true)), []⟩, ⟨6, (some 34), .callV (.tmp 31) [(.tmp 33)], (some (30, true)), []⟩, ⟨7, (some 35), .not (.tmp 34), (some (30, true)), []⟩, ⟨8, (some 36), .pick (.tmp 30) (.tmp 35) (.const (.bool false)), none, []⟩])
 (.cond (.tmp 36) .ret .skip))
 (.seq (.seq (.region false [⟨0, (some 37), .move (.tmp 4), none, []⟩, ⟨1, (some 38), .load1 (.tmp 2), none, []⟩, ⟨2, (some 39), .nilCheck (.tmp 38), none, []⟩, ⟨3, (some 40), .fieldAddr (.tmp 39) 0, none, []⟩, ⟨4, (some 41), .load1 (.tmp 40), none, []⟩, ⟨5, (some 42), .ibin .sub .i64 (.tmp 41) (.const (.int .i64 1)), none, []⟩, ⟨6, (some 43), .ibin .lss .i64 (.tmp 37) (.tmp 42), none, []⟩, ⟨7, (some 44), .move (.tmp 43), none, []⟩, ⟨8, (some 45), .move (.tmp 0), (some (44, true)), []⟩, ⟨9, (some 46), .load1 (.tmp 1), (some (44, true)), []⟩, ⟨10, (some 47), .ibin .add .i64 (.tmp 46) (.const (.int .i64 1)), (some (44, true)), []⟩, ⟨11, (some 48), .callV (.tmp 45) [(.tmp 47)], (some (44, true)), []⟩, ⟨12, (some 49), .not (.tmp 48), (some (44, true)), []⟩, ⟨13, (some 50), .pick (.tmp 44) (.tmp 49) (.const (.bool false)), none, []⟩])
 (.cond (.tmp 50) .ret .skip))
 (.region true [⟨0, (some 51), .move (.tmp 0), none, []⟩, ⟨1, (some 52), .load1 (.tmp 1), none, []⟩, ⟨2, (some 53), .load1 (.tmp 2), none, []⟩, ⟨3, (some 54), .nilCheck (.tmp 53), none, []⟩, ⟨4, (some 55), .fieldAddr (.tmp 54) 0, none, []⟩, ⟨5, (some 56), .load1 (.tmp 55), none, []⟩, ⟨6, (some 57), .ibin .add .i64 (.tmp 52) (.tmp 56), none, []⟩, ⟨7, (some 58), .load1 (.tmp 2), none, []⟩, ⟨8, (some 59), .nilCheck (.tmp 58), none, []⟩, ⟨9, (some 60), .fieldAddr (.tmp 59) 1, none, []⟩, ⟨10, (some 61), .load1 (.tmp 60), none, []⟩, ⟨11, (some 62), .plain ⟨(some 62), .call ⟨.builtin .min, #[(.tmp 57), (.tmp 61)], #[3, 3]⟩, 3, (String.ofList [Char.ofNat 103, Char.ofNat 114, Char.ofNat 105, Char.ofNat 100, Char.ofNat 46, Char.ofNat 103, Char.ofNat 111, Char.ofNat 58, Char.ofNat 54, Char.ofNat 51]), #[⟨6, .data⟩, ⟨10, .data⟩], none⟩, none, []⟩, ⟨12, (some 63), .callV (.tmp 51) [(.tmp 62)], none, []⟩]))))), []⟩
def funcs : Tr PF := (.node none (.node none (.node none (.node none (.node (some pf15) (.node none (.node (some pf63) .nil .nil) .nil) (.node none (.node (some pf79) .nil .nil) .nil)) (.node (some pf23) (.node none (.node (some pf71) .nil .nil) .nil) (.node (some pf55) .nil .nil))) (.node none (.node (some pf19) .nil .nil) (.node none .nil (.node (some pf59) .nil .nil)))) (.node none (.node none (.node (some pf17) (.node none (.node (some pf65) .nil .nil) (.node (some pf97) .nil .nil)) .nil) (.node none .nil (.node (some pf57) (.node (some pf89) .nil .nil) .nil))) (.node none (.node none (.node none (.node (some pf69) .nil .nil) .nil) .nil) (.node (some pf29) (.node (some pf45) (.node (some pf77) .nil .nil) .nil) .nil)))) (.node none (.node (some pf4) (.node none (.node none (.node none (.node (some pf64) .nil .nil) .nil) (.node (some pf48) (.node (some pf80) .nil .nil) .nil)) (.node (some pf24) .nil (.node (some pf56) (.node (some pf88) .nil .nil) .nil))) (.node none (.node none (.node none (.node (some pf68) .nil .nil) .nil) .nil) (.node none (.node none (.node (some pf76) .nil .nil) .nil) (.node (some pf60) .nil .nil)))) (.node none (.node none (.node none (.node none (.node (some pf66) .nil .nil) (.node (some pf98) .nil .nil)) .nil) (.node none (.node (some pf42) .nil .nil) (.node (some pf58) .nil .nil))) (.node none (.node (some pf22) (.node none (.node (some pf70) .nil .nil) .nil) (.node none (.node (some pf86) .nil .nil) .nil)) (.node (some pf30) (.node (some pf46) .nil .nil) (.node (some pf62) .nil .nil))))))
noncomputable def C : CW := ⟨{ P := Try.prog, funcs := funcs }, 16⟩
end Go.Proofs.Ytbnppcgmbiajnaa.Eb
