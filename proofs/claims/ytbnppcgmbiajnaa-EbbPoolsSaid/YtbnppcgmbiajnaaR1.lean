import Derived.Test.YtbnppcgmbiajnaaB2
namespace Go.Proofs.Ytbnppcgmbiajnaa.Eb
open Go Go.Abs Go.Low
set_option linter.unusedVariables false
set_option linter.unusedSimpArgs false
attribute [local irreducible] gOK WS WC WR WD Ends FS YS OpV seqK blockK loopK midK retK rdK asgK rangeEnd sat Cell
end Go.Proofs.Ytbnppcgmbiajnaa.Eb
