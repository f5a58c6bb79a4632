/-
  No cell of these rows narrows 'for every input' (looked for: loops, veiled, ifaces, maps, wideKeys, modest, calm, conditions, laid).
  DERIVED. THE GIVEN ROWS OF THIS SEAT. 12 by the template 'for every input the law returns true; each argument reads behind the call as it read before'; 0 by the template 'total and deterministic' (their statements: YtckcbhbompfoeaaTotals.lean).
  GIVEN WITH THE SEED: the statements are not yours to turn. If you find one false, say at which input.
  Laid BY PROGRAM, IN A SANDBOX (cutbox-rows.mjs): the forced cells as the released guide's own fill.sh prints them over the translation 69941ae7a6de5666… (all of the seat's roots in one cut). By AI agents, Wed Nov 11 2026. No macro, syntax, notation, axiom, sorry.
-/
import Derived.Test.YtckcbhbompfoeaaChecked
import GoSem.Claim
import GoSem.ClaimJoined
import GoSem.ClaimMapViews
import Derived.JoinedTies
import Derived.KernelRfl
namespace Go.Proofs.Ytckcbhbompfoeaa
/- THE CELL 'sum', in the pinned program and in every row, IS THE sha256 OF THE DUMP (.gsa) THAT YtckcbhbompfoeaaProg.lean LOADS. Nothing in Lean hashes anything: it is a label: what it is worth is what the hold of that sum in a sandbox is worth. -/
noncomputable def Try.pinned : Pinned := { name := "ytckcbhbompfoeaa", sum := "69941ae7a6de5666e7ff0ade6930f7c0d9af7a2ce2eb83603e061f89bf977eae", checked := Try.checked }
namespace Rows
def none {H : Type} : Left H := { results := [], args := [] }

/-- 'bellarminelaw02.GrantTrades': WHATEVER THE INPUT: true; the input reads as it did. -/
def grantTradesSpec : ChangeSpec := { name := "grantTrades", fn := fun _ => fun
  | [d1, d2] => { results := [.lit (.bool true)], args := [d1, d2] }
  | _ => none }
def grantTradesRow : OpenClaim := { program := "ytckcbhbompfoeaa", sum := "69941ae7a6de5666e7ff0ade6930f7c0d9af7a2ce2eb83603e061f89bf977eae", func := "bellarmine/bellarminelaw02.GrantTrades", spec := "grantTrades", unfollowed := true, recurses := true, apart := false }
def GrantTradesSaid : Prop := grantTradesRow.holds Try.pinned (OpenSpec.ofChange grantTradesSpec)

/-- ITS FALSE NEIGHBOUR: 'it returns false'. Refute it at one input. -/
def grantTradesWrong : ChangeSpec := { name := "grantTrades", fn := fun _ => fun
  | [d1, d2] => { results := [.lit (.bool false)], args := [d1, d2] }
  | _ => none }
def GrantTradesWrongFalsely : Prop := grantTradesRow.holds Try.pinned (OpenSpec.ofChange grantTradesWrong)

/-- 'bellarminelaw02.GrantGroups': WHATEVER THE INPUT: true; the input reads as it did. -/
def grantGroupsSpec : ChangeSpec := { name := "grantGroups", fn := fun _ => fun
  | [d1, d2, d3, d4] => { results := [.lit (.bool true)], args := [d1, d2, d3, d4] }
  | _ => none }
def grantGroupsRow : OpenClaim := { program := "ytckcbhbompfoeaa", sum := "69941ae7a6de5666e7ff0ade6930f7c0d9af7a2ce2eb83603e061f89bf977eae", func := "bellarmine/bellarminelaw02.GrantGroups", spec := "grantGroups", unfollowed := true, recurses := true, apart := false }
def GrantGroupsSaid : Prop := grantGroupsRow.holds Try.pinned (OpenSpec.ofChange grantGroupsSpec)

/-- ITS FALSE NEIGHBOUR: 'it returns false'. Refute it at one input. -/
def grantGroupsWrong : ChangeSpec := { name := "grantGroups", fn := fun _ => fun
  | [d1, d2, d3, d4] => { results := [.lit (.bool false)], args := [d1, d2, d3, d4] }
  | _ => none }
def GrantGroupsWrongFalsely : Prop := grantGroupsRow.holds Try.pinned (OpenSpec.ofChange grantGroupsWrong)

/-- 'bellarminelaw02.GrantTurns': WHATEVER THE INPUT: true; the input reads as it did. -/
def grantTurnsSpec : ChangeSpec := { name := "grantTurns", fn := fun _ => fun
  | [d1, d2, d3] => { results := [.lit (.bool true)], args := [d1, d2, d3] }
  | _ => none }
def grantTurnsRow : OpenClaim := { program := "ytckcbhbompfoeaa", sum := "69941ae7a6de5666e7ff0ade6930f7c0d9af7a2ce2eb83603e061f89bf977eae", func := "bellarmine/bellarminelaw02.GrantTurns", spec := "grantTurns", unfollowed := true, recurses := true, apart := false }
def GrantTurnsSaid : Prop := grantTurnsRow.holds Try.pinned (OpenSpec.ofChange grantTurnsSpec)

/-- ITS FALSE NEIGHBOUR: 'it returns false'. Refute it at one input. -/
def grantTurnsWrong : ChangeSpec := { name := "grantTurns", fn := fun _ => fun
  | [d1, d2, d3] => { results := [.lit (.bool false)], args := [d1, d2, d3] }
  | _ => none }
def GrantTurnsWrongFalsely : Prop := grantTurnsRow.holds Try.pinned (OpenSpec.ofChange grantTurnsWrong)

/-- 'bellarminelaw02.GrantCore': WHATEVER THE INPUT: true; the input reads as it did. -/
def grantCoreSpec : ChangeSpec := { name := "grantCore", fn := fun _ => fun
  | [d] => { results := [.lit (.bool true)], args := [d] }
  | _ => none }
def grantCoreRow : OpenClaim := { program := "ytckcbhbompfoeaa", sum := "69941ae7a6de5666e7ff0ade6930f7c0d9af7a2ce2eb83603e061f89bf977eae", func := "bellarmine/bellarminelaw02.GrantCore", spec := "grantCore", unfollowed := true, recurses := true, apart := false }
def GrantCoreSaid : Prop := grantCoreRow.holds Try.pinned (OpenSpec.ofChange grantCoreSpec)

/-- ITS FALSE NEIGHBOUR: 'it returns false'. Refute it at one input. -/
def grantCoreWrong : ChangeSpec := { name := "grantCore", fn := fun _ => fun
  | [d] => { results := [.lit (.bool false)], args := [d] }
  | _ => none }
def GrantCoreWrongFalsely : Prop := grantCoreRow.holds Try.pinned (OpenSpec.ofChange grantCoreWrong)

/-- 'bellarminelaw02.GrantRounds': WHATEVER THE INPUT: true; the input reads as it did. -/
def grantRoundsSpec : ChangeSpec := { name := "grantRounds", fn := fun _ => fun
  | [d] => { results := [.lit (.bool true)], args := [d] }
  | _ => none }
def grantRoundsRow : OpenClaim := { program := "ytckcbhbompfoeaa", sum := "69941ae7a6de5666e7ff0ade6930f7c0d9af7a2ce2eb83603e061f89bf977eae", func := "bellarmine/bellarminelaw02.GrantRounds", spec := "grantRounds", unfollowed := true, recurses := true, apart := false }
def GrantRoundsSaid : Prop := grantRoundsRow.holds Try.pinned (OpenSpec.ofChange grantRoundsSpec)

/-- ITS FALSE NEIGHBOUR: 'it returns false'. Refute it at one input. -/
def grantRoundsWrong : ChangeSpec := { name := "grantRounds", fn := fun _ => fun
  | [d] => { results := [.lit (.bool false)], args := [d] }
  | _ => none }
def GrantRoundsWrongFalsely : Prop := grantRoundsRow.holds Try.pinned (OpenSpec.ofChange grantRoundsWrong)

/-- 'bellarminelaw02.GrantHonest': WHATEVER THE INPUT: true; the input reads as it did. -/
def grantHonestSpec : ChangeSpec := { name := "grantHonest", fn := fun _ => fun
  | [d1, d2] => { results := [.lit (.bool true)], args := [d1, d2] }
  | _ => none }
def grantHonestRow : OpenClaim := { program := "ytckcbhbompfoeaa", sum := "69941ae7a6de5666e7ff0ade6930f7c0d9af7a2ce2eb83603e061f89bf977eae", func := "bellarmine/bellarminelaw02.GrantHonest", spec := "grantHonest", unfollowed := true, recurses := true, apart := false }
def GrantHonestSaid : Prop := grantHonestRow.holds Try.pinned (OpenSpec.ofChange grantHonestSpec)

/-- ITS FALSE NEIGHBOUR: 'it returns false'. Refute it at one input. -/
def grantHonestWrong : ChangeSpec := { name := "grantHonest", fn := fun _ => fun
  | [d1, d2] => { results := [.lit (.bool false)], args := [d1, d2] }
  | _ => none }
def GrantHonestWrongFalsely : Prop := grantHonestRow.holds Try.pinned (OpenSpec.ofChange grantHonestWrong)

/-- 'bellarminelaw02.GrantOrders': WHATEVER THE INPUT: true; the input reads as it did. -/
def grantOrdersSpec : ChangeSpec := { name := "grantOrders", fn := fun _ => fun
  | [d] => { results := [.lit (.bool true)], args := [d] }
  | _ => none }
def grantOrdersRow : OpenClaim := { program := "ytckcbhbompfoeaa", sum := "69941ae7a6de5666e7ff0ade6930f7c0d9af7a2ce2eb83603e061f89bf977eae", func := "bellarmine/bellarminelaw02.GrantOrders", spec := "grantOrders", unfollowed := true, recurses := true, apart := false }
def GrantOrdersSaid : Prop := grantOrdersRow.holds Try.pinned (OpenSpec.ofChange grantOrdersSpec)

/-- ITS FALSE NEIGHBOUR: 'it returns false'. Refute it at one input. -/
def grantOrdersWrong : ChangeSpec := { name := "grantOrders", fn := fun _ => fun
  | [d] => { results := [.lit (.bool false)], args := [d] }
  | _ => none }
def GrantOrdersWrongFalsely : Prop := grantOrdersRow.holds Try.pinned (OpenSpec.ofChange grantOrdersWrong)

/-- 'bellarminelaw02.GrantBest': WHATEVER THE INPUT: true; the input reads as it did. -/
def grantBestSpec : ChangeSpec := { name := "grantBest", fn := fun _ => fun
  | [d] => { results := [.lit (.bool true)], args := [d] }
  | _ => none }
def grantBestRow : OpenClaim := { program := "ytckcbhbompfoeaa", sum := "69941ae7a6de5666e7ff0ade6930f7c0d9af7a2ce2eb83603e061f89bf977eae", func := "bellarmine/bellarminelaw02.GrantBest", spec := "grantBest", unfollowed := true, recurses := true, apart := false }
def GrantBestSaid : Prop := grantBestRow.holds Try.pinned (OpenSpec.ofChange grantBestSpec)

/-- ITS FALSE NEIGHBOUR: 'it returns false'. Refute it at one input. -/
def grantBestWrong : ChangeSpec := { name := "grantBest", fn := fun _ => fun
  | [d] => { results := [.lit (.bool false)], args := [d] }
  | _ => none }
def GrantBestWrongFalsely : Prop := grantBestRow.holds Try.pinned (OpenSpec.ofChange grantBestWrong)

/-- 'bellarminelaw02.GrantNamed': WHATEVER THE INPUT: true; the input reads as it did. -/
def grantNamedSpec : ChangeSpec := { name := "grantNamed", fn := fun _ => fun
  | [d1, d2, d3] => { results := [.lit (.bool true)], args := [d1, d2, d3] }
  | _ => none }
def grantNamedRow : OpenClaim := { program := "ytckcbhbompfoeaa", sum := "69941ae7a6de5666e7ff0ade6930f7c0d9af7a2ce2eb83603e061f89bf977eae", func := "bellarmine/bellarminelaw02.GrantNamed", spec := "grantNamed", unfollowed := true, recurses := true, apart := false }
def GrantNamedSaid : Prop := grantNamedRow.holds Try.pinned (OpenSpec.ofChange grantNamedSpec)

/-- ITS FALSE NEIGHBOUR: 'it returns false'. Refute it at one input. -/
def grantNamedWrong : ChangeSpec := { name := "grantNamed", fn := fun _ => fun
  | [d1, d2, d3] => { results := [.lit (.bool false)], args := [d1, d2, d3] }
  | _ => none }
def GrantNamedWrongFalsely : Prop := grantNamedRow.holds Try.pinned (OpenSpec.ofChange grantNamedWrong)

/-- 'bellarminelaw02.GrantMore': WHATEVER THE INPUT: true; the input reads as it did. -/
def grantMoreSpec : ChangeSpec := { name := "grantMore", fn := fun _ => fun
  | [d1, d2, d3, d4] => { results := [.lit (.bool true)], args := [d1, d2, d3, d4] }
  | _ => none }
def grantMoreRow : OpenClaim := { program := "ytckcbhbompfoeaa", sum := "69941ae7a6de5666e7ff0ade6930f7c0d9af7a2ce2eb83603e061f89bf977eae", func := "bellarmine/bellarminelaw02.GrantMore", spec := "grantMore", inPlace := ["slices.overlaps[int]"], unfollowed := true, recurses := true, apart := false }
def GrantMoreSaid : Prop := grantMoreRow.holds Try.pinned (OpenSpec.ofChange grantMoreSpec)

/-- ITS FALSE NEIGHBOUR: 'it returns false'. Refute it at one input. -/
def grantMoreWrong : ChangeSpec := { name := "grantMore", fn := fun _ => fun
  | [d1, d2, d3, d4] => { results := [.lit (.bool false)], args := [d1, d2, d3, d4] }
  | _ => none }
def GrantMoreWrongFalsely : Prop := grantMoreRow.holds Try.pinned (OpenSpec.ofChange grantMoreWrong)

/-- 'bellarminelaw02.GrantKnown': WHATEVER THE INPUT: true; the input reads as it did. -/
def grantKnownSpec : ChangeSpec := { name := "grantKnown", fn := fun _ => fun
  | [] => { results := [.lit (.bool true)], args := [] }
  | _ => none }
def grantKnownRow : OpenClaim := { program := "ytckcbhbompfoeaa", sum := "69941ae7a6de5666e7ff0ade6930f7c0d9af7a2ce2eb83603e061f89bf977eae", func := "bellarmine/bellarminelaw02.GrantKnown", spec := "grantKnown", unfollowed := true, recurses := true, apart := false }
def GrantKnownSaid : Prop := grantKnownRow.holds Try.pinned (OpenSpec.ofChange grantKnownSpec)

/-- ITS FALSE NEIGHBOUR: 'it returns false'. Refute it at one input. -/
def grantKnownWrong : ChangeSpec := { name := "grantKnown", fn := fun _ => fun
  | [] => { results := [.lit (.bool false)], args := [] }
  | _ => none }
def GrantKnownWrongFalsely : Prop := grantKnownRow.holds Try.pinned (OpenSpec.ofChange grantKnownWrong)

/-- 'bellarminetop.TopAlike': WHATEVER THE INPUT: true; the input reads as it did. -/
def topAlikeSpec : ChangeSpec := { name := "topAlike", fn := fun _ => fun
  | [d1, d2, d3, d4] => { results := [.lit (.bool true)], args := [d1, d2, d3, d4] }
  | _ => none }
def topAlikeRow : OpenClaim := { program := "ytckcbhbompfoeaa", sum := "69941ae7a6de5666e7ff0ade6930f7c0d9af7a2ce2eb83603e061f89bf977eae", func := "bellarmine/bellarminetop.TopAlike", spec := "topAlike", unfollowed := true, recurses := true, apart := false }
def TopAlikeSaid : Prop := topAlikeRow.holds Try.pinned (OpenSpec.ofChange topAlikeSpec)

/-- ITS FALSE NEIGHBOUR: 'it returns false'. Refute it at one input. -/
def topAlikeWrong : ChangeSpec := { name := "topAlike", fn := fun _ => fun
  | [d1, d2, d3, d4] => { results := [.lit (.bool false)], args := [d1, d2, d3, d4] }
  | _ => none }
def TopAlikeWrongFalsely : Prop := topAlikeRow.holds Try.pinned (OpenSpec.ofChange topAlikeWrong)

/- THE SECOND FORM. 'bulk': how many values and letters a reading holds, each counted each time it is reached (what is shared counts as often as it is met; a slice's spare places count too). A statement '..UptoSaid' is the law's where the arguments, and the package variables that the reading takes, are together of bulk at most 1048576: NARROWER than '..Said'. Prove '..Said' where nothing that the law and all that it calls make is longer than what came in: it says more and counts as full. Else prove '..UptoSaid'. A law counts once. -/
mutual
def uptoBulk {H : Type} : DataW H → Nat
  | .lit (.string bytes) => bytes.length + 1
  | .lit _ => 1
  | .nil => 1
  | .ptr d => uptoBulk d + 1
  | .slice elems spare => uptoBulkAll elems + uptoBulkAll spare + 1
  | .agg parts => uptoBulkAll parts + 1
  | .iface _ d => uptoBulk d + 1
  | .map entries => uptoBulkEntries entries + 1
  | .held _ => 1
def uptoBulkAll {H : Type} : List (DataW H) → Nat
  | [] => 0
  | d :: r => uptoBulk d + uptoBulkAll r
def uptoBulkEntries {H : Type} : List (Lit × DataW H) → Nat
  | [] => 0
  | x :: r => uptoBulkEntry x + uptoBulkEntries r
def uptoBulkEntry {H : Type} : Lit × DataW H → Nat
  | (.string bytes, d) => bytes.length + uptoBulk d + 1
  | (_, d) => uptoBulk d + 1
 end
def uptoSmall : (H : Type) → List (DataW H) → Bool := fun _ ds => decide (uptoBulkAll ds ≤ 1048576)
def OpenSpec.upto (s : _root_.Go.ChangeSpec) : _root_.Go.OpenSpec := { _root_.Go.OpenSpec.ofChange s with cond := some uptoSmall }

/-- 'bellarminelaw02.GrantTrades', WHERE WHAT IT READS IS OF BULK AT MOST 1048576: true; the input reads as it did. -/
def grantTradesUptoRow : OpenClaim := { program := "ytckcbhbompfoeaa", sum := "69941ae7a6de5666e7ff0ade6930f7c0d9af7a2ce2eb83603e061f89bf977eae", func := "bellarmine/bellarminelaw02.GrantTrades", spec := "grantTrades", unfollowed := true, recurses := true, apart := false, narrowed := true }
def GrantTradesUptoSaid : Prop := grantTradesUptoRow.holds Try.pinned (OpenSpec.upto grantTradesSpec)

/-- 'bellarminelaw02.GrantGroups', WHERE WHAT IT READS IS OF BULK AT MOST 1048576: true; the input reads as it did. -/
def grantGroupsUptoRow : OpenClaim := { program := "ytckcbhbompfoeaa", sum := "69941ae7a6de5666e7ff0ade6930f7c0d9af7a2ce2eb83603e061f89bf977eae", func := "bellarmine/bellarminelaw02.GrantGroups", spec := "grantGroups", unfollowed := true, recurses := true, apart := false, narrowed := true }
def GrantGroupsUptoSaid : Prop := grantGroupsUptoRow.holds Try.pinned (OpenSpec.upto grantGroupsSpec)

/-- 'bellarminelaw02.GrantTurns', WHERE WHAT IT READS IS OF BULK AT MOST 1048576: true; the input reads as it did. -/
def grantTurnsUptoRow : OpenClaim := { program := "ytckcbhbompfoeaa", sum := "69941ae7a6de5666e7ff0ade6930f7c0d9af7a2ce2eb83603e061f89bf977eae", func := "bellarmine/bellarminelaw02.GrantTurns", spec := "grantTurns", unfollowed := true, recurses := true, apart := false, narrowed := true }
def GrantTurnsUptoSaid : Prop := grantTurnsUptoRow.holds Try.pinned (OpenSpec.upto grantTurnsSpec)

/-- 'bellarminelaw02.GrantCore', WHERE WHAT IT READS IS OF BULK AT MOST 1048576: true; the input reads as it did. -/
def grantCoreUptoRow : OpenClaim := { program := "ytckcbhbompfoeaa", sum := "69941ae7a6de5666e7ff0ade6930f7c0d9af7a2ce2eb83603e061f89bf977eae", func := "bellarmine/bellarminelaw02.GrantCore", spec := "grantCore", unfollowed := true, recurses := true, apart := false, narrowed := true }
def GrantCoreUptoSaid : Prop := grantCoreUptoRow.holds Try.pinned (OpenSpec.upto grantCoreSpec)

/-- 'bellarminelaw02.GrantRounds', WHERE WHAT IT READS IS OF BULK AT MOST 1048576: true; the input reads as it did. -/
def grantRoundsUptoRow : OpenClaim := { program := "ytckcbhbompfoeaa", sum := "69941ae7a6de5666e7ff0ade6930f7c0d9af7a2ce2eb83603e061f89bf977eae", func := "bellarmine/bellarminelaw02.GrantRounds", spec := "grantRounds", unfollowed := true, recurses := true, apart := false, narrowed := true }
def GrantRoundsUptoSaid : Prop := grantRoundsUptoRow.holds Try.pinned (OpenSpec.upto grantRoundsSpec)

/-- 'bellarminelaw02.GrantHonest', WHERE WHAT IT READS IS OF BULK AT MOST 1048576: true; the input reads as it did. -/
def grantHonestUptoRow : OpenClaim := { program := "ytckcbhbompfoeaa", sum := "69941ae7a6de5666e7ff0ade6930f7c0d9af7a2ce2eb83603e061f89bf977eae", func := "bellarmine/bellarminelaw02.GrantHonest", spec := "grantHonest", unfollowed := true, recurses := true, apart := false, narrowed := true }
def GrantHonestUptoSaid : Prop := grantHonestUptoRow.holds Try.pinned (OpenSpec.upto grantHonestSpec)

/-- 'bellarminelaw02.GrantOrders', WHERE WHAT IT READS IS OF BULK AT MOST 1048576: true; the input reads as it did. -/
def grantOrdersUptoRow : OpenClaim := { program := "ytckcbhbompfoeaa", sum := "69941ae7a6de5666e7ff0ade6930f7c0d9af7a2ce2eb83603e061f89bf977eae", func := "bellarmine/bellarminelaw02.GrantOrders", spec := "grantOrders", unfollowed := true, recurses := true, apart := false, narrowed := true }
def GrantOrdersUptoSaid : Prop := grantOrdersUptoRow.holds Try.pinned (OpenSpec.upto grantOrdersSpec)

/-- 'bellarminelaw02.GrantBest', WHERE WHAT IT READS IS OF BULK AT MOST 1048576: true; the input reads as it did. -/
def grantBestUptoRow : OpenClaim := { program := "ytckcbhbompfoeaa", sum := "69941ae7a6de5666e7ff0ade6930f7c0d9af7a2ce2eb83603e061f89bf977eae", func := "bellarmine/bellarminelaw02.GrantBest", spec := "grantBest", unfollowed := true, recurses := true, apart := false, narrowed := true }
def GrantBestUptoSaid : Prop := grantBestUptoRow.holds Try.pinned (OpenSpec.upto grantBestSpec)

/-- 'bellarminelaw02.GrantNamed', WHERE WHAT IT READS IS OF BULK AT MOST 1048576: true; the input reads as it did. -/
def grantNamedUptoRow : OpenClaim := { program := "ytckcbhbompfoeaa", sum := "69941ae7a6de5666e7ff0ade6930f7c0d9af7a2ce2eb83603e061f89bf977eae", func := "bellarmine/bellarminelaw02.GrantNamed", spec := "grantNamed", unfollowed := true, recurses := true, apart := false, narrowed := true }
def GrantNamedUptoSaid : Prop := grantNamedUptoRow.holds Try.pinned (OpenSpec.upto grantNamedSpec)

/-- 'bellarminelaw02.GrantMore', WHERE WHAT IT READS IS OF BULK AT MOST 1048576: true; the input reads as it did. -/
def grantMoreUptoRow : OpenClaim := { program := "ytckcbhbompfoeaa", sum := "69941ae7a6de5666e7ff0ade6930f7c0d9af7a2ce2eb83603e061f89bf977eae", func := "bellarmine/bellarminelaw02.GrantMore", spec := "grantMore", inPlace := ["slices.overlaps[int]"], unfollowed := true, recurses := true, apart := false, narrowed := true }
def GrantMoreUptoSaid : Prop := grantMoreUptoRow.holds Try.pinned (OpenSpec.upto grantMoreSpec)

/-- 'bellarminelaw02.GrantKnown', WHERE WHAT IT READS IS OF BULK AT MOST 1048576: true; the input reads as it did. -/
def grantKnownUptoRow : OpenClaim := { program := "ytckcbhbompfoeaa", sum := "69941ae7a6de5666e7ff0ade6930f7c0d9af7a2ce2eb83603e061f89bf977eae", func := "bellarmine/bellarminelaw02.GrantKnown", spec := "grantKnown", unfollowed := true, recurses := true, apart := false, narrowed := true }
def GrantKnownUptoSaid : Prop := grantKnownUptoRow.holds Try.pinned (OpenSpec.upto grantKnownSpec)

/-- 'bellarminetop.TopAlike', WHERE WHAT IT READS IS OF BULK AT MOST 1048576: true; the input reads as it did. -/
def topAlikeUptoRow : OpenClaim := { program := "ytckcbhbompfoeaa", sum := "69941ae7a6de5666e7ff0ade6930f7c0d9af7a2ce2eb83603e061f89bf977eae", func := "bellarmine/bellarminetop.TopAlike", spec := "topAlike", unfollowed := true, recurses := true, apart := false, narrowed := true }
def TopAlikeUptoSaid : Prop := topAlikeUptoRow.holds Try.pinned (OpenSpec.upto topAlikeSpec)

end Rows
end Go.Proofs.Ytckcbhbompfoeaa
