/-
  No cell of these rows narrows 'for every input' (looked for: loops, veiled, ifaces, maps, wideKeys, modest, calm, conditions, laid).
  DERIVED. THE GIVEN ROWS OF THIS SEAT. 11 by the template 'for every input the law returns true; each argument reads behind the call as it read before'; 0 by the template 'total and deterministic' (their statements: YtblopbimchkneaaTotals.lean).
  GIVEN WITH THE SEED: the statements are not yours to turn. If you find one false, say at which input.
  Laid BY PROGRAM, IN A SANDBOX (cutbox-rows.mjs): the forced cells as the released guide's own fill.sh prints them over the translation e7fffafd115e7622… (all of the seat's roots in one cut). By AI agents, Wed Nov 11 2026. No macro, syntax, notation, axiom, sorry.
-/
import Derived.Test.YtblopbimchkneaaChecked
import GoSem.Claim
import GoSem.ClaimJoined
import GoSem.ClaimMapViews
import Derived.JoinedTies
import Derived.KernelRfl
namespace Go.Proofs.Ytblopbimchkneaa
/- THE CELL 'sum', in the pinned program and in every row, IS THE sha256 OF THE DUMP (.gsa) THAT YtblopbimchkneaaProg.lean LOADS. Nothing in Lean hashes anything: it is a label: what it is worth is what the hold of that sum in a sandbox is worth. -/
noncomputable def Try.pinned : Pinned := { name := "ytblopbimchkneaa", sum := "e7fffafd115e76229dc1b3903763e7c1c0bf172fa07cad5ed753548780080623", checked := Try.checked }
namespace Rows
def none {H : Type} : Left H := { results := [], args := [] }

/-- 'bellarminelaw06.MouldHonest': WHATEVER THE INPUT: true; the input reads as it did. -/
def mouldHonestSpec : ChangeSpec := { name := "mouldHonest", fn := fun _ => fun
  | [d1, d2, d3, d4, d5, d6, d7] => { results := [.lit (.bool true)], args := [d1, d2, d3, d4, d5, d6, d7] }
  | _ => none }
def mouldHonestRow : OpenClaim := { program := "ytblopbimchkneaa", sum := "e7fffafd115e76229dc1b3903763e7c1c0bf172fa07cad5ed753548780080623", func := "bellarmine/bellarminelaw06.MouldHonest", spec := "mouldHonest", unfollowed := true, recurses := true, apart := false }
def MouldHonestSaid : Prop := mouldHonestRow.holds Try.pinned (OpenSpec.ofChange mouldHonestSpec)

/-- ITS FALSE NEIGHBOUR: 'it returns false'. Refute it at one input. -/
def mouldHonestWrong : ChangeSpec := { name := "mouldHonest", fn := fun _ => fun
  | [d1, d2, d3, d4, d5, d6, d7] => { results := [.lit (.bool false)], args := [d1, d2, d3, d4, d5, d6, d7] }
  | _ => none }
def MouldHonestWrongFalsely : Prop := mouldHonestRow.holds Try.pinned (OpenSpec.ofChange mouldHonestWrong)

/-- 'bellarminelaw06.MouldOrigins': WHATEVER THE INPUT: true; the input reads as it did. -/
def mouldOriginsSpec : ChangeSpec := { name := "mouldOrigins", fn := fun _ => fun
  | [d1, d2, d3, d4] => { results := [.lit (.bool true)], args := [d1, d2, d3, d4] }
  | _ => none }
def mouldOriginsRow : OpenClaim := { program := "ytblopbimchkneaa", sum := "e7fffafd115e76229dc1b3903763e7c1c0bf172fa07cad5ed753548780080623", func := "bellarmine/bellarminelaw06.MouldOrigins", spec := "mouldOrigins", unfollowed := true, recurses := true, apart := false }
def MouldOriginsSaid : Prop := mouldOriginsRow.holds Try.pinned (OpenSpec.ofChange mouldOriginsSpec)

/-- ITS FALSE NEIGHBOUR: 'it returns false'. Refute it at one input. -/
def mouldOriginsWrong : ChangeSpec := { name := "mouldOrigins", fn := fun _ => fun
  | [d1, d2, d3, d4] => { results := [.lit (.bool false)], args := [d1, d2, d3, d4] }
  | _ => none }
def MouldOriginsWrongFalsely : Prop := mouldOriginsRow.holds Try.pinned (OpenSpec.ofChange mouldOriginsWrong)

/-- 'bellarminelaw06.MouldForged': WHATEVER THE INPUT: true; the input reads as it did. -/
def mouldForgedSpec : ChangeSpec := { name := "mouldForged", fn := fun _ => fun
  | [d1, d2] => { results := [.lit (.bool true)], args := [d1, d2] }
  | _ => none }
def mouldForgedRow : OpenClaim := { program := "ytblopbimchkneaa", sum := "e7fffafd115e76229dc1b3903763e7c1c0bf172fa07cad5ed753548780080623", func := "bellarmine/bellarminelaw06.MouldForged", spec := "mouldForged", unfollowed := true, recurses := true, apart := false }
def MouldForgedSaid : Prop := mouldForgedRow.holds Try.pinned (OpenSpec.ofChange mouldForgedSpec)

/-- ITS FALSE NEIGHBOUR: 'it returns false'. Refute it at one input. -/
def mouldForgedWrong : ChangeSpec := { name := "mouldForged", fn := fun _ => fun
  | [d1, d2] => { results := [.lit (.bool false)], args := [d1, d2] }
  | _ => none }
def MouldForgedWrongFalsely : Prop := mouldForgedRow.holds Try.pinned (OpenSpec.ofChange mouldForgedWrong)

/-- 'bellarminelaw06.MouldOnce': WHATEVER THE INPUT: true; the input reads as it did. -/
def mouldOnceSpec : ChangeSpec := { name := "mouldOnce", fn := fun _ => fun
  | [d] => { results := [.lit (.bool true)], args := [d] }
  | _ => none }
def mouldOnceRow : OpenClaim := { program := "ytblopbimchkneaa", sum := "e7fffafd115e76229dc1b3903763e7c1c0bf172fa07cad5ed753548780080623", func := "bellarmine/bellarminelaw06.MouldOnce", spec := "mouldOnce", unfollowed := true, recurses := true, apart := false }
def MouldOnceSaid : Prop := mouldOnceRow.holds Try.pinned (OpenSpec.ofChange mouldOnceSpec)

/-- ITS FALSE NEIGHBOUR: 'it returns false'. Refute it at one input. -/
def mouldOnceWrong : ChangeSpec := { name := "mouldOnce", fn := fun _ => fun
  | [d] => { results := [.lit (.bool false)], args := [d] }
  | _ => none }
def MouldOnceWrongFalsely : Prop := mouldOnceRow.holds Try.pinned (OpenSpec.ofChange mouldOnceWrong)

/-- 'bellarminelaw06.MouldProved': WHATEVER THE INPUT: true; the input reads as it did. -/
def mouldProvedSpec : ChangeSpec := { name := "mouldProved", fn := fun _ => fun
  | [d1, d2, d3] => { results := [.lit (.bool true)], args := [d1, d2, d3] }
  | _ => none }
def mouldProvedRow : OpenClaim := { program := "ytblopbimchkneaa", sum := "e7fffafd115e76229dc1b3903763e7c1c0bf172fa07cad5ed753548780080623", func := "bellarmine/bellarminelaw06.MouldProved", spec := "mouldProved", unfollowed := true, recurses := true, apart := false }
def MouldProvedSaid : Prop := mouldProvedRow.holds Try.pinned (OpenSpec.ofChange mouldProvedSpec)

/-- ITS FALSE NEIGHBOUR: 'it returns false'. Refute it at one input. -/
def mouldProvedWrong : ChangeSpec := { name := "mouldProved", fn := fun _ => fun
  | [d1, d2, d3] => { results := [.lit (.bool false)], args := [d1, d2, d3] }
  | _ => none }
def MouldProvedWrongFalsely : Prop := mouldProvedRow.holds Try.pinned (OpenSpec.ofChange mouldProvedWrong)

/-- 'bellarminelaw06.MouldPaths': WHATEVER THE INPUT: true; the input reads as it did. -/
def mouldPathsSpec : ChangeSpec := { name := "mouldPaths", fn := fun _ => fun
  | [d] => { results := [.lit (.bool true)], args := [d] }
  | _ => none }
def mouldPathsRow : OpenClaim := { program := "ytblopbimchkneaa", sum := "e7fffafd115e76229dc1b3903763e7c1c0bf172fa07cad5ed753548780080623", func := "bellarmine/bellarminelaw06.MouldPaths", spec := "mouldPaths", unfollowed := true, recurses := true, apart := false }
def MouldPathsSaid : Prop := mouldPathsRow.holds Try.pinned (OpenSpec.ofChange mouldPathsSpec)

/-- ITS FALSE NEIGHBOUR: 'it returns false'. Refute it at one input. -/
def mouldPathsWrong : ChangeSpec := { name := "mouldPaths", fn := fun _ => fun
  | [d] => { results := [.lit (.bool false)], args := [d] }
  | _ => none }
def MouldPathsWrongFalsely : Prop := mouldPathsRow.holds Try.pinned (OpenSpec.ofChange mouldPathsWrong)

/-- 'bellarminelaw06.MouldLeft': WHATEVER THE INPUT: true; the input reads as it did. -/
def mouldLeftSpec : ChangeSpec := { name := "mouldLeft", fn := fun _ => fun
  | [d] => { results := [.lit (.bool true)], args := [d] }
  | _ => none }
def mouldLeftRow : OpenClaim := { program := "ytblopbimchkneaa", sum := "e7fffafd115e76229dc1b3903763e7c1c0bf172fa07cad5ed753548780080623", func := "bellarmine/bellarminelaw06.MouldLeft", spec := "mouldLeft", unfollowed := true, recurses := true, apart := false }
def MouldLeftSaid : Prop := mouldLeftRow.holds Try.pinned (OpenSpec.ofChange mouldLeftSpec)

/-- ITS FALSE NEIGHBOUR: 'it returns false'. Refute it at one input. -/
def mouldLeftWrong : ChangeSpec := { name := "mouldLeft", fn := fun _ => fun
  | [d] => { results := [.lit (.bool false)], args := [d] }
  | _ => none }
def MouldLeftWrongFalsely : Prop := mouldLeftRow.holds Try.pinned (OpenSpec.ofChange mouldLeftWrong)

/-- 'bellarminelaw06.MouldModels': WHATEVER THE INPUT: true; the input reads as it did. -/
def mouldModelsSpec : ChangeSpec := { name := "mouldModels", fn := fun _ => fun
  | [d] => { results := [.lit (.bool true)], args := [d] }
  | _ => none }
def mouldModelsRow : OpenClaim := { program := "ytblopbimchkneaa", sum := "e7fffafd115e76229dc1b3903763e7c1c0bf172fa07cad5ed753548780080623", func := "bellarmine/bellarminelaw06.MouldModels", spec := "mouldModels", unfollowed := true, recurses := true, apart := false }
def MouldModelsSaid : Prop := mouldModelsRow.holds Try.pinned (OpenSpec.ofChange mouldModelsSpec)

/-- ITS FALSE NEIGHBOUR: 'it returns false'. Refute it at one input. -/
def mouldModelsWrong : ChangeSpec := { name := "mouldModels", fn := fun _ => fun
  | [d] => { results := [.lit (.bool false)], args := [d] }
  | _ => none }
def MouldModelsWrongFalsely : Prop := mouldModelsRow.holds Try.pinned (OpenSpec.ofChange mouldModelsWrong)

/-- 'bellarminelaw06.MouldNamed': WHATEVER THE INPUT: true; the input reads as it did. -/
def mouldNamedSpec : ChangeSpec := { name := "mouldNamed", fn := fun _ => fun
  | [d1, d2, d3] => { results := [.lit (.bool true)], args := [d1, d2, d3] }
  | _ => none }
def mouldNamedRow : OpenClaim := { program := "ytblopbimchkneaa", sum := "e7fffafd115e76229dc1b3903763e7c1c0bf172fa07cad5ed753548780080623", func := "bellarmine/bellarminelaw06.MouldNamed", spec := "mouldNamed", unfollowed := true, recurses := true, apart := false }
def MouldNamedSaid : Prop := mouldNamedRow.holds Try.pinned (OpenSpec.ofChange mouldNamedSpec)

/-- ITS FALSE NEIGHBOUR: 'it returns false'. Refute it at one input. -/
def mouldNamedWrong : ChangeSpec := { name := "mouldNamed", fn := fun _ => fun
  | [d1, d2, d3] => { results := [.lit (.bool false)], args := [d1, d2, d3] }
  | _ => none }
def MouldNamedWrongFalsely : Prop := mouldNamedRow.holds Try.pinned (OpenSpec.ofChange mouldNamedWrong)

/-- 'bellarminelaw06.MouldMore': WHATEVER THE INPUT: true; the input reads as it did. -/
def mouldMoreSpec : ChangeSpec := { name := "mouldMore", fn := fun _ => fun
  | [d1, d2, d3, d4] => { results := [.lit (.bool true)], args := [d1, d2, d3, d4] }
  | _ => none }
def mouldMoreRow : OpenClaim := { program := "ytblopbimchkneaa", sum := "e7fffafd115e76229dc1b3903763e7c1c0bf172fa07cad5ed753548780080623", func := "bellarmine/bellarminelaw06.MouldMore", spec := "mouldMore", unfollowed := true, recurses := true, apart := false }
def MouldMoreSaid : Prop := mouldMoreRow.holds Try.pinned (OpenSpec.ofChange mouldMoreSpec)

/-- ITS FALSE NEIGHBOUR: 'it returns false'. Refute it at one input. -/
def mouldMoreWrong : ChangeSpec := { name := "mouldMore", fn := fun _ => fun
  | [d1, d2, d3, d4] => { results := [.lit (.bool false)], args := [d1, d2, d3, d4] }
  | _ => none }
def MouldMoreWrongFalsely : Prop := mouldMoreRow.holds Try.pinned (OpenSpec.ofChange mouldMoreWrong)

/-- 'bellarminelaw06.MouldKnown': WHATEVER THE INPUT: true; the input reads as it did. -/
def mouldKnownSpec : ChangeSpec := { name := "mouldKnown", fn := fun _ => fun
  | [] => { results := [.lit (.bool true)], args := [] }
  | _ => none }
def mouldKnownRow : OpenClaim := { program := "ytblopbimchkneaa", sum := "e7fffafd115e76229dc1b3903763e7c1c0bf172fa07cad5ed753548780080623", func := "bellarmine/bellarminelaw06.MouldKnown", spec := "mouldKnown", unfollowed := true, recurses := true, apart := false }
def MouldKnownSaid : Prop := mouldKnownRow.holds Try.pinned (OpenSpec.ofChange mouldKnownSpec)

/-- ITS FALSE NEIGHBOUR: 'it returns false'. Refute it at one input. -/
def mouldKnownWrong : ChangeSpec := { name := "mouldKnown", fn := fun _ => fun
  | [] => { results := [.lit (.bool false)], args := [] }
  | _ => none }
def MouldKnownWrongFalsely : Prop := mouldKnownRow.holds Try.pinned (OpenSpec.ofChange mouldKnownWrong)

/- THE SECOND FORM. 'bulk': how many values and letters a reading holds, each counted each time it is reached (what is shared counts as often as it is met; a slice's spare places count too). A statement '..UptoSaid' is the law's where the arguments, and the package variables that the reading takes, are together of bulk at most 1048576: NARROWER than '..Said'. Prove '..Said' where nothing that the law and all that it calls make is longer than what came in: it says more and counts as full. Else prove '..UptoSaid'. A law counts once. -/
mutual
def uptoBulk {H : Type} : DataW H → Nat
  | .lit (.string bytes) => bytes.length + 1
  | .lit _ => 1
  | .nil => 1
  | .ptr d => uptoBulk d + 1
  | .slice elems spare => uptoBulkAll elems + uptoBulkAll spare + 1
  | .agg parts => uptoBulkAll parts + 1
  | .iface _ d => uptoBulk d + 1
  | .map entries => uptoBulkEntries entries + 1
  | .held _ => 1
def uptoBulkAll {H : Type} : List (DataW H) → Nat
  | [] => 0
  | d :: r => uptoBulk d + uptoBulkAll r
def uptoBulkEntries {H : Type} : List (Lit × DataW H) → Nat
  | [] => 0
  | x :: r => uptoBulkEntry x + uptoBulkEntries r
def uptoBulkEntry {H : Type} : Lit × DataW H → Nat
  | (.string bytes, d) => bytes.length + uptoBulk d + 1
  | (_, d) => uptoBulk d + 1
 end
def uptoSmall : (H : Type) → List (DataW H) → Bool := fun _ ds => decide (uptoBulkAll ds ≤ 1048576)
def OpenSpec.upto (s : _root_.Go.ChangeSpec) : _root_.Go.OpenSpec := { _root_.Go.OpenSpec.ofChange s with cond := some uptoSmall }

/-- 'bellarminelaw06.MouldHonest', WHERE WHAT IT READS IS OF BULK AT MOST 1048576: true; the input reads as it did. -/
def mouldHonestUptoRow : OpenClaim := { program := "ytblopbimchkneaa", sum := "e7fffafd115e76229dc1b3903763e7c1c0bf172fa07cad5ed753548780080623", func := "bellarmine/bellarminelaw06.MouldHonest", spec := "mouldHonest", unfollowed := true, recurses := true, apart := false, narrowed := true }
def MouldHonestUptoSaid : Prop := mouldHonestUptoRow.holds Try.pinned (OpenSpec.upto mouldHonestSpec)

/-- 'bellarminelaw06.MouldOrigins', WHERE WHAT IT READS IS OF BULK AT MOST 1048576: true; the input reads as it did. -/
def mouldOriginsUptoRow : OpenClaim := { program := "ytblopbimchkneaa", sum := "e7fffafd115e76229dc1b3903763e7c1c0bf172fa07cad5ed753548780080623", func := "bellarmine/bellarminelaw06.MouldOrigins", spec := "mouldOrigins", unfollowed := true, recurses := true, apart := false, narrowed := true }
def MouldOriginsUptoSaid : Prop := mouldOriginsUptoRow.holds Try.pinned (OpenSpec.upto mouldOriginsSpec)

/-- 'bellarminelaw06.MouldForged', WHERE WHAT IT READS IS OF BULK AT MOST 1048576: true; the input reads as it did. -/
def mouldForgedUptoRow : OpenClaim := { program := "ytblopbimchkneaa", sum := "e7fffafd115e76229dc1b3903763e7c1c0bf172fa07cad5ed753548780080623", func := "bellarmine/bellarminelaw06.MouldForged", spec := "mouldForged", unfollowed := true, recurses := true, apart := false, narrowed := true }
def MouldForgedUptoSaid : Prop := mouldForgedUptoRow.holds Try.pinned (OpenSpec.upto mouldForgedSpec)

/-- 'bellarminelaw06.MouldOnce', WHERE WHAT IT READS IS OF BULK AT MOST 1048576: true; the input reads as it did. -/
def mouldOnceUptoRow : OpenClaim := { program := "ytblopbimchkneaa", sum := "e7fffafd115e76229dc1b3903763e7c1c0bf172fa07cad5ed753548780080623", func := "bellarmine/bellarminelaw06.MouldOnce", spec := "mouldOnce", unfollowed := true, recurses := true, apart := false, narrowed := true }
def MouldOnceUptoSaid : Prop := mouldOnceUptoRow.holds Try.pinned (OpenSpec.upto mouldOnceSpec)

/-- 'bellarminelaw06.MouldProved', WHERE WHAT IT READS IS OF BULK AT MOST 1048576: true; the input reads as it did. -/
def mouldProvedUptoRow : OpenClaim := { program := "ytblopbimchkneaa", sum := "e7fffafd115e76229dc1b3903763e7c1c0bf172fa07cad5ed753548780080623", func := "bellarmine/bellarminelaw06.MouldProved", spec := "mouldProved", unfollowed := true, recurses := true, apart := false, narrowed := true }
def MouldProvedUptoSaid : Prop := mouldProvedUptoRow.holds Try.pinned (OpenSpec.upto mouldProvedSpec)

/-- 'bellarminelaw06.MouldPaths', WHERE WHAT IT READS IS OF BULK AT MOST 1048576: true; the input reads as it did. -/
def mouldPathsUptoRow : OpenClaim := { program := "ytblopbimchkneaa", sum := "e7fffafd115e76229dc1b3903763e7c1c0bf172fa07cad5ed753548780080623", func := "bellarmine/bellarminelaw06.MouldPaths", spec := "mouldPaths", unfollowed := true, recurses := true, apart := false, narrowed := true }
def MouldPathsUptoSaid : Prop := mouldPathsUptoRow.holds Try.pinned (OpenSpec.upto mouldPathsSpec)

/-- 'bellarminelaw06.MouldLeft', WHERE WHAT IT READS IS OF BULK AT MOST 1048576: true; the input reads as it did. -/
def mouldLeftUptoRow : OpenClaim := { program := "ytblopbimchkneaa", sum := "e7fffafd115e76229dc1b3903763e7c1c0bf172fa07cad5ed753548780080623", func := "bellarmine/bellarminelaw06.MouldLeft", spec := "mouldLeft", unfollowed := true, recurses := true, apart := false, narrowed := true }
def MouldLeftUptoSaid : Prop := mouldLeftUptoRow.holds Try.pinned (OpenSpec.upto mouldLeftSpec)

/-- 'bellarminelaw06.MouldModels', WHERE WHAT IT READS IS OF BULK AT MOST 1048576: true; the input reads as it did. -/
def mouldModelsUptoRow : OpenClaim := { program := "ytblopbimchkneaa", sum := "e7fffafd115e76229dc1b3903763e7c1c0bf172fa07cad5ed753548780080623", func := "bellarmine/bellarminelaw06.MouldModels", spec := "mouldModels", unfollowed := true, recurses := true, apart := false, narrowed := true }
def MouldModelsUptoSaid : Prop := mouldModelsUptoRow.holds Try.pinned (OpenSpec.upto mouldModelsSpec)

/-- 'bellarminelaw06.MouldNamed', WHERE WHAT IT READS IS OF BULK AT MOST 1048576: true; the input reads as it did. -/
def mouldNamedUptoRow : OpenClaim := { program := "ytblopbimchkneaa", sum := "e7fffafd115e76229dc1b3903763e7c1c0bf172fa07cad5ed753548780080623", func := "bellarmine/bellarminelaw06.MouldNamed", spec := "mouldNamed", unfollowed := true, recurses := true, apart := false, narrowed := true }
def MouldNamedUptoSaid : Prop := mouldNamedUptoRow.holds Try.pinned (OpenSpec.upto mouldNamedSpec)

/-- 'bellarminelaw06.MouldMore', WHERE WHAT IT READS IS OF BULK AT MOST 1048576: true; the input reads as it did. -/
def mouldMoreUptoRow : OpenClaim := { program := "ytblopbimchkneaa", sum := "e7fffafd115e76229dc1b3903763e7c1c0bf172fa07cad5ed753548780080623", func := "bellarmine/bellarminelaw06.MouldMore", spec := "mouldMore", unfollowed := true, recurses := true, apart := false, narrowed := true }
def MouldMoreUptoSaid : Prop := mouldMoreUptoRow.holds Try.pinned (OpenSpec.upto mouldMoreSpec)

/-- 'bellarminelaw06.MouldKnown', WHERE WHAT IT READS IS OF BULK AT MOST 1048576: true; the input reads as it did. -/
def mouldKnownUptoRow : OpenClaim := { program := "ytblopbimchkneaa", sum := "e7fffafd115e76229dc1b3903763e7c1c0bf172fa07cad5ed753548780080623", func := "bellarmine/bellarminelaw06.MouldKnown", spec := "mouldKnown", unfollowed := true, recurses := true, apart := false, narrowed := true }
def MouldKnownUptoSaid : Prop := mouldKnownUptoRow.holds Try.pinned (OpenSpec.upto mouldKnownSpec)

end Rows
end Go.Proofs.Ytblopbimchkneaa
