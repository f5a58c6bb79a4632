/- An evaluator of the model's code that draws nothing: it runs a call over a small heap of its own, after the code has been prepared. -/
import GoSem.Step
import GoSem.Core.Utf8
namespace Go.Abs
open Go
set_option linter.unusedVariables false

/-- What the package-level variables have, by their numbers: as the evaluator may read them. -/
class Globs where
  gl : Nat → Option (List Value)

/-- A tree of numbered entries. -/
inductive Tr (α : Type) where
  | nil
  | node (v : Option α) (l r : Tr α)

def Tr.get {α : Type} : Tr α → Nat → Option α
  | .nil, _ => none
  | .node v l r, n => bif Nat.beq n 0 then v else bif Nat.beq (n % 2) 1 then l.get (n / 2) else r.get (n / 2 - 1)

def Tr.set {α : Type} : Nat → Tr α → Nat → Option α → Tr α
  | 0, t, _, _ => t
  | f + 1, .nil, n, v =>
    bif Nat.beq n 0 then .node v .nil .nil else bif Nat.beq (n % 2) 1 then .node none (Tr.set f .nil (n / 2) v) .nil else .node none .nil (Tr.set f .nil (n / 2 - 1) v)
  | f + 1, .node u l r, n, v =>
    bif Nat.beq n 0 then .node v l r else bif Nat.beq (n % 2) 1 then .node u (Tr.set f l (n / 2) v) r else .node u l (Tr.set f r (n / 2 - 1) v)



def Tr.put {α : Type} (t : Tr α) (n : Nat) (v : α) : Tr α := Tr.set (n + 1) t n (some v)

def Tr.putL {α : Type} : Tr α → Nat → List α → Tr α
  | t, _, [] => t
  | t, n, v :: l => (t.put n v).putL (n + 1) l

/-! ### Prepared code -/

inductive NilK where
  | ptr | sl | fn

inductive AOp where
  | move (x : Operand)
  | pick (c a b : Operand)
  | new (e : TypeId) (z : List Value)
  | box (e : TypeId) (x : Operand)
  | load1 (x : Operand)
  | loadN (x : Operand) (n : Nat)
  | store (x y : Operand) (n : Nat)
  | nilCheck (x : Operand)
  | fieldAddr (x : Operand) (off : Nat)
  | idxA (x ix : Operand) (n sz : Nat)
  | idxS (x ix : Operand) (sz : Nat)
  | slA (x : Operand) (n sz : Nat) (lo hi mx : Option Operand)
  | slS (x : Operand) (sz : Nat) (lo hi mx : Option Operand)
  | mkS (e : TypeId) (z : List Value) (l c : Operand)
  | bldS (e : TypeId) (sz : Nat) (z : List Value) (n : Nat) (parts : List (Nat × Operand))
  | bldT (z : List Value) (places : List (Nat × Nat)) (parts : List (Nat × Operand))
  | bldA (z : List Value) (sz : Nat) (parts : List (Nat × Operand))
  | fld (x : Operand) (off : Nat) (n : Option Nat)
  | idx (x ix : Operand) (n sz : Nat) (ag : Bool)
  | ext (x : Operand) (k : Nat)
  | mkF (f : Fn) (a b : Array Operand)
  | mkI (t : TypeId) (x : Operand)
  | ibin (op : BinOp) (k : IntKind) (x y : Operand)
  | nilEq (neg : Bool) (kd : NilK) (x : Operand)
  | not (x : Operand)
  | plain (o : Oper)
  | append (e : TypeId) (sz : Nat) (s x : Operand)
  | copy (sz : Nat) (d x : Operand)
  | len (x : Operand)
  | callF (g : FuncId) (args : List Operand)
  | callV (f : Operand) (args : List Operand)
  | inv (tab : List (Nat × FuncId)) (x : Operand) (args : List Operand)
  | tas (a : TypeId) (z : Value) (x : Operand) (ok : Bool)
  | tasI (tab : List (Nat × Bool)) (z : Value) (x : Operand) (ok : Bool)
  | clr (sz : Nat) (z : List Value) (x : Operand)
  | mkM (r : Option Operand)
  | mget (kd : Nat) (z : Value) (x k : Operand) (ok : Bool)
  | mput (kd : Nat) (x k y : Operand)
  | mdel (kd : Nat) (x k : Operand)
  | mlen (x : Operand)
  | ment (kd : Nat) (z : Value) (x k : Operand)
  | mset (x s y : Operand)
  | strIt (x : Operand)
  | strNx (x : Operand)
  /-- A slice of bytes (0) or of runes (1) as a string. -/
  | cts (kd : Nat) (x : Operand)
  | cap (x : Operand)
  /-- So many zero values onto nil. -/
  | appZ (e : TypeId) (sz : Nat) (z : List Value) (s x : Operand)
  /-- What the evaluator doesn't carry out. -/
  | never

structure POp where
  i : Nat
  dst : Option Tmp
  op : AOp
  guard : Option (Tmp × Bool)
  /-- Loads that may come before or behind. -/
  loose : List Nat

inductive PC where
  | skip
  | region (draw : Bool) (l : List POp)
  | seq (a b : PC)
  | cond (c : Operand) (a b : PC)
  | block (id : Nat) (b : PC)
  | loop (b : PC)
  | rangeFunc (f : Operand) (ps : List Tmp) (asg body : PC)
  | exit (id : Nat)
  | scope (b : PC)
  | label (l : Nat)
  | goto (l : Nat)
  | ret

inductive PRes where
  | tmp (t : Tmp)
  | cell (a : Tmp) (n : Option Nat)

structure PF where
  nt : Nat
  body : PC
  results : List PRes

def plain1 : Value → Bool
  | .bool _ => true
  | .int _ _ => true
  | .string _ => true
  | .pointer none => true
  | .slice none _ _ => true
  | .map none => true
  | .nilFunc => true
  | .nilIface => true
  | _ => false

def plainV : Value → Bool
  | .agg cs => cs.toList.all plain1
  | v => plain1 v

def isAggD : TypeDesc → Bool
  | .struct _ => true
  | .array _ _ => true
  | _ => false

def sizeT (P : Program) (t : TypeId) : Nat := match P.info? t with | some i => i.size | none => 0
def bytesT (P : Program) (t : TypeId) : Nat := match P.info? t with | some i => i.bytes | none => 0

/-- The cells of a type's zero value: they name no memory. -/
def zeroT (P : Program) (t : TypeId) : Option (List Value) :=
  match P.info? t with
  | some i => (match i.zero with
    | some z => bif z.cells.toList.all plain1 && Nat.beq z.cells.size i.size then some z.cells.toList else none
    | none => none)
  | none => none

/-- A type whose values can be appended. -/
def srcT (P : Program) (t : TypeId) : Bool :=
  match P.underlying t with
  | some (.slice _) => true
  | some .string => true
  | _ => false

/-- Where a struct's fields lie, and how many cells they have. -/
def placesT (P : Program) : List Field → Option (List (Nat × Nat))
  | [] => some []
  | f :: l => (match P.info? f.type, placesT P l with | some i, some r => some ((f.offset, i.size) :: r) | _, _ => none)

/-- The cells of a part that is a struct or an array; none for one of one cell. -/
def partN (P : Program) (t : TypeId) : Option (Option Nat) :=
  match P.underlying t with
  | some d => some (bif isAggD d then some (sizeT P t) else none)
  | none => none

/-- Is it nil that stands there, of what kind? -/
def nilKind (d : TypeDesc) (y : Operand) : Option NilK :=
  match d, y with
  | .pointer _, .const (.pointer none) => some .ptr
  | .slice _, .const (.slice none _ _) => some .sl
  | .func _ _ _, .const .nilFunc => some .fn
  | _, _ => none

/-- A type's zero value: it names no memory. -/
def zeroV (P : Program) (t : TypeId) : Option Value :=
  match P.info? t with
  | some i => (match i.zero with
    | some z => bif plainV z then some z else none
    | none => none)
  | none => none

/-- The function that a type's method is, where the receiver goes as it is. -/
def methOf (P : Program) (name : String) (t : TypeId) : Option FuncId :=
  match P.info? t with
  | some i => (match i.methods.find? (·.name == name) with
    | some m => (match m.path.toList, m.func, P.underlying t with
      | [], some (f, true), some (.pointer _) => some f
      | [], some (_, false), some (.pointer _) => none
      | [], some (f, false), some _ => some f
      | _, _, _ => none)
    | none => none)
  | none => none

def methTab (P : Program) (name : String) : List (Nat × FuncId) :=
  (List.range P.types.size).filterMap fun t => match methOf P name t with | some f => some (t, f) | none => none

/-- Which types have all methods of an interface type. -/
def hasTab (P : Program) (want : Array (String × TypeId)) : List (Nat × Bool) :=
  (List.range P.types.size).filterMap fun t => match P.info? t with | some i => some (t, (Instr.missingMethod want i.methods).isNone) | none => none

def findN {α : Type} (n : Nat) : List (Nat × α) → Option α
  | [] => none
  | (m, a) :: l => bif Nat.beq m n then some a else findN n l

/-- Keys that are compared at once: integers, strings, booleans; arrays of so many integers (3 and more). -/
def keyKind (P : Program) (t : TypeId) : Option Nat :=
  match P.underlying t with
  | some (.int _) => some 0
  | some .string => some 1
  | some .bool => some 2
  | some (.array n e) => (match P.underlying e with | some (.int _) => bif Nat.beq (sizeT P e) 1 then some (n + 3) else none | _ => none)
  | _ => none

/-- A map's kind of keys, and its elements' zero value. -/
def mapKind (P : Program) (t : TypeId) : Option (Nat × Value) :=
  match P.underlying t with
  | some (.map k e) => (match keyKind P k, zeroV P e with | some n, some z => some (n, z) | _, _ => none)
  | _ => none

/-- A conversion of bytes, or of runes, to a string. -/
def cvtK (P : Program) (a b : TypeId) : Option Nat :=
  match P.underlying b, P.underlying a with
  | some .string, some (.slice e) => (match P.underlying e with | some (.int .u8) => some 0 | some (.int .i32) => some 1 | _ => none)
  | _, _ => none

def prepOp (P : Program) (o : Oper) : Option AOp :=
  match o.op with
  | .move x => some (.move x)
  | .assign x => some (.move x)
  | .pick c a b => some (.pick c a b)
  | .alloc e => (match zeroT P e with | some z => some (.new e z) | none => none)
  | .box e x => some (.box e x)
  | .load t x => (match P.underlying t with | some d => some (bif isAggD d then .loadN x (sizeT P t) else .load1 x) | none => none)
  | .store t x y => (match P.info? t with | some _ => some (.store x y (sizeT P t)) | none => none)
  | .nilCheck x => some (.nilCheck x)
  | .fieldAddr s x k =>
    (match P.underlying s with
    | some (.struct fs) => (match fs[k]? with | some f => bif Nat.ble 1 (sizeT P f.type) then some (.fieldAddr x f.offset) else none | none => none)
    | _ => none)
  | .indexAddr t x ix =>
    (match P.underlying t with
    | some (.array n e) => bif Nat.ble 1 (sizeT P e) then some (.idxA x ix n (sizeT P e)) else none
    | some (.slice e) => bif Nat.ble 1 (sizeT P e) then some (.idxS x ix (sizeT P e)) else none
    | _ => none)
  | .slice t x lo hi mx =>
    (match P.underlying t with
    | some (.array n e) => bif Nat.ble 1 (sizeT P e) then some (.slA x n (sizeT P e) lo hi mx) else none
    | some (.slice e) => bif Nat.ble 1 (sizeT P e) then some (.slS x (sizeT P e) lo hi mx) else none
    | some .string => some (.plain o)
    | _ => none)
  | .makeSlice t l c => (match P.underlying t with | some (.slice e) => (match zeroT P e with | some z => bif Nat.ble (bytesT P e) 1000000 && Nat.ble 1 (sizeT P e) then some (.mkS e z l c) else none | none => none) | _ => none)
  | .buildSlice t n parts => (match P.underlying t with | some (.slice e) => (match zeroT P e with | some z => bif Nat.ble (n * sizeT P e) 100000 && Nat.ble 1 (sizeT P e) then some (.bldS e (sizeT P e) (List.replicate n z).flatten n parts.toList) else none | none => none) | _ => none)
  | .build t parts =>
    (match P.underlying t, zeroT P t with
    | some (.struct fs), some z => (match placesT P fs.toList with | some pl => some (.bldT z pl parts.toList) | none => none)
    | some (.array _ e), some z => (match P.info? e with | some i => some (.bldA z i.size parts.toList) | none => none)
    | _, _ => none)
  | .field t x k =>
    (match P.underlying t with
    | some (.struct fs) => (match fs[k]? with | some f => (match partN P f.type with | some n => some (.fld x f.offset n) | none => none) | none => none)
    | _ => none)
  | .index t x ix =>
    (match P.underlying t with
    | some (.array n e) => (match partN P e with | some (some m) => some (.idx x ix n m true) | some none => some (.idx x ix n (sizeT P e) false) | none => none)
    | some .string => some (.plain o)
    | _ => none)
  | .extract x k => some (.ext x k)
  | .makeFunc f a b => (match f with | .yield _ => none | _ => some (.mkF f a b))
  | .makeInterface t x => (match P.underlying t with | some (.interface _) => none | some _ => some (.mkI t x) | none => none)
  | .binOp op t x y _ =>
    (match P.underlying t, op with
    | some (.int k), .shl => some (.plain o)
    | some (.int k), .shr => some (.plain o)
    | some (.int k), _ => some (.ibin op k x y)
    | some d, .eql => (match nilKind d y with | some k => some (.nilEq false k x) | none => some (.plain o))
    | some d, .neq => (match nilKind d y with | some k => some (.nilEq true k x) | none => some (.plain o))
    | some _, _ => some (.plain o)
    | none, _ => none)
  | .unOp op t x => some (match op with | .not => .not x | _ => .plain o)
  | .convert a b x => (match cvtK P a b with | some kd => some (.cts kd x) | none => some (.plain o))
  | .call c =>
    (match c.callee with
    | .value (.func g) => some (.callF g c.args.toList)
    | .value f => some (.callV f c.args.toList)
    | .invoke x name => some (.inv (methTab P name) x c.args.toList)
    | .builtin .append => (match c.args.toList, c.argTypes[0]?, c.argTypes[1]? with
      | [s, x], some st, some xt => (match P.underlying st with
        | some (.slice e) => (match P.underlying xt with
          | some (.int .i64) => (match zeroT P e with | some z => bif Nat.ble (bytesT P e) 1000000 && Nat.ble 1 (sizeT P e) then some (.appZ e (sizeT P e) z s x) else none | none => none)
          | _ => bif Nat.ble (bytesT P e) 1000000 && srcT P xt && (zeroT P e).isSome then some (.append e (sizeT P e) s x) else none)
        | _ => none)
      | _, _, _ => none)
    | .builtin .copy => (match c.args.toList, c.argTypes[0]? with
      | [s, x], some st => (match P.underlying st with | some (.slice e) => bif Nat.ble 1 (sizeT P e) then some (.copy (sizeT P e) s x) else none | _ => none)
      | _, _ => none)
    | .builtin .len => (match c.args.toList, c.argTypes[0]? with
      | [x], some st => (match P.underlying st with | some (.slice e) => some (.len x) | some (.map _ _) => some (.mlen x) | _ => some (.plain o))
      | _, _ => none)
    | .builtin .clear => (match c.args.toList, c.argTypes[0]? with
      | [x], some st => (match P.underlying st with | some (.slice e) => (match zeroT P e with | some z => bif Nat.ble 1 (sizeT P e) then some (.clr (sizeT P e) z x) else none | none => none) | _ => none)
      | _, _ => none)
    | .builtin .delete => (match c.args.toList, c.argTypes[0]? with
      | [x, k], some st => (match mapKind P st with | some (n, _) => some (.mdel n x k) | none => none)
      | _, _ => none)
    | .builtin .cap => (match c.args.toList, c.argTypes[0]? with
      | [x], some st => (match P.underlying st with | some (.slice _) => some (.cap x) | _ => none)
      | _, _ => none)
    | .builtin .max => some (.plain o)
    | .builtin .min => some (.plain o)
    | _ => none)
  | .typeAssert x _ a ok =>
    (match P.underlying a with
    | some (.interface want) => (match zeroV P a with | some z => some (.tasI (hasTab P want) z x ok) | none => none)
    | some _ => (match zeroV P a with | some z => some (.tas a z x ok) | none => none)
    | none => none)
  | .makeMap t r => (match P.underlying t with | some (.map _ _) => some (.mkM r) | _ => none)
  | .lookup t x k ok => (match mapKind P t with | some (n, z) => some (.mget n z x k ok) | none => none)
  | .mapUpdate t x k y => (match mapKind P t with | some (n, _) => some (.mput n x k y) | none => none)
  | .insert t x k y => (match mapKind P t with | some (n, _) => some (.mput n x k y) | none => none)
  | .mapEntry t x k => (match mapKind P t with | some (n, z) => some (.ment n z x k) | none => none)
  | .entryStore _ x s y => some (.mset x s y)
  | .range t x => (match P.underlying t with | some .string => some (.strIt x) | _ => none)
  | .next x true => some (.strNx x)
  | _ => none

/-- Does the operation turn memory, or call? -/
def effect : AOp → Bool
  | .new _ _ => true
  | .box _ _ => true
  | .store _ _ _ => true
  | .mkS _ _ _ _ => true
  | .bldS _ _ _ _ _ => true
  | .append _ _ _ _ => true
  | .copy _ _ _ => true
  | .callF _ _ => true
  | .callV _ _ => true
  | .inv _ _ _ => true
  | .clr _ _ _ => true
  | .mkM _ => true
  | .mget _ _ _ _ _ => true
  | .mput _ _ _ _ => true
  | .mdel _ _ _ => true
  | .mlen _ => true
  | .ment _ _ _ _ => true
  | .mset _ _ _ => true
  | .strIt _ => true
  | .strNx _ => true
  | .cts _ _ => true
  | .appZ _ _ _ _ _ => true
  | .never => true
  | _ => false

def reads : AOp → Bool
  | .load1 _ => true
  | .loadN _ _ => true
  | _ => false

def depsOf (o : Oper) : List Nat := o.after.toList.filterMap fun e => bif Region.binds .any e then some e.on else none

/-- All that must come before an operation: rounds of closing. -/
def closeDeps (deps : List (List Nat)) : Nat → List Nat → List Nat
  | 0, l => l
  | f + 1, l => closeDeps deps f (l.foldl (fun acc j => (deps.getD j []).foldl (fun acc k => bif acc.contains k then acc else k :: acc) acc) l)

def pickReady (deps : List (List Nat)) (ok : Nat → Bool) (done : List Nat) : List Nat → Option Nat
  | [] => none
  | i :: l => bif !(done.contains i) && ok i && (deps.getD i []).all done.contains then some i else pickReady deps ok done l

def orderOf (deps : List (List Nat)) (eff : Nat → Bool) (all : List Nat) : Nat → List Nat → List Nat
  | 0, done => done.reverse
  | f + 1, done => match pickReady deps (fun i => !eff i) done all with
    | some i => orderOf deps eff all f (i :: done)
    | none => match pickReady deps eff done all with
      | some i => orderOf deps eff all f (i :: done)
      | none => done.reverse

def prepGuard (ops : Array Oper) (o : Oper) : Option (Option (Tmp × Bool)) :=
  match o.guard with
  | none => some none
  | some (j, want) =>
    match ops[j]? with
    | some p => (match p.dst with | some d => some (some (d, want)) | none => none)
    | none => none

/-- Operands that the evaluator knows: temporaries, functions, constants that name no memory. -/
def opdOK : Operand → Bool
  | .tmp _ => true
  | .const v => plainV v
  | .global _ => true
  | .func _ => true

/-- An operation, prepared; one that isn't known is never carried out. -/
def prepOpN (P : Program) (o : Oper) : AOp :=
  bif o.op.operands.toList.all opdOK then (match prepOp P o with | some a => a | none => .never) else .never

def prepOps (P : Program) (ops : Array Oper) (loose : Nat → List Nat) : List Nat → Option (List POp)
  | [] => some []
  | i :: l =>
    match ops[i]? with
    | none => none
    | some o =>
      match prepGuard ops o, prepOps P ops loose l with
      | some g, some r => some ({ i := i, dst := o.dst, op := prepOpN P o, guard := g, loose := loose i } :: r)
      | _, _ => none

/-- What an operation looks at. -/
def AOp.opnds : AOp → List Operand
  | .move x => [x]
  | .pick c a b => [c, a, b]
  | .new _ _ => []
  | .box _ x => [x]
  | .load1 x => [x]
  | .loadN x _ => [x]
  | .store x y _ => [x, y]
  | .nilCheck x => [x]
  | .fieldAddr x _ => [x]
  | .idxA x ix _ _ => [x, ix]
  | .idxS x ix _ => [x, ix]
  | .slA x _ _ lo hi mx => x :: (lo.toList ++ (hi.toList ++ mx.toList))
  | .slS x _ lo hi mx => x :: (lo.toList ++ (hi.toList ++ mx.toList))
  | .mkS _ _ l c => [l, c]
  | .bldS _ _ _ _ ps => ps.map (·.2)
  | .bldT _ _ ps => ps.map (·.2)
  | .bldA _ _ ps => ps.map (·.2)
  | .fld x _ _ => [x]
  | .idx x ix _ _ _ => [x, ix]
  | .ext x _ => [x]
  | .mkF _ a b => a.toList ++ b.toList
  | .mkI _ x => [x]
  | .ibin _ _ x y => [x, y]
  | .nilEq _ _ x => [x]
  | .not x => [x]
  | .plain o => o.op.operands.toList
  | .append _ _ s x => [s, x]
  | .copy _ d x => [d, x]
  | .len x => [x]
  | .callF _ args => args
  | .callV f args => f :: args
  | .inv _ x args => x :: args
  | .tas _ _ x _ => [x]
  | .tasI _ _ x _ => [x]
  | .clr _ _ x => [x]
  | .mkM r => r.toList
  | .mget _ _ x k _ => [x, k]
  | .mput _ x k y => [x, k, y]
  | .mdel _ x k => [x, k]
  | .mlen x => [x]
  | .ment _ _ x k => [x, k]
  | .mset x s y => [x, s, y]
  | .strIt x => [x]
  | .strNx x => [x]
  | .cts _ x => [x]
  | .cap x => [x]
  | .appZ _ _ _ s x => [s, x]
  | .never => []

def AOp.noSel : AOp → Bool
  | .plain o => (match o.op with | .select _ _ => false | _ => true)
  | _ => true

def looksA (d : Tmp) : List Operand → Bool
  | [] => false
  | .tmp t :: l => Nat.beq t d || looksA d l
  | _ :: l => looksA d l

/-- Does the operation look at the temporary? -/
def POp.looks (y : POp) (d : Tmp) : Bool := looksA d y.op.opnds || (match y.guard with | some (g, _) => Nat.beq g d | none => false)

def apartA (x y : POp) : Bool :=
  (match x.dst with
   | some d => !(y.looks d) && (match y.dst with | some e => !(Nat.beq d e) | none => true)
   | none => true) &&
  (match y.dst with
   | some d => !(x.looks d)
   | none => true)

/-- May the later go first? -/
def freeA (x y : POp) : Bool :=
  !(effect x.op) && x.loose.isEmpty && x.op.noSel && y.op.noSel && apartA x y && (!(effect y.op) || !(reads x.op) || (x.dst.isSome && y.loose.contains x.i))

/-- A new row of cells that are known: it may be laid later than the model lays it. -/
def lateA : AOp → Bool
  | .new _ _ => true
  | .bldS _ _ _ _ _ => true
  | .mkS _ _ _ _ => true
  | _ => false

def POp.canLate (y : POp) : Bool := lateA y.op && y.guard.isNone && y.dst.isSome

/-- May the one go behind the other, in a region whose late operations are named? -/
def pairOK (closed : List (List Nat)) (lt : List Nat) (x y : POp) : Bool :=
  bif lt.contains x.i && lt.contains y.i then apartA x y
  else (closed.getD y.i []).contains x.i || freeA x y || (lt.contains y.i && effect x.op && apartA x y)

def okFrom (deps closed : List (List Nat)) (lt : List Nat) : List Nat → List POp → Bool
  | _, [] => true
  | done, x :: l => (deps.getD x.i []).all done.contains && !(done.contains x.i) && (!(lt.contains x.i) || x.canLate) && l.all (fun y => pairOK closed lt x y) && okFrom deps closed lt (x.i :: done) l

/-- Which operations must be late. -/
def latesOf (closed : List (List Nat)) : List POp → List POp → List Nat
  | _, [] => []
  | before, y :: l => bif before.all (fun x => (closed.getD y.i []).contains x.i || freeA x y) then latesOf closed (before ++ [y]) l else y.i :: latesOf closed (before ++ [y]) l

def orderLate (deps : List (List Nat)) (eff late : Nat → Bool) (all : List Nat) : Nat → List Nat → List Nat
  | 0, done => done.reverse
  | f + 1, done => match pickReady deps (fun i => !eff i) done all with
    | some i => orderLate deps eff late all f (i :: done)
    | none => match pickReady deps (fun i => eff i && !late i) done all with
      | some i => orderLate deps eff late all f (i :: done)
      | none => match pickReady deps eff done all with
        | some i => orderLate deps eff late all f (i :: done)
        | none => done.reverse

def prepDraw (P : Program) (ops : Array Oper) (aops : List AOp) (deps closed : List (List Nat)) (ord : List Nat) : Option (List POp) :=
  let n := ops.size
  let all := List.range n
  let eff (i : Nat) : Bool := effect (aops.getD i .never)
  let rd (i : Nat) : Bool := reads (aops.getD i .never)
  let before (i j : Nat) : Bool := (closed.getD j []).contains i
  bif Nat.beq ord.length n && all.all ord.contains then
    match prepOps P ops (fun i => bif eff i then all.filter (fun j => rd j && !(before i j) && !(before j i)) else []) ord with
    | some l => bif okFrom deps closed (latesOf closed [] l) [] l then some l else none
    | none => none
  else none

def prepRegion (P : Program) (ops : Array Oper) (draw : Bool) : Option (List POp) :=
  let n := ops.size
  let all := List.range n
  bif draw then
    let deps := ops.toList.map depsOf
    let aops := ops.toList.map (prepOpN P)
    let eff (i : Nat) : Bool := effect (aops.getD i .never)
    let closed := deps.map (closeDeps deps n)
    match prepDraw P ops aops deps closed (orderOf deps eff all n []) with
    | some l => some l
    | none => prepDraw P ops aops deps closed (orderLate deps eff (fun i => lateA (aops.getD i .never)) all n [])
  else prepOps P ops (fun _ => []) all

def prepC (P : Program) : Code → Option PC
  | .skip => some .skip
  | .region _ ops draw => (match prepRegion P ops draw with | some l => some (.region draw l) | none => none)
  | .seq a b => (match prepC P a, prepC P b with | some x, some y => some (.seq x y) | _, _ => none)
  | .cond c a b => (match prepC P a, prepC P b with | some x, some y => bif opdOK c then some (.cond c x y) else none | _, _ => none)
  | .block id b => (match prepC P b with | some x => some (.block id x) | none => none)
  | .loop b => (match prepC P b with | some x => some (.loop x) | none => none)
  | .rangeFunc f ps a b => (match prepC P a, prepC P b with | some x, some y => bif opdOK f then some (.rangeFunc f ps.toList x y) else none | _, _ => none)
  | .exit id => some (.exit id)
  | .scope b => (match prepC P b with | some x => some (.scope x) | none => none)
  | .label l => some (.label l)
  | .goto l => some (.goto l)
  | .ret => some .ret
  | .refuse _ => none

def prepRes (P : Program) : List ResultVar → Option (List PRes)
  | [] => some []
  | .tmp t :: l => (match prepRes P l with | some r => some (.tmp t :: r) | none => none)
  | .cell a t :: l => (match P.underlying t, prepRes P l with | some d, some r => some (.cell a (bif isAggD d then some (sizeT P t) else none) :: r) | _, _ => none)

def prepF (P : Program) (f : FuncId) : Option PF :=
  match P.funcs[f]? with
  | none => none
  | some fn => match fn.body with
    | none => none
    | some b => match prepC P b, prepRes P fn.results.toList with
      | some c, some r => bif fn.name == "runtime.NumGoroutine" then none else some { nt := fn.ntmps, body := c, results := r }
      | _, _ => none

/-! ### The heap -/

structure Ver where
  id : Nat
  lo : Nat
  hi : Nat

structure LoopE where
  state : LoopState
  pending : Option PC
  fn : FuncId
  tmps : Tr Value
  params : List Tmp
  assign : PC
  body : PC
  nt : Nat

/-- An entry of a map. -/
structure ME where
  k : Value
  v : Value
  b : Nat

inductive Ent where
  | cells (elem : TypeId) (ro : Bool) (vers : List Ver) (top : Nat) (c : Tr Value)
  | loop (l : LoopE)
  | defd (taken : Bool)
  | map (l : List ME) (clock : Nat)
  | iter (s : ByteArray) (pos : Nat)

structure Heap where
  next : Nat
  t : Tr Ent

def Heap.add (H : Heap) (e : Ent) : Heap := { next := H.next + 1, t := H.t.put H.next e }
def Heap.upd (H : Heap) (f : Nat) (e : Ent) : Heap := { next := H.next, t := H.t.put f e }

def findVer (u : Nat) : List Ver → Option Ver
  | [] => none
  | v :: l => bif Nat.beq v.id u then some v else findVer u l

def dropTo (u : Nat) : List Ver → List Ver
  | [] => []
  | v :: l => bif Nat.beq v.id u then v :: l else dropTo u l

/-- The last few of the older versions stay. -/
def keepOld (h : Nat) (l : List Ver) : List Ver := (l.take 4).filter fun x => Nat.ble x.hi h

def Heap.read (H : Heap) (a : Addr) : Option Value :=
  match H.t.get a.block, a.spot with
  | some (.cells _ _ vs _ c), some u =>
    match findVer u vs with
    | some v => bif Nat.ble v.lo a.off && Nat.blt a.off v.hi then c.get a.off else none
    | none => none
  | _, _ => none

def readL (c : Tr Value) : Nat → Nat → Option (List Value)
  | _, 0 => some []
  | i, n + 1 =>
    match c.get i with
    | some v => match readL c (i + 1) n with
      | some l => some (v :: l)
      | none => none
    | none => none

def Heap.readN (H : Heap) (a : Addr) (n : Nat) : Option (List Value) :=
  match H.t.get a.block, a.spot with
  | some (.cells _ _ vs _ c), some u =>
    match findVer u vs with
    | some v => bif Nat.ble v.lo a.off && Nat.ble (a.off + n) v.hi then readL c a.off n else none
    | none => none
  | _, _ => none

def one : Value → Bool
  | .agg _ => false
  | .tuple _ => false
  | _ => true

def Heap.writeN (H : Heap) (a : Addr) (l : List Value) : Option Heap :=
  match H.t.get a.block, a.spot with
  | some (.cells e false vs top c), some u =>
    match findVer u vs with
    | some v => bif Nat.ble v.lo a.off && Nat.ble (a.off + l.length) v.hi && l.all one then some (H.upd a.block (.cells e false [v] top (c.putL a.off l))) else none
    | none => none
  | _, _ => none

def Heap.row (H : Heap) (e : TypeId) (l : List Value) : Heap :=
  H.add (.cells e false [⟨0, 0, l.length⟩] 1 (Tr.putL .nil 0 l))

def newAddr (H : Heap) : Addr := ⟨H.next, 0, some 0⟩

inductive ORes where
  | val (v : Value) (H : Heap)
  | call (f : FuncId) (args : List Value)
  | yield (l : Nat) (args : List Value)
  | bad

def pureRun {α : Type} (P : Program) : Sem α → Option α
  | .pure a => some a
  | .program k => pureRun P (k P)
  | _ => none

def natOf : Value → Option Nat
  | .int _ (.ofNat m) => some m
  | _ => none

/-- The room of a slice, as its third number codes it: 2 c + 1: it is c; 2 z: it is not known, and each element has z cells. -/
inductive Cap where
  | known (c : Nat)
  | open_ (z : Nat)
  | room (z r : Nat)

def capOf (base : Option Addr) (cap : Nat) : Cap :=
  match base with
  | none => .known cap
  | some _ => bif Nat.beq (cap % 2) 1 then .known (cap / 2) else bif Nat.ble (cap / 2) 1000 then .open_ (cap / 2) else .room ((cap / 2) % 1001) ((cap / 2) / 1001 - 1)

def Addr.plus (a : Addr) (n : Nat) : Addr := { block := a.block, off := a.off + n, spot := a.spot }

def loOf : Option Value → Option Nat
  | none => some 0
  | some x => natOf x

def hiOf (len : Nat) : Option Value → Option Nat
  | none => some len
  | some x => natOf x

def cutOpen (size : Nat) (base : Option Addr) (l h : Nat) : Option Value :=
  match base with
  | some a => some (.slice (some (Addr.plus a (l * size))) (h - l) (2 * size))
  | none => none

/-- At least so much room. -/
def roomCode (z r : Nat) : Nat := 2 * (z + 1001 * (r + 1))

/-- The first elements of a slice that has at least so much room. -/
def cutRoom (size : Nat) (base : Option Addr) (l h r : Nat) : Option Value :=
  match base with
  | some a => some (.slice (some (Addr.plus a (l * size))) (h - l) (roomCode size (r - l)))
  | none => none

/-- Of at least so much room: the first elements keep it. -/
def cutPart (size : Nat) (base : Option Addr) (l h r : Nat) : Option Value :=
  bif Nat.blt h r && Nat.ble size 1000 then cutRoom size base l h r else cutOpen size base l h

def cutKnown (size : Nat) (base : Option Addr) (l h c : Nat) : Option Value :=
  match base with
  | some a => some (.slice (some (bif Nat.beq c l then a else Addr.plus a (l * size))) (h - l) (2 * (c - l) + 1))
  | none => some (.slice none (h - l) (c - l))

def cutOpenMax (size : Nat) (base : Option Addr) (len l h m : Nat) : Option Value :=
  bif Nat.beq len 0 then cutOpen size base 0 0 else cutKnown size base l h m

def sliceTo (size : Nat) (base : Option Addr) (len : Nat) (cap : Cap) (l h : Nat) (mx : Option Value) : Option Value :=
  match mx, cap with
  | none, .open_ z => bif Nat.beq z size && Nat.ble h len && Nat.ble l h then cutPart size base l h len else none
  | none, .room z r => bif Nat.beq z size && Nat.ble h r && Nat.ble l h then cutPart size base l h r else none
  | none, .known c => bif Nat.ble h c && Nat.ble l h then cutKnown size base l h c else none
  | some m, .known c =>
    (match natOf m with
    | some m => bif Nat.ble m c && Nat.ble h m && Nat.ble l h then cutKnown size base l h m else none
    | none => none)
  | some m, .open_ z =>
    (match natOf m with
    | some m => bif Nat.beq z size && Nat.ble m len && Nat.ble h m && Nat.ble l h then cutOpenMax size base len l h m else none
    | none => none)
  | some m, .room z r =>
    (match natOf m with
    | some m => bif Nat.beq z size && Nat.ble m r && Nat.ble h m && Nat.ble l h then cutKnown size base l h m else none
    | none => none)

def sliceA (size : Nat) (base : Option Addr) (len : Nat) (cap : Cap) (lo hi mx : Option Value) : Option Value :=
  match loOf lo, hiOf len hi with
  | some l, some h => bif mx.isSome && hi.isNone then none else sliceTo size base len cap l h mx
  | _, _ => none

def srcLen : Value → Option Nat
  | .slice _ n _ => some n
  | .string b => some b.size
  | _ => none

def srcCells (H : Heap) (size n : Nat) : Value → Option (List Value)
  | .slice (some a) _ _ => H.readN a (n * size)
  | .slice none _ _ => some []
  | .string s => some ((s.extract 0 n).data.toList.map fun b => .int .u8 b.toNat)
  | _ => none

/-- In its own room. -/
def appIn (base : Option Addr) (size len n cap : Nat) (H : Heap) (new : List Value) : ORes :=
  match base with
  | some a =>
    (match H.writeN (Addr.plus a (len * size)) new with
    | some H' => .val (.slice base (len + n) cap) H'
    | none => .bad)
  | none => bif Nat.beq n 0 then .val (.slice none (len + n) cap) H else .bad

def small (size n : Nat) : Bool := Nat.ble n 100000 && Nat.ble 1 size && Nat.ble size 1000

/-- In a new row. -/
def appNew (elem : TypeId) (size n : Nat) (H : Heap) (old : Option (List Value)) (new : List Value) : ORes :=
  match old with
  | some old => bif small size n && old.all one && new.all one && Nat.beq (old.length + new.length) (n * size) then .val (.slice (some (newAddr H)) n (2 * size)) (H.row elem (old ++ new)) else .bad
  | none => .bad

/-- In its own room or in a new row: the model says which. -/
def appOpen (elem : TypeId) (size len n : Nat) (a : Addr) (H : Heap) (new : List Value) : ORes :=
  match H.t.get a.block, a.spot with
  | some (.cells e false vs top c), some u =>
    (match findVer u vs with
    | some v =>
      bif Nat.beq e elem && Nat.beq (a.off + len * size) v.hi && Nat.ble v.lo a.off && new.all one && small size (len + n) && Nat.ble 1 n && Nat.beq new.length (n * size) then
        .val (.slice (some ⟨a.block, a.off, some top⟩) (len + n) (2 * size)) (H.upd a.block (.cells e false (⟨top, a.off, v.hi + new.length⟩ :: keepOld v.hi (dropTo u vs)) (top + 1) (c.putL v.hi new)))
      else .bad
    | none => .bad)
  | _, _ => .bad

def appWith (elem : TypeId) (size : Nat) (H : Heap) (base : Option Addr) (len cap n : Nat) (s : Value) (new : List Value) : ORes :=
  match capOf base cap with
  | .known c => bif Nat.ble (len + n) c then appIn base size len n cap H new else appNew elem size (len + n) H (srcCells H size len s) new
  | .open_ z =>
    (match base with
    | some a => bif Nat.beq z size then (bif Nat.beq n 0 then .val s H else appOpen elem size len n a H new) else .bad
    | none => .bad)
  | .room z r =>
    (match base with
    | some a => bif Nat.beq z size then (bif Nat.beq n 0 then .val s H else bif Nat.ble (len + n) r then appIn base size len n cap H new else appOpen elem size len n a H new) else .bad
    | none => .bad)

def appendA (elem : TypeId) (size : Nat) (H : Heap) (s x : Value) : ORes :=
  match s, srcLen x with
  | .slice base len cap, some n =>
    (match srcCells H size n x with
    | some new => appWith elem size H base len cap n s new
    | none => .bad)
  | _, _ => .bad

def copyA (size : Nat) (H : Heap) (d x : Value) : ORes :=
  match d, srcLen x with
  | .slice base dl _, some n =>
      let m := Nat.min n dl
      match srcCells H size m x with
      | none => .bad
      | some cs =>
        match base, cs with
        | none, _ => .val (goInt m) H
        | some _, [] => .val (goInt m) H
        | some a, c :: cs => match H.writeN a (c :: cs) with
          | some H' => .val (goInt m) H'
          | none => .bad
  | _, _ => .bad

/-- 2 to the 63rd. -/
def lim : Nat := 9223372036854775808

/-- The whole numbers of a kind, without reckoning where nothing wraps. -/
def fitI (k : IntKind) (n : Int) : Int :=
  match k, n with
  | .i64, .ofNat m => bif Nat.blt m lim then n else k.wrap n
  | .i64, .negSucc m => bif Nat.blt m lim then n else k.wrap n
  | _, _ => k.wrap n

def ibinA (op : BinOp) (k : IntKind) (a b : Int) : Option Value :=
  match op with
  | .add => some (.int k (fitI k (a + b)))
  | .sub => some (.int k (fitI k (a - b)))
  | .mul => some (.int k (fitI k (a * b)))
  | .eql => some (.bool (a == b))
  | .neq => some (.bool (a != b))
  | .lss => some (.bool (decide (a < b)))
  | .leq => some (.bool (decide (a ≤ b)))
  | .gtr => some (.bool (decide (a > b)))
  | .geq => some (.bool (decide (a ≥ b)))
  | _ => none

def evalO (t : Tr Value) : Operand → Value
  | .tmp n => match t.get n with | some v => v | none => undef
  | .const v => v
  | .global g => .complex .f64 g 0
  | .func f => .func (.func f) #[] #[]

/-- A value that names no memory. -/
def asPlain (H : Heap) : Option Value → ORes
  | some v => bif plainV v then .val v H else .bad
  | none => .bad

def callVA (f : Value) (args : List Value) : ORes :=
  match f with
  | .func (.func g) first cap => .call g (first.toList ++ args ++ cap.toList)
  | .func (.yield l) first cap => bif first.isEmpty && cap.isEmpty then .yield l args else .bad
  | _ => .bad

def asVal (H : Heap) : Option Value → ORes
  | some v => .val v H
  | none => .bad

def pureNext (P : Program) (s : Sem Next) : Option Value :=
  match pureRun P s with
  | some (.value v) => some v
  | _ => none

def oPick (c a b : Value) (H : Heap) : ORes := match c with | .bool true => .val a H | .bool false => .val b H | _ => .bad
def oNew (e : TypeId) (z : List Value) (H : Heap) : ORes := .val (.pointer (some (newAddr H))) (H.row e z)
/-- A variable's cell, if it names no memory. -/
def gRead [Globs] (g off : Nat) : Option Value :=
  match Globs.gl g with
  | some l => (match l[off]? with | some v => bif plain1 v then some v else none | none => none)
  | none => none
def gReadN [Globs] (g off n : Nat) : Option (List Value) :=
  match Globs.gl g with
  | some l => bif Nat.ble (off + n) l.length && l.all plain1 then some ((l.drop off).take n) else none
  | none => none
/-- A variable's place is written as a number of no other use: its block, its cell. -/
def oLoad1 [Globs] (x : Value) (H : Heap) : ORes := match x with | .pointer (some a) => asVal H (H.read a) | .complex _ g off => asVal H (gRead g off) | _ => .bad
def aggOf : Option (List Value) → Option Value
  | some l => some (.agg l.toArray)
  | none => none
def oLoadN [Globs] (x : Value) (n : Nat) (H : Heap) : ORes := match x with | .pointer (some a) => asVal H (aggOf (H.readN a n)) | .complex _ g off => asVal H (aggOf (gReadN g off n)) | _ => .bad
def asSkip : Option Heap → ORes
  | some H => .val undef H
  | none => .bad
def oStore (x : Value) (cs : List Value) (n : Nat) (H : Heap) : ORes :=
  match x with
  | .pointer (some a) => bif Nat.beq cs.length n then asSkip (H.writeN a cs) else .bad
  | _ => .bad
def oNil (x : Value) (H : Heap) : ORes :=
  match x with
  | .pointer (some a) => .val (.pointer (some a)) H
  | .func (.func g) a b => .val (.func (.func g) a b) H
  | .func (.yield g) a b => .val (.func (.yield g) a b) H
  | .complex k g off => .val (.complex k g off) H
  | _ => .bad
def ptrAt (a : Addr) (n : Nat) : Value := .pointer (some (Addr.plus a n))
def oField (x : Value) (off : Nat) (H : Heap) : ORes := match x with | .pointer (some a) => .val (ptrAt a off) H | .complex k g o => .val (.complex k g (o + off)) H | _ => .bad
def oIdxA (x ix : Value) (n sz : Nat) (H : Heap) : ORes :=
  match natOf ix, x with
  | some i, .pointer (some a) => bif Nat.blt i n then .val (ptrAt a (i * sz)) H else .bad
  | some i, .complex k g o => bif Nat.blt i n then .val (.complex k g (o + i * sz)) H else .bad
  | _, _ => .bad
def oIdxS (x ix : Value) (sz : Nat) (H : Heap) : ORes :=
  match natOf ix, x with
  | some i, .slice (some a) n _ => bif Nat.blt i n then .val (ptrAt a (i * sz)) H else .bad
  | _, _ => .bad
def oSlA (x : Value) (n sz : Nat) (lo hi mx : Option Value) (H : Heap) : ORes :=
  match x with | .pointer (some a) => asVal H (sliceA sz (some a) n (.known n) lo hi mx) | _ => .bad
def oSlS (x : Value) (sz : Nat) (lo hi mx : Option Value) (H : Heap) : ORes :=
  match x with | .slice base len cap => asVal H (sliceA sz base len (capOf base cap) lo hi mx) | _ => .bad
def oMkS (e : TypeId) (z : List Value) (l c : Value) (H : Heap) : ORes :=
  match natOf l, natOf c with
  | some n, some m => bif Nat.ble n m && Nat.ble m 100000 then .val (.slice (some (newAddr H)) n (2 * m + 1)) (H.row e (List.replicate m z).flatten) else .bad
  | _, _ => .bad
def oBldS (e : TypeId) (n : Nat) (cs : Option (Array Value)) (H : Heap) : ORes :=
  match cs with
  | some cs => .val (.slice (some (newAddr H)) n (2 * n + 1)) (H.row e cs.toList)
  | none => .bad
def oBld (cs : Option (Array Value)) (H : Heap) : ORes :=
  match cs with
  | some cs => .val (.agg cs) H
  | none => .bad
def partA (cs : Array Value) (off : Nat) : Option Nat → Option Value
  | none => cs[off]?
  | some n => some (.agg (cs.extract off (off + n)))
def oFld (x : Value) (off : Nat) (n : Option Nat) (H : Heap) : ORes := match x with | .agg cs => asVal H (partA cs off n) | _ => .bad
def oIdx (x ix : Value) (n sz : Nat) (ag : Bool) (H : Heap) : ORes :=
  match natOf ix, x with
  | some i, .agg cs => bif Nat.blt i n then asVal H (partA cs (i * sz) (bif ag then some sz else none)) else .bad
  | _, _ => .bad
def oExt (x : Value) (k : Nat) (H : Heap) : ORes := match x with | .tuple vs => asVal H (vs[k]?) | _ => .bad
def oIbin (P : Program) (op : BinOp) (k : IntKind) (x y : Value) (H : Heap) : ORes :=
  match x, y with
  | .int k1 a, .int k2 b => bif decide (k1 = k) && decide (k2 = k) then (match ibinA op k a b with | some v => .val v H | none => asPlain H (pureRun P (binOp op 0 (.int k1 a) (.int k2 b)))) else .bad
  | _, _ => .bad
def oNilEq (neg : Bool) (kd : NilK) (x : Value) (H : Heap) : ORes :=
  match kd, x with
  | .ptr, .pointer a => .val (.bool (a.isNone != neg)) H
  | .sl, .slice a _ _ => .val (.bool (a.isNone != neg)) H
  | .fn, .func _ _ _ => .val (.bool neg) H
  | .fn, .nilFunc => .val (.bool !neg) H
  | _, _ => .bad
def oNot (x : Value) (H : Heap) : ORes := match x with | .bool b => .val (.bool !b) H | _ => .bad
def oPlain (P : Program) (o : Oper) (ρ : Operand → Value) (H : Heap) : ORes :=
  bif o.op.operands.toList.all (fun x => plainV (ρ x)) then asPlain H (pureNext P (execOp ρ o)) else .bad
def oLen (x : Value) (H : Heap) : ORes := match x with | .slice _ n _ => .val (goInt n) H | _ => .bad

def oInv (tab : List (Nat × FuncId)) (x : Value) (args : List Value) : ORes :=
  match x with
  | .iface t v => (match findN t tab with | some f => .call f (v :: args) | none => .bad)
  | _ => .bad
def oTas (a : TypeId) (z : Value) (x : Value) (ok : Bool) (H : Heap) : ORes :=
  match x with
  | .iface t v => bif Nat.beq t a then .val (bif ok then .tuple #[v, .bool true] else v) H else bif ok then .val (.tuple #[z, .bool false]) H else .bad
  | .nilIface => bif ok then .val (.tuple #[z, .bool false]) H else .bad
  | _ => .bad
def oTasI (tab : List (Nat × Bool)) (z : Value) (x : Value) (ok : Bool) (H : Heap) : ORes :=
  match x with
  | .iface t v => (match findN t tab with
    | some true => .val (bif ok then .tuple #[.iface t v, .bool true] else .iface t v) H
    | some false => bif ok then .val (.tuple #[z, .bool false]) H else .bad
    | none => .bad)
  | .nilIface => bif ok then .val (.tuple #[z, .bool false]) H else .bad
  | _ => .bad

/-- All elements are the zero value. -/
def oClr (sz : Nat) (z : List Value) (x : Value) (H : Heap) : ORes :=
  match x with
  | .slice none _ _ => .val undef H
  | .slice (some a) n _ => bif Nat.beq n 0 then .val undef H else asSkip (H.writeN a (List.replicate n z).flatten)
  | _ => .bad

/-! ### Maps -/

def sameInt (a b : Int) : Bool := match a, b with | .ofNat x, .ofNat y => Nat.beq x y | .negSucc x, .negSucc y => Nat.beq x y | _, _ => false

def sameCs : List Value → List Value → Option Bool
  | [], [] => some true
  | .int k x :: l, .int k' y :: l' => bif decide (k = k') then (bif sameInt x y then sameCs l l' else some false) else none
  | _, _ => none

def sameK (kd : Nat) (a b : Value) : Option Bool :=
  match kd, a, b with
  | 0, .int k x, .int k' y => bif decide (k = k') then some (sameInt x y) else none
  | 1, .string x, .string y => some (x == y)
  | 2, .bool x, .bool y => some (x == y)
  | _ + 3, .agg x, .agg y => sameCs x.toList y.toList
  | _, _, _ => none

def findM (kd : Nat) (k : Value) : List ME → Nat → Option (Option (Nat × ME))
  | [], _ => some none
  | e :: es, i =>
    match sameK kd k e.k with
    | some true => some (some (i, e))
    | some false => findM kd k es (i + 1)
    | none => none

def modM (f : ME → ME) : List ME → Nat → List ME
  | [], _ => []
  | e :: es, 0 => f e :: es
  | e :: es, i + 1 => e :: modM f es i

def delM : List ME → Nat → List ME
  | [], _ => []
  | _ :: es, 0 => es
  | e :: es, i + 1 => e :: delM es i

def bornM (b : Nat) : List ME → Nat → Option Nat
  | [], _ => none
  | e :: es, i => bif Nat.beq e.b b then some i else bornM b es (i + 1)

/-- Keys that are laid: of the map's kind. -/
def isInt : Value → Bool | .int _ _ => true | _ => false

def isKeyK (kd : Nat) (k : Value) : Bool := match kd, k with | 0, .int _ _ => true | 1, .string _ => true | 2, .bool _ => true | n + 3, .agg x => Nat.beq x.size n && x.toList.all isInt | _, _ => false

def newMap (H : Heap) : ORes := .val (.map (some H.next)) (H.add (.map [] 0))

def oMkM (r : Option Value) (H : Heap) : ORes :=
  match r with
  | none => newMap H
  | some (.int _ _) => newMap H
  | some _ => .bad

def withMap (x : Value) (H : Heap) (k : Nat → List ME → Nat → ORes) : ORes :=
  match x with
  | .map (some r) => (match H.t.get r with | some (.map l c) => k r l c | _ => .bad)
  | _ => .bad

def got (ok : Bool) (v : Value) (b : Bool) : Value := bif ok then .tuple #[v, .bool b] else v

def oMget (kd : Nat) (z : Value) (x k : Value) (ok : Bool) (H : Heap) : ORes :=
  bif isKeyK kd k then
    match x with
    | .map none => .val (got ok z false) H
    | x => withMap x H fun _ l _ =>
      match findM kd k l 0 with
      | some (some (_, e)) => .val (got ok e.v true) H
      | some none => .val (got ok z false) H
      | none => .bad
  else .bad

def oMput (kd : Nat) (x k y : Value) (H : Heap) : ORes :=
  bif isKeyK kd k then withMap x H fun r l c =>
    match findM kd k l 0 with
    | some (some (i, _)) => .val undef (H.upd r (.map (modM (fun e => ⟨k, y, e.b⟩) l i) c))
    | some none => .val undef (H.upd r (.map (l ++ [⟨k, y, c⟩]) (c + 1)))
    | none => .bad
  else .bad

def oMdel (kd : Nat) (x k : Value) (H : Heap) : ORes :=
  bif isKeyK kd k then
    match x with
    | .map none => .val (.tuple #[]) H
    | x => withMap x H fun r l c =>
      match findM kd k l 0 with
      | some (some (i, _)) => .val (.tuple #[]) (H.upd r (.map (delM l i) c))
      | some none => .val (.tuple #[]) (H.upd r (.map l c))
      | none => .bad
  else .bad

def oMlen (x : Value) (H : Heap) : ORes :=
  match x with
  | .map none => .val (goInt 0) H
  | x => withMap x H fun _ l _ => .val (goInt l.length) H

def oMent (kd : Nat) (z : Value) (x k : Value) (H : Heap) : ORes :=
  bif isKeyK kd k then withMap x H fun r l c =>
    match findM kd k l 0 with
    | some (some (i, e)) => .val (.tuple #[e.v, goInt e.b]) (H.upd r (.map (modM (fun e => ⟨k, e.v, e.b⟩) l i) c))
    | some none => .val (.tuple #[z, goInt c]) (H.upd r (.map (l ++ [⟨k, z, c⟩]) (c + 1)))
    | none => .bad
  else .bad

def oMset (x s y : Value) (H : Heap) : ORes :=
  match natOf s with
  | some b => withMap x H fun r l c =>
    match bornM b l 0 with
    | some i => .val undef (H.upd r (.map (modM (fun e => ⟨e.k, y, e.b⟩) l i) c))
    | none => .bad
  | none => .bad

def oStrIt (x : Value) (H : Heap) : ORes :=
  match x with
  | .string s => .val (.chan (some H.next)) (H.add (.iter s 0))
  | _ => .bad

def iterStep (r : Nat) (s : ByteArray) (pos : Nat) (H : Heap) : Nat × Nat → ORes
  | (c, n) => .val (.tuple #[.bool true, goInt pos, .int .i32 c]) (H.upd r (.iter s (pos + n)))

/-- An iterator is a number of the heap's, in a channel's coat. -/
def oStrNx (x : Value) (H : Heap) : ORes :=
  match x with
  | .chan (some r) => (match H.t.get r with
    | some (.iter s pos) => bif Nat.blt pos s.size then iterStep r s pos H (Utf8.decode s pos) else .val (.tuple #[.bool false]) H
    | _ => .bad)
  | _ => .bad

def oCap (x : Value) (H : Heap) : ORes :=
  match x with
  | .slice none _ c => .val (goInt c) H
  | .slice (some _) _ c => bif Nat.beq (c % 2) 1 then .val (goInt (c / 2 : Nat)) H else .bad
  | _ => .bad

def oAppZ (e : TypeId) (sz : Nat) (z : List Value) (s x : Value) (H : Heap) : ORes :=
  match s, x with
  | .slice none 0 0, .int .i64 (.ofNat n) => bif Nat.ble 1 n && small sz n then .val (.slice (some (newAddr H)) n (2 * sz)) (H.row e (List.replicate n z).flatten) else .bad
  | _, _ => .bad

/-- Bytes, or runes, joined. -/
def catS (kd : Nat) : List Value → ByteArray → Option Value
  | [], s => some (.string s)
  | .int k n :: l, s => bif Nat.beq kd 0 && decide (k = .u8) then catS kd l (s.push (UInt8.ofNat n.toNat)) else bif Nat.beq kd 1 && decide (k = .i32) then catS kd l (s ++ Utf8.encode n) else none
  | _ :: _, _ => none

def oCts (kd : Nat) (x : Value) (H : Heap) : ORes :=
  match x with
  | .slice none _ _ => .val (.string .empty) H
  | .slice (some a) n _ => (match H.readN a n with | some ls => asVal H (catS kd ls .empty) | none => .bad)
  | _ => .bad

def opA [Globs] (P : Program) (o : AOp) (ρ : Operand → Value) (H : Heap) : ORes :=
  match o with
  | .move x => .val (ρ x) H
  | .pick c a b => oPick (ρ c) (ρ a) (ρ b) H
  | .new e z => oNew e z H
  | .box e x => oNew e (ρ x).cells.toList H
  | .load1 x => oLoad1 (ρ x) H
  | .loadN x n => oLoadN (ρ x) n H
  | .store x y n => oStore (ρ x) (ρ y).cells.toList n H
  | .nilCheck x => oNil (ρ x) H
  | .fieldAddr x off => oField (ρ x) off H
  | .idxA x ix n sz => oIdxA (ρ x) (ρ ix) n sz H
  | .idxS x ix sz => oIdxS (ρ x) (ρ ix) sz H
  | .slA x n sz lo hi mx => oSlA (ρ x) n sz (lo.map ρ) (hi.map ρ) (mx.map ρ) H
  | .slS x sz lo hi mx => oSlS (ρ x) sz (lo.map ρ) (hi.map ρ) (mx.map ρ) H
  | .mkS e z l c => oMkS e z (ρ l) (ρ c) H
  | .bldS e sz z n parts => oBldS e n (Instr.fill (fun j => some (j * sz, sz)) z.toArray (parts.map fun p => (p.1, ρ p.2))) H
  | .bldT z places parts => oBld (Instr.fill (fun i => places[i]?) z.toArray (parts.map fun p => (p.1, ρ p.2))) H
  | .bldA z sz parts => oBld (Instr.fill (fun i => some (i * sz, sz)) z.toArray (parts.map fun p => (p.1, ρ p.2))) H
  | .fld x off n => oFld (ρ x) off n H
  | .idx x ix n sz ag => oIdx (ρ x) (ρ ix) n sz ag H
  | .ext x k => oExt (ρ x) k H
  | .mkF f a b => .val (.func f (a.map ρ) (b.map ρ)) H
  | .mkI t x => .val (.iface t (ρ x)) H
  | .ibin op k x y => oIbin P op k (ρ x) (ρ y) H
  | .nilEq neg kd x => oNilEq neg kd (ρ x) H
  | .not x => oNot (ρ x) H
  | .plain o => oPlain P o ρ H
  | .append e sz s x => appendA e sz H (ρ s) (ρ x)
  | .copy sz d x => copyA sz H (ρ d) (ρ x)
  | .len x => oLen (ρ x) H
  | .callF g args => .call g (args.map ρ)
  | .callV f args => callVA (ρ f) (args.map ρ)
  | .inv tab x args => oInv tab (ρ x) (args.map ρ)
  | .tas a z x ok => oTas a z (ρ x) ok H
  | .tasI tab z x ok => oTasI tab z (ρ x) ok H
  | .clr sz z x => oClr sz z (ρ x) H
  | .mkM r => oMkM (r.map ρ) H
  | .mget kd z x k ok => oMget kd z (ρ x) (ρ k) ok H
  | .mput kd x k y => oMput kd (ρ x) (ρ k) (ρ y) H
  | .mdel kd x k => oMdel kd (ρ x) (ρ k) H
  | .mlen x => oMlen (ρ x) H
  | .ment kd z x k => oMent kd z (ρ x) (ρ k) H
  | .mset x s y => oMset (ρ x) (ρ s) (ρ y) H
  | .strIt x => oStrIt (ρ x) H
  | .strNx x => oStrNx (ρ x) H
  | .cts kd x => oCts kd (ρ x) H
  | .cap x => oCap (ρ x) H
  | .appZ e sz z s x => oAppZ e sz z (ρ s) (ρ x) H
  | .never => .bad

inductive Ex where
  | normal
  | exit (id : Nat)
  | goto (l : Nat)
  | ret

structure St where
  t : Tr Value
  d : List Nat
  H : Heap

def putT (nt : Nat) (t : Tr Value) (d : Option Tmp) (v : Value) : Option (Tr Value) :=
  match d with
  | none => some t
  | some n => bif Nat.blt n nt then some (t.put n v) else none

def putTs (nt : Nat) : Tr Value → List Tmp → List Value → Option (Tr Value)
  | t, [], [] => some t
  | t, p :: ps, v :: vs => match putT nt t (some p) v with | some t' => putTs nt t' ps vs | none => none
  | _, _, _ => none

def wantedA (t : Tr Value) (o : POp) : Bool :=
  match o.guard with
  | none => true
  | some (d, want) => (match t.get d with | some (.bool b) => b == want | _ => false)

def findLabelA : PC → Nat → Option PC
  | .seq a b, l =>
    match findLabelA a l with
    | some rest => some (.seq rest b)
    | none => findLabelA b l
  | .label l', l => bif Nat.beq l' l then some .skip else none
  | _, _ => none

def resultOf (t : Tr Value) (H : Heap) : List PRes → Option (List Value)
  | [] => some []
  | .tmp n :: l => (match resultOf t H l with | some r => some (evalO t (.tmp n) :: r) | none => none)
  | .cell a k :: l =>
    (match evalO t (.tmp a), resultOf t H l with
    | .pointer (some ad), some r => (match k with
      | none => (match H.read ad with | some v => some (v :: r) | none => none)
      | some n => (match H.readN ad n with | some l => some (.agg l.toArray :: r) | none => none))
    | _, _ => none)

def takeAll (H : Heap) : List Nat → Option Heap
  | [] => some H
  | b :: l => (match H.t.get b with
    | some (.defd false) => takeAll (H.upd b (.defd true)) l
    | _ => none)

structure Ctx where
  P : Program
  funcs : Tr PF

inductive Req where
  | code (ro : Option Nat) (fn : FuncId) (nt : Nat) (c : PC) (s : St)
  | scope (ro : Option Nat) (fn : FuncId) (nt : Nat) (whole c : PC) (s : St)
  | call (f : FuncId) (args : List Value) (H : Heap)
  | yield (l : Nat) (args : List Value) (H : Heap)

inductive Resp where
  | code (e : Ex) (s : St)
  | val (v : Value) (H : Heap)

structure Rd where
  i : Nat
  a : Addr
  n : Option Nat
  v : Value

def sameAddrA (a b : Addr) : Bool := Nat.beq a.block b.block && Nat.beq a.off b.off && (match a.spot, b.spot with | some x, some y => Nat.beq x y | none, none => true | _, _ => false)

/-- Are these surely one value, of no parts? -/
def same0 (v w : Value) : Bool :=
  match v, w with
  | .bool a, .bool b => a == b
  | .int k a, .int k' b => decide (k = k') && sameInt a b
  | .string a, .string b => a == b
  | .pointer none, .pointer none => true
  | .pointer (some a), .pointer (some b) => sameAddrA a b
  | .slice none n c, .slice none m d => Nat.beq n m && Nat.beq c d
  | .slice (some a) n c, .slice (some b) m d => sameAddrA a b && Nat.beq n m && Nat.beq c d
  | .nilFunc, .nilFunc => true
  | .nilIface, .nilIface => true
  | .map none, .map none => true
  | .map (some a), .map (some b) => Nat.beq a b
  | _, _ => false

def sameL0 : List Value → List Value → Bool
  | [], [] => true
  | a :: l, b :: r => same0 a b && sameL0 l r
  | _, _ => false

/-- Are these surely one value? -/
def same1 (v w : Value) : Bool :=
  match v, w with
  | .func (.func f) a b, .func (.func g) c d => Nat.beq f g && sameL0 a.toList c.toList && sameL0 b.toList d.toList
  | v, w => same0 v w

def sameL : List Value → List Value → Bool
  | [], [] => true
  | a :: l, b :: r => same1 a b && sameL l r
  | _, _ => false

def holds (H : Heap) (r : Rd) : Bool :=
  match r.n with
  | none => (match H.read r.a with | some v => same1 v r.v | none => false)
  | some n => (match H.readN r.a n, r.v with | some l, .agg cs => sameL l cs.toList | _, _ => false)

/-- What is read more than once may not turn. -/
def stands (H : Heap) (loose : List Nat) (rs : List Rd) : Bool := rs.all fun r => !(loose.contains r.i) || holds H r

/-- What an operation comes to, calls carried out. -/
def ans (ih : Req → Option Resp) (H : Heap) : ORes → Option Resp
  | .val v H' => some (.val v H')
  | .call f args => ih (.call f args H)
  | .yield l args => ih (.yield l args H)
  | .bad => none

def stOf (d : List Nat) (H : Heap) : Option (Tr Value) → Option St
  | some t => some { t := t, d := d, H := H }
  | none => none

def afterOp (nt : Nat) (s : St) (dst : Option Tmp) : Option Resp → Option St
  | some (.val v H) => stOf s.d H (putT nt s.t dst v)
  | _ => none

def doOp [Globs] (C : Ctx) (ih : Req → Option Resp) (nt : Nat) (o : POp) (s : St) : Option St :=
  bif wantedA s.t o then afterOp nt s o.dst (ans ih s.H (opA C.P o.op (evalO s.t) s.H)) else stOf s.d s.H (putT nt s.t o.dst undef)

def stepOps [Globs] (C : Ctx) (ih : Req → Option Resp) (nt : Nat) : List POp → St → Option St
  | [], s => some s
  | o :: l, s => match doOp C ih nt o s with | some s' => stepOps C ih nt l s' | none => none

/-- The reads of an operation that has been carried out: where, how much, what. -/
def noteRd (o : POp) (s s' : St) (rs : List Rd) : List Rd :=
  bif wantedA s.t o then
    match o.op, o.dst with
    | .load1 x, some d => (match evalO s.t x with | .pointer (some a) => ⟨o.i, a, none, evalO s'.t (.tmp d)⟩ :: rs | _ => rs)
    | .loadN x n, some d => (match evalO s.t x with | .pointer (some a) => ⟨o.i, a, some n, evalO s'.t (.tmp d)⟩ :: rs | _ => rs)
    | _, _ => rs
  else rs

def stepOpsD [Globs] (C : Ctx) (ih : Req → Option Resp) (nt : Nat) : List POp → List Rd → St → Option St
  | [], _, s => some s
  | o :: l, rs, s =>
    match doOp C ih nt o s with
    | some s' => bif stands s'.H o.loose rs then stepOpsD C ih nt l (noteRd o s s' rs) s' else none
    | none => none

def normal : Option St → Option Resp
  | some s => some (.code .normal s)
  | none => none

def thenC (k : St → Option Resp) : Option Resp → Option Resp
  | some (.code .normal s) => k s
  | r => r

def condC (x : Value) (a b : Unit → Option Resp) : Option Resp := match x with | .bool true => a () | .bool false => b () | _ => none

def blockC (id : Nat) : Option Resp → Option Resp
  | some (.code (.exit j) s) => bif Nat.beq j id then some (.code .normal s) else some (.code (.exit j) s)
  | r => r

def scopeC (ih : Req → Option Resp) (ro : Option Nat) (fn : FuncId) (nt : Nat) (whole : PC) : Option Resp → Option Resp
  | some (.code (.goto l) s) => (match findLabelA whole l with
    | some rest => ih (.scope ro fn nt whole rest s)
    | none => some (.code (.goto l) s))
  | r => r

def exOf : Option PC → Option Ex
  | none => some .normal
  | some (.exit id) => some (.exit id)
  | some (.goto l) => some (.goto l)
  | some .ret => some .ret
  | _ => none

/-- Behind the iterator's call: the loop is over. -/
def endRange (l : Nat) (t : Tr Value) (d : List Nat) : Option Resp → Option Resp
  | some (.val _ H) =>
    (match H.t.get l with
    | some (.loop r) =>
      (match r.state, exOf r.pending with
      | .busy, _ => none
      | _, some e => some (.code e { t := t, d := d, H := H.upd l (.loop { r with state := .exhausted }) })
      | _, none => none)
    | _ => none)
  | _ => none

def rangeC (ih : Req → Option Resp) (fn : FuncId) (nt : Nat) (f : Value) (ps : List Tmp) (asg body : PC) (t : Tr Value) (d : List Nat) (H : Heap) : Option Resp :=
  match f with
  | .func (.func g) first cap =>
    endRange H.next t d (ih (.call g (first.toList ++ [.func (.yield H.next) #[] #[]] ++ cap.toList)
      (H.add (.loop { state := .ready, pending := none, fn := fn, tmps := t, params := ps, assign := asg, body := body, nt := nt }))))
  | _ => none

def stepC [Globs] (C : Ctx) (ih : Req → Option Resp) (ro : Option Nat) (fn : FuncId) (nt : Nat) : PC → St → Option Resp
  | .skip, s => some (.code .normal s)
  | .label _, s => some (.code .normal s)
  | .exit id, s => some (.code (.exit id) s)
  | .goto l, s => some (.code (.goto l) s)
  | .ret, s => some (.code .ret s)
  | .seq a b, s => thenC (stepC C ih ro fn nt b) (stepC C ih ro fn nt a s)
  | .cond x a b, s => condC (evalO s.t x) (fun _ => stepC C ih ro fn nt a s) (fun _ => stepC C ih ro fn nt b s)
  | .block id b, s => blockC id (stepC C ih ro fn nt b s)
  | .loop b, s => thenC (fun s' => ih (.code ro fn nt (.loop b) s')) (stepC C ih ro fn nt b s)
  | .scope b, s => scopeC ih ro fn nt b (stepC C ih ro fn nt b s)
  | .region false l, s => normal (stepOps C ih nt l s)
  | .region true l, s => normal (stepOpsD C ih nt l [] s)
  | .rangeFunc f ps asg body, s =>
    match ro with
    | some l => (match s.H.t.get l with
      | some (.loop _) => rangeC ih fn nt (evalO s.t f) ps asg body s.t s.d s.H
      | _ => none)
    | none => rangeC ih fn nt (evalO s.t f) ps asg body s.t (s.H.next :: s.d) (s.H.add (.defd false))

def exCode : Ex → Option PC
  | .normal => none
  | .exit id => some (.exit id)
  | .goto g => some (.goto g)
  | .ret => some .ret

def retVal (H : Heap) : Option (List Value) → Option Resp
  | some [v] => some (.val v H)
  | some l => some (.val (.tuple l.toArray) H)
  | none => none

def leaveC (rs : List PRes) (s : St) : Option Heap → Option Resp
  | some H => retVal H (resultOf s.t H rs)
  | none => none

def endCall (rs : List PRes) : Option Resp → Option Resp
  | some (.code .normal s) => leaveC rs s (takeAll s.H s.d)
  | some (.code .ret s) => leaveC rs s (takeAll s.H s.d)
  | _ => none

def callPF [Globs] (C : Ctx) (ih : Req → Option Resp) (f : FuncId) (args : List Value) (H : Heap) (pf : PF) : Option Resp :=
  bif Nat.ble args.length pf.nt then endCall pf.results (stepC C ih none f pf.nt pf.body { t := Tr.putL .nil 0 args, d := [], H := H }) else none

def stepCall [Globs] (C : Ctx) (ih : Req → Option Resp) (f : FuncId) (args : List Value) (H : Heap) : Option Resp :=
  match C.funcs.get f with
  | none => none
  | some pf => callPF C ih f args H pf

def endRd (l : Nat) : Option Resp → Option Resp
  | some (.code e s) =>
    (match s.H.t.get l with
    | some (.loop r) => some (.val (.bool (exCode e).isNone) (s.H.upd l (.loop { r with state := (match e with | .normal => .ready | _ => .done), pending := exCode e })))
    | _ => none)
  | _ => none

/-- The body of a round. -/
def bodyRd [Globs] (C : Ctx) (ih : Req → Option Resp) (l : Nat) (fn : FuncId) (nt : Nat) (body : PC) : Option Resp → Option Resp
  | some (.code .normal s) =>
    (match s.H.t.get l with
    | some (.loop r) =>
      (match r.state with
      | .ready => endRd l (stepC C ih (some l) fn nt body { t := s.t, d := s.d, H := s.H.upd l (.loop { r with state := .busy }) })
      | _ => none)
    | _ => none)
  | _ => none

def stepRd [Globs] (C : Ctx) (ih : Req → Option Resp) (l : Nat) (r : LoopE) (H : Heap) : Option (Tr Value) → Option Resp
  | some t => bodyRd C ih l r.fn r.nt r.body (stepC C ih (some l) r.fn r.nt r.assign { t := t, d := [], H := H })
  | none => none

def stepYield [Globs] (C : Ctx) (ih : Req → Option Resp) (l : Nat) (args : List Value) (H : Heap) : Option Resp :=
  match H.t.get l with
  | some (.loop r) => stepRd C ih l r H (putTs r.nt r.tmps r.params args)
  | _ => none

def step [Globs] (C : Ctx) (ih : Req → Option Resp) : Req → Option Resp
  | .code ro fn nt c s => stepC C ih ro fn nt c s
  | .scope ro fn nt whole c s => scopeC ih ro fn nt whole (stepC C ih ro fn nt c s)
  | .call f args H => stepCall C ih f args H
  | .yield l args H => stepYield C ih l args H

def run [Globs] (C : Ctx) : Nat → Req → Option Resp
  | 0, _ => none
  | n + 1, r => step C (run C n) r

end Go.Abs
