/- A reckoner of calls: runs a function's text over cells whose blocks, capacities and some numbers are left open. No condition. -/
import Derived.WalkKit
import Derived.OrdersHeld
import Derived.LoopN
set_option linter.unusedVariables false
namespace Reck
open Go

/-- A slice into block b from cell o on: n things; its capacity: c, or what the number j is, less c. -/
structure Sl where
  b : Nat
  o : Nat
  n : Nat
  j : Option Nat
  c : Nat

/-- A slice of an array whose numbers are left open: which array, from where on, how many, how many at most. -/
structure ASl where
  a : Nat
  o : Nat
  n : Nat
  c : Nat

/-- A slice of rows: which array, how many cells a row has, from which row on, how many rows, how many at most. -/
structure RSl where
  a : Nat
  u : Nat
  o : Nat
  n : Nat
  c : Nat
/-- A pointer into rows: which array, how many cells a row has, which row, which cell of it. -/
structure RPt where
  a : Nat
  u : Nat
  m : Nat
  f : Nat
/-- What is bound to a function's first place: a row's cell without an address. -/
inductive BV where
  | v (x : Value)
  | n (k : IntKind) (z : Int)
  | s (l : List Int)
/-- A function to whose first place a row is bound. -/
structure BF where
  f : FuncId
  l : List BV
/-- A number that is left open; a slice of an array; a pointer into one; what is forgotten; a text that is left open; a slice of rows; a pointer into them. -/
abbrev XC := (IntKind × Int) ⊕ (ASl ⊕ ((Nat × Nat) ⊕ (Nat ⊕ (List Int ⊕ (RSl ⊕ (RPt ⊕ (BF ⊕ Value)))))))
/-- A cell: a value without an address; a pointer (block, cell); a slice; a number that is left open; a function with captured pointers; a value that is left open. -/
abbrev Cell := Value ⊕ ((Nat × Nat) ⊕ (Sl ⊕ ((IntKind × Nat) ⊕ ((FuncId × List (Nat × Nat)) ⊕ (Nat ⊕ XC)))))
/-- A cell, or a row of cells. -/
abbrev V1 := Cell ⊕ List Cell
/-- One of them, or many. -/
abbrev AV := V1 ⊕ List V1

/-- A block: what its first cells hold; how many cells it has at least; z: it was made of a string. -/
structure Blk where
  elem : TypeId
  cells : List Cell
  j : Option Nat
  c : Nat
  z : Bool
/-- A block's capacity is that of its slices (or told), times so many cells. -/
def b0 (x : Blk) : Nat := if x.j.isSome then 0 else x.c
def bu (x : Blk) : Nat := if x.j.isSome then x.c + 1 else 1

/-- The kinds of a row's cells. -/
inductive CK where
  | n (k : IntKind)
  | b
  | s
  | v
/-- What a row's cell holds. -/
inductive CV where
  | i (z : Int)
  | b (x : Bool)
  | s (l : List Int)
  | v (x : Value)
/-- What a frozen slice holds: numbers of a kind; rows. -/
inductive FB where
  | n (k : IntKind) (l : List Int)
  | r (ks : List CK) (L : List (List CV))
def FB.len : FB → Nat
  | .n _ l => l.length
  | .r _ L => L.length
/-- Memory that is no row of numbers, told in full: a walk through a text (which, at which byte); a variable of the program's own, which is never written; a channel of numbers (how many at most, what is in it); a row of which nothing is told; rows of cells of these kinds; slices that are never written any more, by their values: what they hold. -/
inductive Obj where
  | iter (s : List Int) (pos : Nat)
  | glob (g : Nat) (vs : List Value)
  | chan (k : IntKind) (cap : Nat) (buf : List Int)
  | row
  | rows (ks : List CK) (L : List (List CV))
  | frz (F : Value → FB → Prop)
  | old (F : Value → FB → Prop)
/-- What lies in an array: numbers of one kind; or something else, told in full. -/
inductive AK where
  | n (k : IntKind)
  | o (x : Obj)
instance : Coe IntKind AK := ⟨AK.n⟩
def isN : AK → IntKind → Bool
  | .n k, k' => decide (k = k')
  | .o _, _ => false
theorem isN_eq {a : AK} {k : IntKind} (h : isN a k = true) : a = .n k := by
  cases a with
  | n k' => simp [isN] at h; rw [h]
  | o x => simp [isN] at h

/-- An array of numbers of one kind: what it holds, left open; how many cells it has at least; ro: it is old, and not written. -/
structure ABlk where
  elem : TypeId
  k : AK
  l : List Int
  cap : Nat
  ro : Bool

/-- Blocks; open numbers, with what they are at least and at most; how many values are open. -/
structure St where
  heap : List (Option Blk)
  ints : List (Option Int × Option Int)
  opqs : Nat
  arrs : List (Option ABlk)
  junks : Nat

/-- Where the blocks lie, what the open numbers and values are. -/
structure Env where
  blk : List (Nat × Nat)
  int : List Int
  opq : List Value
  arr : List (Option Addr ⊕ (Nat × Nat))
  S : Nat → Prop
  junk : List Value
  Z : Nat → Prop

def seqO {α : Type} : List (Option α) → Option (List α)
  | [] => some []
  | none :: _ => none
  | some x :: l => match seqO l with
    | some xs => some (x :: xs)
    | none => none

def litC : Cell → Option Value
  | .inl v => some v
  | _ => none
def lit1 : V1 → Option Value
  | .inl c => litC c
  | .inr l => match seqO (l.map litC) with
    | some vs => some (.agg vs.toArray)
    | none => none
def litA : AV → Option Value
  | .inl x => lit1 x
  | .inr l => match seqO (l.map lit1) with
    | some vs => some (.tuple vs.toArray)
    | none => none
def of1 : Value → V1
  | .agg cs => .inr (cs.toList.map .inl)
  | v => .inl (.inl v)
def ofA : Value → AV
  | .tuple vs => .inr (vs.toList.map of1)
  | v => .inl (of1 v)

def evalA (tm : List AV) : Operand → AV
  | .tmp t => tm.getD t (ofA undef)
  | .const v => ofA v
  | .global g => ofA (.pointer (some ⟨g, 0, none⟩))
  | .func f => ofA (.func (.func f) #[] #[])

/-- What a run without memory yields. -/
def pureRun {α : Type} (P : Program) : Sem α → Option α
  | .pure a => some a
  | .program k => pureRun P (k P)
  | .mark _ k => pureRun P k
  | _ => none

def plainV : Value → Bool
  | .agg _ => false
  | .tuple _ => false
  | _ => true
def plainC : Cell → Bool
  | .inl v => plainV v
  | .inr (.inr (.inr (.inr (.inr (.inr (.inr (.inr (.inr (.inl _))))))))) => false
  | _ => true

/-- The cells of a value. -/
def cellsOf : AV → Option (List Cell)
  | .inl (.inl c) => if plainC c then some [c] else none
  | .inl (.inr l) => if l.all plainC then some l else none
  | .inr _ => none

abbrev Rs (α : Type) := Except (List Nat) α
def say {α : Type} (n : List Nat) : Option α → Rs α
  | some x => .ok x
  | none => .error n
def thn {α β : Type} : Rs α → (α → Rs β) → Rs β
  | .ok x, f => f x
  | .error n, _ => .error n

def isAggT (P : Program) (t : TypeId) : Option Bool :=
  match P.underlying t with
  | some (.struct _) => some true
  | some (.array _ _) => some true
  | some _ => some false
  | none => none
def sizeT (P : Program) (t : TypeId) : Option Nat := (P.info? t).map (·.size)

def getBlk (σ : St) (b : Nat) : Option Blk :=
  match σ.heap[b]? with
  | some (some x) => some x
  | _ => none
def loadA (σ : St) (b o n : Nat) : Option (List Cell) :=
  match getBlk σ b with
  | some x => if o + n ≤ x.cells.length then some ((x.cells.drop o).take n) else none
  | none => none
def splice (l : List Cell) (o : Nat) (cs : List Cell) : List Cell := l.take o ++ cs ++ l.drop (o + cs.length)
def putBlk (σ : St) (b : Nat) (x : Option Blk) : St := ⟨σ.heap.set b x, σ.ints, σ.opqs, σ.arrs, σ.junks⟩
def storeA (σ : St) (b o : Nat) (cs : List Cell) : Option St :=
  match getBlk σ b with
  | some x => if o + cs.length ≤ x.cells.length then some (putBlk σ b (some ⟨x.elem, splice x.cells o cs, x.j, x.c, x.z⟩)) else none
  | none => none
def newA (σ : St) (elem : TypeId) (cells : List Cell) : Nat × St := (σ.heap.length, ⟨σ.heap ++ [some ⟨elem, cells, none, cells.length, false⟩], σ.ints, σ.opqs, σ.arrs, σ.junks⟩)

abbrev Res := Rs (List (AV × St))
def one (v : AV) (σ : St) : Res := .ok [(v, σ)]
def lit (v : Value) : AV := ofA v
def cell (c : Cell) : AV := .inl (.inl c)
def ptr (b o : Nat) : AV := cell (.inr (.inl (b, o)))
def sl (s : Sl) : AV := cell (.inr (.inr (.inl s)))
def intC (k : IntKind) (i : Nat) : Cell := .inr (.inr (.inr (.inl (k, i))))
def opqC (i : Nat) : Cell := .inr (.inr (.inr (.inr (.inr (.inl i)))))
def xintC (k : IntKind) (x : Int) : Cell := .inr (.inr (.inr (.inr (.inr (.inr (.inl (k, x)))))))
def aslC (s : ASl) : Cell := .inr (.inr (.inr (.inr (.inr (.inr (.inr (.inl s)))))))
def aptrC (a j : Nat) : Cell := .inr (.inr (.inr (.inr (.inr (.inr (.inr (.inr (.inl (a, j)))))))))
def junkC (j : Nat) : Cell := .inr (.inr (.inr (.inr (.inr (.inr (.inr (.inr (.inr (.inl j)))))))))
/-- A text whose bytes are left open. -/
def strC (l : List Int) : Cell := .inr (.inr (.inr (.inr (.inr (.inr (.inr (.inr (.inr (.inr (.inl l))))))))))
def rslC (s : RSl) : Cell := .inr (.inr (.inr (.inr (.inr (.inr (.inr (.inr (.inr (.inr (.inr (.inl s)))))))))))
def rptC (p : RPt) : Cell := .inr (.inr (.inr (.inr (.inr (.inr (.inr (.inr (.inr (.inr (.inr (.inr (.inl p))))))))))))
def bfC (p : BF) : Cell := .inr (.inr (.inr (.inr (.inr (.inr (.inr (.inr (.inr (.inr (.inr (.inr (.inr (.inl p)))))))))))))
/-- A value of one cell that is left open. -/
def opnC (x : Value) : Cell := .inr (.inr (.inr (.inr (.inr (.inr (.inr (.inr (.inr (.inr (.inr (.inr (.inr (.inr x)))))))))))))
def byteZ (z : Int) : Bool := decide (0 ≤ z ∧ z < 256)
def strZ (l : List Int) : ByteArray := ⟨(l.map fun z => UInt8.ofNat z.toNat).toArray⟩
def bvC : BV → Cell
  | .v x => .inl x
  | .n k z => xintC k z
  | .s l => strC l
def bvV : BV → Option Value
  | .v x => some x
  | .n k z => some (.int k z)
  | .s l => if l.all byteZ then some (.string (strZ l)) else none
def bvOf : Cell → Option BV
  | .inl v => some (.v v)
  | .inr (.inr (.inr (.inr (.inr (.inr (.inl (k, n))))))) => some (.n k n)
  | .inr (.inr (.inr (.inr (.inr (.inr (.inr (.inr (.inr (.inr (.inl l)))))))))) => some (.s l)
  | _ => none
def bfV (p : BF) : Option Value :=
  match seqO (p.l.map bvV) with
  | some vs => some (.func (.func p.f) #[.agg vs.toArray] #[])
  | none => none
def addI (σ : St) (b : Option Int × Option Int) : St := ⟨σ.heap, σ.ints ++ [b], σ.opqs, σ.arrs, σ.junks⟩
def setI (σ : St) (i : Nat) (b : Option Int × Option Int) : St := ⟨σ.heap, σ.ints.set i b, σ.opqs, σ.arrs, σ.junks⟩
def openInt (k : IntKind) (σ : St) : AV × St := (cell (intC k σ.ints.length), addI σ (none, none))

def asNat : AV → Option Nat
  | .inl (.inl (.inl (.int _ (.ofNat n)))) => some n
  | _ => none

def opLoad (P : Program) (t : TypeId) (x : AV) (σ : St) : Res :=
  match x with
  | .inl (.inl (.inr (.inl (b, o)))) =>
    match isAggT P t, sizeT P t with
    | some true, some n => match loadA σ b o n with
      | some cs => one (.inl (.inr cs)) σ
      | none => .error [1]
    | some false, some _ => match loadA σ b o 1 with
      | some [c] => one (cell c) σ
      | _ => .error [1]
    | _, _ => .error [2]
  | _ => .error [3]

def opStore (P : Program) (t : TypeId) (x v : AV) (σ : St) : Res :=
  match x with
  | .inl (.inl (.inr (.inl (b, o)))) =>
    match cellsOf v, sizeT P t with
    | some cs, some n => if cs.length = n then match storeA σ b o cs with
        | some σ' => one (lit undef) σ'
        | none => .error [4]
      else .error [5]
    | _, _ => .error [6]
  | _ => .error [7]

def opNew (P : Program) (elem : TypeId) (cs : List Cell) (σ : St) : Res := one (ptr (newA σ elem cs).1 0) (newA σ elem cs).2

/-- Fill of the model, over cells. -/
def fillA (place : Nat → Option (Nat × Nat)) (cells : List Cell) : List (Nat × AV) → Option (List Cell)
  | [] => some cells
  | (i, v) :: rest =>
    match place i, cellsOf v with
    | some (off, size), some cs => if cs.length = size ∧ off + cs.length ≤ cells.length then fillA place (splice cells off cs) rest else none
    | _, _ => none
def zeroCs (P : Program) (t : TypeId) : Option (List Cell) :=
  match P.info? t with
  | some i => match i.zero with
    | some z => if (z.cells.toList.map (Sum.inl : Value → Cell)).all plainC then some (z.cells.toList.map .inl) else none
    | none => none
  | none => none
def fieldPlaces (P : Program) (fs : List Field) : Option (List (Nat × Nat)) := seqO (fs.map fun f => (sizeT P f.type).map fun n => (f.offset, n))

def opBuild (P : Program) (t : TypeId) (parts : List (Nat × AV)) (σ : St) : Res :=
  match zeroCs P t, P.underlying t with
  | some z, some (.struct fs) => match fieldPlaces P fs.toList with
    | some ps => match fillA (fun i => ps[i]?) z parts with
      | some cs => one (.inl (.inr cs)) σ
      | none => .error [8]
    | none => .error [9]
  | some z, some (.array _ e) => match sizeT P e with
    | some n => match fillA (fun i => some (i * n, n)) z parts with
      | some cs => one (.inl (.inr cs)) σ
      | none => .error [10]
    | none => .error [11]
  | _, _ => .error [12]

def repeatA (z : List Cell) : Nat → List Cell
  | 0 => []
  | n + 1 => z ++ repeatA z n

def opBuildSlice0 (P : Program) (t : TypeId) (len : Nat) (parts : List (Nat × AV)) (σ : St) : Res :=
  match P.underlying t with
  | some (.slice e) => match sizeT P e, zeroCs P e with
    | some n, some z => if z.length = n ∧ 0 < n ∧ len * n ≤ 65536 then match fillA (fun i => some (i * n, n)) (repeatA z len) parts with
        | some cs => one (sl ⟨(newA σ e cs).1, 0, len, none, len⟩) (newA σ e cs).2
        | none => .error [13]
      else .error [14]
    | _, _ => .error [15]
  | _ => .error [16]

/-- Literals of bytes are arrays: see buildX. -/
def isByteT (P : Program) (t : TypeId) : Bool :=
  match P.underlying t with
  | some (.slice e) => match P.underlying e with
    | some (.int .u8) => true
    | _ => false
  | _ => false
def opBuildSlice (P : Program) (t : TypeId) (len : Nat) (parts : List (Nat × AV)) (σ : St) : Res := if isByteT P t then .error [106] else opBuildSlice0 P t len parts σ

def opMakeSlice (P : Program) (t : TypeId) (l c : AV) (σ : St) : Res :=
  match P.underlying t with
  | some (.slice e) => match P.info? e, zeroCs P e, asNat l, asNat c with
    | some i, some z, some l, some c => if z.length = i.size ∧ 0 < i.size ∧ l ≤ c ∧ c * i.bytes ≤ 16777216 ∧ c ≤ 16777216 then
        one (sl ⟨(newA σ e (repeatA z c)).1, 0, l, none, c⟩) (newA σ e (repeatA z c)).2 else .error [17]
    | _, _, _, _ => .error [18]
  | _ => .error [19]

def opField (P : Program) (t : TypeId) (x : AV) (f : Nat) (σ : St) : Res :=
  match P.underlying t, x with
  | some (.struct fs), .inl (.inr cs) => match fs[f]? with
    | some g => match isAggT P g.type, sizeT P g.type with
      | some true, some n => one (.inl (.inr ((cs.drop g.offset).take n))) σ
      | some false, some _ => match cs[g.offset]? with
        | some c => one (cell c) σ
        | none => .error [20]
      | _, _ => .error [21]
    | none => .error [22]
  | _, _ => .error [23]

def opFieldAddr (P : Program) (t : TypeId) (x : AV) (f : Nat) (σ : St) : Res :=
  match P.underlying t, x with
  | some (.struct fs), .inl (.inl (.inr (.inl (b, o)))) => match fs[f]? with
    | some g => match sizeT P g.type with
      | some (_ + 1) => one (ptr b (o + g.offset)) σ
      | _ => .error [24]
    | none => .error [25]
  | _, _ => .error [26]

def opIndexAddr (P : Program) (t : TypeId) (x ix : AV) (σ : St) : Res :=
  match P.underlying t, x, asNat ix with
  | some (.slice e), .inl (.inl (.inr (.inr (.inl s)))), some i => match sizeT P e with
    | some n => if i < s.n then one (ptr s.b (s.o + i * n)) σ else .error [27]
    | none => .error [28]
  | some (.array len e), .inl (.inl (.inr (.inl (b, o)))), some i => match sizeT P e with
    | some n => if i < len then one (ptr b (o + i * n)) σ else .error [29]
    | none => .error [30]
  | _, _, _ => .error [31]

def opIndex (P : Program) (t : TypeId) (x ix : AV) (σ : St) : Res :=
  match P.underlying t, x, asNat ix with
  | some (.array len e), .inl (.inr cs), some i => match isAggT P e, sizeT P e with
    | some true, some n => if i < len then one (.inl (.inr ((cs.drop (i * n)).take n))) σ else .error [32]
    | some false, some n => if i < len then match cs[i * n]? with
        | some c => one (cell c) σ
        | none => .error [33]
      else .error [34]
    | _, _ => .error [35]
  | _, _, _ => .error [36]

def opExtract (x : AV) (i : Nat) (σ : St) : Res :=
  match x with
  | .inr l => match l[i]? with
    | some v => one (.inl v) σ
    | none => .error [37]
  | _ => .error [38]

/-- What a capacity is at least. -/
def capLow (σ : St) (j : Option Nat) (c : Nat) : Nat :=
  match j with
  | none => c
  | some j => match σ.ints[j]? with
    | some (some (.ofNat l), _) => l - c
    | _ => 0
/-- Is a capacity less than this? -/
def capLess (σ : St) (j : Option Nat) (c n : Nat) : Bool :=
  match j with
  | none => Nat.blt c n
  | some j => match σ.ints[j]? with
    | some (_, some (.ofNat h)) => Nat.blt h (n + c)
    | _ => false

def opqs (i : Nat) : Nat → List Cell
  | 0 => []
  | n + 1 => opqC i :: opqs (i + 1) n
/-- A block, so many of whose cells are told, some as open. -/
def widen (σ : St) (b n : Nat) : Option St :=
  match getBlk σ b with
  | some x => if n ≤ x.cells.length then some σ else if n ≤ capLow σ x.j (b0 x) * bu x then
      some ⟨σ.heap.set b (some ⟨x.elem, x.cells ++ opqs σ.opqs (n - x.cells.length), x.j, x.c, x.z⟩), σ.ints, σ.opqs + (n - x.cells.length), σ.arrs, σ.junks⟩ else none
  | none => none

def boundA (x : Option AV) (y d : Nat) : Option Nat :=
  match x with
  | none => some d
  | some v => match asNat v with
    | some i => if i ≤ y then some i else none
    | none => none

/-- A slice cut out of one: what it is, and how many cells of the block it wants told. -/
def sliceV (P : Program) (t : TypeId) (x : AV) (lo hi mx : Option AV) (σ : St) : Rs (AV × Nat × Nat) :=
  match P.underlying t, x, mx with
  | some (.slice e), .inl (.inl (.inr (.inr (.inl s)))), none => match sizeT P e with
    | some n => match boundA hi (capLow σ s.j s.c) s.n with
      | some h => match boundA lo h 0 with
        | some l => if l < capLow σ s.j s.c then .ok (sl ⟨s.b, s.o + l * n, h - l, s.j, if s.j.isSome then s.c + l else s.c - l⟩, s.b, s.o + h * n)
          else if l = 0 then .ok (sl ⟨s.b, s.o, h, s.j, s.c⟩, s.b, s.o + h * n)
          else if s.j = none then .ok (sl ⟨s.b, s.o, h - l, none, 0⟩, s.b, s.o + h * n) else .error [39]
        | none => .error [40]
      | none => .error [41]
    | none => .error [42]
  | some (.pointer a), .inl (.inl (.inr (.inl (b, o)))), none => match P.underlying a with
    | some (.array len e) => match sizeT P e with
      | some n => match boundA hi len len with
        | some h => match boundA lo h 0 with
          | some l => if l < len ∨ l = 0 then .ok (sl ⟨b, o + l * n, h - l, none, len - l⟩, b, o + len * n) else .ok (sl ⟨b, o, h - l, none, 0⟩, b, o + len * n)
          | none => .error [44]
        | none => .error [45]
      | none => .error [46]
    | _ => .error [47]
  | some (.array len e), .inl (.inl (.inr (.inl (b, o)))), none => match sizeT P e with
    | some n => match boundA hi len len with
      | some h => match boundA lo h 0 with
        | some l => if l < len ∨ l = 0 then .ok (sl ⟨b, o + l * n, h - l, none, len - l⟩, b, o + len * n) else .ok (sl ⟨b, o, h - l, none, 0⟩, b, o + len * n)
        | none => .error [144]
      | none => .error [145]
    | none => .error [146]
  | _, _, _ => .error [48]

def opSlice (P : Program) (t : TypeId) (x : AV) (lo hi mx : Option AV) (σ : St) : Res :=
  match sliceV P t x lo hi mx σ with
  | .ok (v, b, n) => match widen σ b n with
    | some σ' => one v σ'
    | none => .error [43]
  | .error e => .error e

def cmpNil (op : BinOp) (nilSide : Bool) (σ : St) : Res :=
  match op with
  | .eql => one (lit (.bool nilSide)) σ
  | .neq => one (lit (.bool !nilSide)) σ
  | _ => .error [49]

/-- A number: its kind, and what it is, or which open one. -/
def intOf : AV → Option (IntKind × (Int ⊕ Nat))
  | .inl (.inl (.inl (.int k n))) => some (k, .inl n)
  | .inl (.inl (.inr (.inr (.inr (.inl (k, i)))))) => some (k, .inr i)
  | _ => none

def maxI (a : Option Int) (c : Int) : Option Int :=
  match a with
  | some l => if l < c then some c else some l
  | none => some c
def minI (a : Option Int) (c : Int) : Option Int :=
  match a with
  | some l => if c < l then some c else some l
  | none => some c
def under (h : Option Int) (c : Int) : Bool :=
  match h with
  | some h => decide (h < c)
  | none => false
def upper (l : Option Int) (c : Int) : Bool :=
  match l with
  | some l => decide (c ≤ l)
  | none => false
/-- Is the open number i less than c? -/
def ltOut (i : Nat) (c : Int) (σ : St) : List (Bool × St) :=
  match σ.ints[i]? with
  | some (lo, hi) =>
    if under hi c then [(true, σ)]
    else if upper lo c then [(false, σ)]
    else [(true, setI σ i (lo, minI hi (c - 1))), (false, setI σ i (maxI lo c, hi))]
  | none => [(true, σ), (false, σ)]
def eqOut (i : Nat) (c : Int) (σ : St) : List (Bool × St) :=
  match σ.ints[i]? with
  | some (lo, hi) =>
    if under hi c then [(false, σ)]
    else if upper lo (c + 1) then [(false, σ)]
    else [(true, setI σ i (some c, some c)), (false, σ)]
  | none => [(true, σ), (false, σ)]
def outs (neg : Bool) (l : List (Bool × St)) : Res := .ok (l.map fun p => (lit (.bool (if neg then !p.1 else p.1)), p.2))
def anyOut (σ : St) : List (Bool × St) := [(true, σ), (false, σ)]

def opInt (op : BinOp) (k : IntKind) (x y : Int ⊕ Nat) (σ : St) : Res :=
  match op, x, y with
  | .add, _, _ => .ok [openInt k σ]
  | .sub, _, _ => .ok [openInt k σ]
  | .mul, _, _ => .ok [openInt k σ]
  | .and, _, _ => .ok [openInt k σ]
  | .or, _, _ => .ok [openInt k σ]
  | .xor, _, _ => .ok [openInt k σ]
  | .lss, .inr i, .inl c => outs false (ltOut i c σ)
  | .geq, .inr i, .inl c => outs true (ltOut i c σ)
  | .leq, .inr i, .inl c => outs false (ltOut i (c + 1) σ)
  | .gtr, .inr i, .inl c => outs true (ltOut i (c + 1) σ)
  | .gtr, .inl c, .inr i => outs false (ltOut i c σ)
  | .leq, .inl c, .inr i => outs true (ltOut i c σ)
  | .geq, .inl c, .inr i => outs false (ltOut i (c + 1) σ)
  | .lss, .inl c, .inr i => outs true (ltOut i (c + 1) σ)
  | .eql, .inr i, .inl c => outs false (eqOut i c σ)
  | .eql, .inl c, .inr i => outs false (eqOut i c σ)
  | .neq, .inr i, .inl c => outs true (eqOut i c σ)
  | .neq, .inl c, .inr i => outs true (eqOut i c σ)
  | .eql, .inr i, .inr j => if i = j then one (lit (.bool true)) σ else outs false (anyOut σ)
  | .neq, .inr i, .inr j => if i = j then one (lit (.bool false)) σ else outs false (anyOut σ)
  | .lss, .inr i, .inr j => if i = j then one (lit (.bool false)) σ else outs false (anyOut σ)
  | .gtr, .inr i, .inr j => if i = j then one (lit (.bool false)) σ else outs false (anyOut σ)
  | .leq, .inr i, .inr j => if i = j then one (lit (.bool true)) σ else outs false (anyOut σ)
  | .geq, .inr i, .inr j => if i = j then one (lit (.bool true)) σ else outs false (anyOut σ)
  | _, _, _ => .error [50]

def opBin (P : Program) (op : BinOp) (t : TypeId) (x y : AV) (σ : St) : Res :=
  match intOf x, intOf y with
  | some (k, i), some (k', i') => if k = k' then opInt op k i i' σ else .error [51]
  | _, _ => match P.underlying t, x, y with
    | some (.pointer _), .inl (.inl (.inr (.inl _))), .inl (.inl (.inl (.pointer none))) => cmpNil op false σ
    | some (.pointer _), .inl (.inl (.inl (.pointer none))), .inl (.inl (.inr (.inl _))) => cmpNil op false σ
    | some (.slice _), .inl (.inl (.inr (.inr (.inl _)))), .inl (.inl (.inl (.slice none _ _))) => cmpNil op false σ
    | some (.slice _), .inl (.inl (.inl (.slice none _ _))), .inl (.inl (.inr (.inr (.inl _)))) => cmpNil op false σ
    | some (.func _ _ _), .inl (.inl (.inr (.inr (.inr (.inr (.inl _)))))), .inl (.inl (.inl .nilFunc)) => cmpNil op false σ
    | some (.func _ _ _), .inl (.inl (.inr (.inr (.inr (.inr (.inr (.inr (.inr (.inr (.inr (.inr (.inr (.inr (.inr (.inl _))))))))))))))), .inl (.inl (.inl .nilFunc)) => cmpNil op false σ
    | _, _, _ => .error [52]

/-- The bytes of cells that are bytes. -/
def bytesOf : List Cell → Option (List Nat)
  | [] => some []
  | .inl (.int .u8 (.ofNat n)) :: l => match bytesOf l with
    | some ns => if n < 256 then some (n :: ns) else none
    | none => none
  | _ => none

def strOfBytes (l : List Nat) : Value := .string ⟨(l.map fun (n : Nat) => UInt8.ofNat n).toArray⟩

/-- A new block for what is grown; its capacity is left open. -/
def grownU (σ : St) (elem : TypeId) (cells : List Cell) (n u : Nat) (z : Bool) : AV × St :=
  (sl ⟨σ.heap.length, 0, n, some σ.ints.length, 0⟩, ⟨σ.heap ++ [some ⟨elem, cells, some σ.ints.length, u, z⟩], σ.ints ++ [(some (.ofNat n), none)], σ.opqs, σ.arrs, σ.junks⟩)

def grown (σ : St) (elem : TypeId) (cells : List Cell) (n : Nat) (z : Bool) : AV × St := grownU σ elem cells n 0 z

def opConvert (P : Program) (src dst : TypeId) (x : AV) (σ : St) : Res :=
  match P.underlying src, P.underlying dst, x with
  | some (.slice e), some .string, .inl (.inl (.inr (.inr (.inl s)))) => match P.underlying e, sizeT P e with
    | some (.int .u8), some 1 => match loadA σ s.b s.o s.n with
      | some cs => match bytesOf cs with
        | some ns => one (lit (strOfBytes ns)) σ
        | none => .error [53]
      | none => .error [54]
    | _, _ => .error [55]
  | some .string, some (.slice e), .inl (.inl (.inl (.string s))) => match P.underlying e with
    | some (.int .u8) => .ok [grown σ e (s.data.toList.map fun b => .inl (.int .u8 (.ofNat b.toNat))) s.size true]
    | _ => .error [57]
  | some _, some (.int k), .inl (.inl (.inr (.inr (.inr (.inl _))))) => .ok [openInt k σ]
  | _, _, _ => .error [58]

def lenA : AV → Option Nat
  | .inl (.inl (.inl (.slice _ n _))) => some n
  | .inl (.inl (.inl (.string s))) => some s.size
  | .inl (.inl (.inr (.inr (.inl s)))) => some s.n
  | _ => none

/-- The first n things of size z that a slice or a string has. -/
def firstA (σ : St) (z n : Nat) : AV → Option (List Cell)
  | .inl (.inl (.inl (.slice none _ _))) => if n = 0 then some [] else none
  | .inl (.inl (.inl (.string s))) => if z = 1 ∧ n ≤ s.size then some (((s.data.toList).take n).map fun b => .inl (.int .u8 (.ofNat b.toNat))) else none
  | .inl (.inl (.inr (.inr (.inl s)))) => loadA σ s.b s.o (n * z)
  | _ => none

/-- append of so many things with these cells. -/
def appendA (e : TypeId) (z : Nat) (s : AV) (m : Nat) (news : List Cell) (σ : St) : Res :=
  match s with
  | .inl (.inl (.inl (.slice none 0 0))) => if m = 0 then one s σ else .ok [grownU σ e news m (z - 1) false]
  | .inl (.inl (.inr (.inr (.inl s)))) => if m = 0 then one (sl s) σ else match getBlk σ s.b with
    | some bk => if bk.elem = e ∧ s.n ≤ 16777216 ∧ s.o + s.n * z ≤ bk.cells.length then
        if s.n + m ≤ capLow σ s.j s.c ∧ s.o + (s.n + m) * z ≤ capLow σ bk.j (b0 bk) * bu bk then
          one (sl ⟨s.b, s.o, s.n + m, s.j, s.c⟩) (putBlk σ s.b (some ⟨bk.elem, splice bk.cells (s.o + s.n * z) news, bk.j, bk.c, bk.z⟩))
        else if capLess σ s.j s.c (s.n + m) then .ok [grownU σ e ((bk.cells.drop s.o).take (s.n * z) ++ news) (s.n + m) (z - 1) false]
        else if s.j.isSome ∧ bk.j = s.j ∧ bk.c + 1 = z ∧ s.o ≤ s.c * z then .ok [grownU (putBlk σ s.b none) e ((bk.cells.drop s.o).take (s.n * z) ++ news) (s.n + m) (z - 1) bk.z] else .error [61]
      else .error [62]
    | none => .error [63]
  | _ => .error [64]

def opAppend (P : Program) (t u : TypeId) (s x : AV) (σ : St) : Res :=
  match P.underlying t, P.underlying u with
  | some (.slice e), some (.int _) => match P.info? e, zeroCs P e, asNat x with
    | some i, some z, some m =>
      if z.length = i.size ∧ 0 < i.size ∧ 0 < i.bytes ∧ i.bytes ≤ 65536 ∧ m ≤ 16777216 then appendA e i.size s m (repeatA z m) σ else .error [67]
    | _, _, _ => .error [68]
  | some (.slice e), some _ => match P.info? e, zeroCs P e, lenA x with
    | some i, some z, some m =>
      if z.length = i.size ∧ 0 < i.size ∧ 0 < i.bytes ∧ i.bytes ≤ 65536 ∧ m ≤ 16777216 then match firstA σ i.size m x with
        | some news => if news.all plainC then appendA e i.size s m news σ else .error [65]
        | none => .error [66]
      else .error [67]
    | _, _, _ => .error [68]
  | _, _ => .error [69]

def opCopy (P : Program) (t : TypeId) (d x : AV) (σ : St) : Res :=
  match P.underlying t, lenA d, lenA x with
  | some (.slice e), some nd, some nx => match sizeT P e with
    | some z => match firstA σ z (Nat.min nx nd) x with
      | some cs => if cs.all plainC then match d with
          | .inl (.inl (.inl (.slice none _ _))) => one (lit (goInt (Nat.min nx nd))) σ
          | .inl (.inl (.inr (.inr (.inl s)))) => match storeA σ s.b s.o cs with
            | some σ' => one (lit (goInt (Nat.min nx nd))) σ'
            | none => .error [70]
          | _ => .error [71]
        else .error [72]
      | none => .error [73]
    | none => .error [74]
  | _, _, _ => .error [75]

def opClear (P : Program) (t : TypeId) (x : AV) (σ : St) : Res :=
  match P.underlying t, x with
  | some (.slice e), .inl (.inl (.inl (.slice none _ _))) => one (lit (.tuple #[])) σ
  | some (.slice e), .inl (.inl (.inr (.inr (.inl s)))) => match zeroCs P e with
    | some z => if z.length = 0 then .error [77] else match storeA σ s.b s.o (repeatA z s.n) with
        | some σ' => one (lit (.tuple #[])) σ'
        | none => .error [76]
    | none => .error [78]
  | _, _ => .error [79]

def opBuiltin (P : Program) (b : Builtin) (ts : List TypeId) (xs : List AV) (σ : St) : Res :=
  match b, ts, xs with
  | .len, t :: _, [x] => match P.underlying t, x with
    | some (.slice _), .inl (.inl (.inr (.inr (.inl s)))) => one (lit (goInt s.n)) σ
    | _, _ => .error [80]
  | .cap, t :: _, [x] => match P.underlying t, x with
    | some (.slice _), .inl (.inl (.inr (.inr (.inl ⟨_, _, _, none, c⟩)))) => one (lit (goInt c)) σ
    | some (.slice _), .inl (.inl (.inr (.inr (.inl ⟨_, _, _, some j, 0⟩)))) => one (cell (intC .i64 j)) σ
    | some (.slice _), .inl (.inl (.inr (.inr (.inl ⟨_, _, _, some j, c⟩)))) => .ok [(cell (intC .i64 σ.ints.length), addI σ (some (.ofNat (capLow σ (some j) c)), none))]
    | _, _ => .error [81]
  | .append, t :: u :: _, [s, x] => opAppend P t u s x σ
  | .copy, t :: _, [d, x] => opCopy P t d x σ
  | .clear, t :: _, [x] => opClear P t x σ
  | _, _, _ => .error [84]

def ptrOf : AV → Option (Nat × Nat)
  | .inl (.inl (.inr (.inl p))) => some p
  | _ => none

def evs (tm : List AV) (l : List Operand) : List AV := l.map (evalA tm)
def evp (tm : List AV) (l : List (Nat × Operand)) : List (Nat × AV) := l.map fun p => (p.1, evalA tm p.2)

/-- A function without a text: slices.overlaps, told by its names. -/
def isOverlaps (P : Program) (g : FuncId) : Bool :=
  match P.funcs[g]? with
  | some fn => fn.body.isNone && fn.origin == "slices.overlaps" && (Extern.findNext fn).isNone && !(fn.name == "runtime.NumGoroutine") &&
      (Extern.allGenericRows.lookup fn.name).isNone && (Extern.allTypedRows.lookup fn.name).isNone && (Extern.allRows.lookup fn.name).isNone &&
      (match (fn.params[0]?).bind P.underlying with
       | some (.slice e) => (P.info? e).isSome
       | _ => false)
  | none => false
def opOverlaps (ov : List FuncId) (g : FuncId) (x y : AV) (σ : St) : Res :=
  if ov.contains g then match x, y with
    | .inl (.inl (.inr (.inr (.inl s)))), .inl (.inl (.inr (.inr (.inl r)))) => if s.b = r.b then .error [85] else match getBlk σ s.b, getBlk σ r.b with
      | some x, some y => if x.z || y.z then .error [89] else one (lit (.bool false)) σ
      | _, _ => .error [86]
    | _, _ => .error [87]
  else .error [88]

/-- An operation that runs without memory on values without addresses. -/
def pureOp (P : Program) (tm : List AV) (o : Oper) : Option Value :=
  match o.op with
  | .select _ _ => none
  | _ => if o.op.operands.toList.all fun x => (litA (evalA tm x)).isSome then
      match pureRun P (execOp (fun x => (litA (evalA tm x)).getD undef) o) with
      | some (.value v) => some v
      | _ => none
    else none

def opFunc (tm : List AV) (fn : Fn) (first cs : Array Operand) (σ : St) : Res :=
  match fn with
  | .func f => if Nat.blt f 1048576 then if first.size = 0 then match seqO (cs.toList.map fun x => ptrOf (evalA tm x)) with
      | some l => one (cell (.inr (.inr (.inr (.inr (.inl (f, l))))))) σ
      | none => .error [93]
    else if cs.size = 0 then match seqO (first.toList.map fun x => ptrOf (evalA tm x)) with
      | some l => one (cell (.inr (.inr (.inr (.inr (.inl (f + 1048576, l))))))) σ
      | none => match first.toList.map (evalA tm) with
        | [.inl (.inr cs)] => match seqO (cs.map bvOf) with
          | some l => one (cell (bfC ⟨f, l⟩)) σ
          | none => .error [95]
        | _ => .error [95]
    else .error [95] else .error [95]
  | _ => .error [96]

def opCall (P : Program) (ov : List FuncId) (tm : List AV) (c : Call) (σ : St) : Res :=
  match c.callee with
  | .builtin b => opBuiltin P b c.argTypes.toList (evs tm c.args.toList) σ
  | .value f => match f with
    | .func g => match c.args.toList with
      | [x, y] => opOverlaps ov g (evalA tm x) (evalA tm y) σ
      | _ => .error [97]
    | _ => .error [98]
  | _ => .error [99]

def opA (P : Program) (ov : List FuncId) (tm : List AV) (o : Oper) (σ : St) : Res :=
  match pureOp P tm o with
  | some v => one (lit v) σ
  | none => match o.op with
    | .move x => one (evalA tm x) σ
    | .assign x => one (evalA tm x) σ
    | .alloc e => match zeroCs P e with
      | some z => opNew P e z σ
      | none => .error [90]
    | .box e x => match cellsOf (evalA tm x) with
      | some cs => opNew P e cs σ
      | none => .error [91]
    | .build t ps => opBuild P t (evp tm ps.toList) σ
    | .buildSlice t n ps => opBuildSlice P t n (evp tm ps.toList) σ
    | .load t x => opLoad P t (evalA tm x) σ
    | .store t x v => opStore P t (evalA tm x) (evalA tm v) σ
    | .nilCheck x => match ptrOf (evalA tm x) with
      | some _ => one (evalA tm x) σ
      | none => .error [92]
    | .binOp op t x y _ => opBin P op t (evalA tm x) (evalA tm y) σ
    | .convert s d x => opConvert P s d (evalA tm x) σ
    | .makeFunc fn first cs => opFunc tm fn first cs σ
    | .makeSlice t l c => opMakeSlice P t (evalA tm l) (evalA tm c) σ
    | .slice t x lo hi mx => opSlice P t (evalA tm x) (lo.map (evalA tm)) (hi.map (evalA tm)) (mx.map (evalA tm)) σ
    | .fieldAddr t x f => opFieldAddr P t (evalA tm x) f σ
    | .field t x f => opField P t (evalA tm x) f σ
    | .indexAddr t x i => opIndexAddr P t (evalA tm x) (evalA tm i) σ
    | .index t x i => opIndex P t (evalA tm x) (evalA tm i) σ
    | .extract x i => opExtract (evalA tm x) i σ
    | .call c => opCall P ov tm c σ
    | _ => .error [94]

/-- A function that has a text, and its arguments. -/
def goA (P : Program) (g : FuncId) (args : List AV) : Option (FuncId × List AV) :=
  match P.funcs[g]? with
  | some fn => if fn.body.isSome then some (g, args) else none
  | none => none
/-- A call of a function that the program has: which, and its arguments. -/
def callA (P : Program) (tm : List AV) (o : Oper) : Option (FuncId × List AV) :=
  match o.op with
  | .call c => match c.callee with
    | .value f => match evalA tm f with
      | .inl (.inl (.inl (.func (.func g) fi ca))) => if fi.size = 0 ∧ ca.size = 0 then goA P g (evs tm c.args.toList) else none
      | .inl (.inl (.inr (.inr (.inr (.inr (.inl (g, l))))))) => if Nat.blt g 1048576 then goA P g (evs tm c.args.toList ++ l.map fun p => ptr p.1 p.2) else goA P (g - 1048576) ((l.map fun p => ptr p.1 p.2) ++ evs tm c.args.toList)
      | .inl (.inl (.inr (.inr (.inr (.inr (.inr (.inr (.inr (.inr (.inr (.inr (.inr (.inr (.inr (.inl p))))))))))))))) => goA P p.f (.inl (.inr (p.l.map bvC)) :: evs tm c.args.toList)
      | _ => none
    | _ => none
  | _ => none

def yieldedA (ops : Array Oper) (tm : List AV) (j : Nat) : Option (Option Bool) :=
  match (ops[j]?).bind (·.dst) with
  | none => some none
  | some t => match tm[t]? with
    | some (.inl (.inl (.inl (.bool b)))) => some (some b)
    | some (.inl (.inl (.inl _))) => some none
    | some (.inr _) => some none
    | some (.inl (.inr _)) => some none
    | some (.inl (.inl (.inr _))) => none
    | none => some none
def wantedA (ops : Array Oper) (tm : List AV) (o : Oper) : Option Bool :=
  match o.guard with
  | none => some true
  | some (j, want) => match yieldedA ops tm j with
    | some y => some (y == some want)
    | none => none

def putA (tm : List AV) (d : Option Tmp) (v : AV) : List AV :=
  match d with
  | some d => tm.set d v
  | none => tm

def atAll {α β : Type} (f : α → Rs (List β)) : List α → Rs (List β)
  | [] => .ok []
  | x :: l => thn (f x) fun a => thn (atAll f l) fun b => .ok (a ++ b)

/-- How a piece of code ends. -/
abbrev Out := Exit × (List AV × St)

def loadV (P : Program) (t : TypeId) (x : AV) (σ : St) : Option AV :=
  match ptrOf x, isAggT P t, sizeT P t with
  | some (b, o), some true, some n => match loadA σ b o n with
    | some cs => some (.inl (.inr cs))
    | none => none
  | some (b, o), some false, some _ => match loadA σ b o 1 with
    | some [c] => some (cell c)
    | _ => none
  | _, _, _ => none

def resA (P : Program) (rs : List ResultVar) (tm : List AV) (σ : St) : Option (List AV) :=
  seqO (rs.map fun
    | .tmp t => some (tm.getD t (ofA undef))
    | .cell a t => loadV P t (tm.getD a (ofA undef)) σ)

def v1Of : AV → Option V1
  | .inl v => some v
  | .inr _ => none
def tupOf (l : List AV) : Option AV :=
  match l with
  | [v] => some v
  | l => match seqO (l.map v1Of) with
    | some vs => some (.inr vs)
    | none => none

def endA (P : Program) (fn : Func) (out : Out) : Res :=
  match out with
  | (.normal, tm, σ) => match resA P fn.results.toList tm σ with
    | some l => match tupOf l with
      | some v => one v σ
      | none => .error [100]
    | none => .error [101]
  | (.ret, tm, σ) => match resA P fn.results.toList tm σ with
    | some l => match tupOf l with
      | some v => one v σ
      | none => .error [100]
    | none => .error [101]
  | _ => .error [102]

/-- A load, or an operation without memory: what it yields, and the cells on which that hangs. -/
def takeA (P : Program) (tm : List AV) (o : Oper) (σ : St) : Option (AV × List (Nat × Nat × Cell)) :=
  match pureOp P tm o with
  | some v => some (lit v, [])
  | none => match o.op with
    | .move x => some (evalA tm x, [])
    | .assign x => some (evalA tm x, [])
    | .load t x => match ptrOf (evalA tm x), isAggT P t, sizeT P t with
      | some (b, o), some true, some n => match loadA σ b o n with
        | some cs => some (.inl (.inr cs), (cs.zipIdx).map fun p => (b, o + p.2, p.1))
        | none => none
      | some (b, o), some false, some _ => match loadA σ b o 1 with
        | some [c] => some (cell c, [(b, o, c)])
        | _ => none
      | _, _, _ => none
    | .nilCheck x => match ptrOf (evalA tm x) with
      | some _ => some (evalA tm x, [])
      | none => none
    | .fieldAddr t x f => match opFieldAddr P t (evalA tm x) f σ with
      | .ok [(v, _)] => some (v, [])
      | _ => none
    | .field t x f => match opField P t (evalA tm x) f σ with
      | .ok [(v, _)] => some (v, [])
      | _ => none
    | .indexAddr t x i => match opIndexAddr P t (evalA tm x) (evalA tm i) σ with
      | .ok [(v, _)] => some (v, [])
      | _ => none
    | .extract x i => match opExtract (evalA tm x) i σ with
      | .ok [(v, _)] => some (v, [])
      | _ => none
    | .slice t x lo hi mx => match sliceV P t (evalA tm x) (lo.map (evalA tm)) (hi.map (evalA tm)) (mx.map (evalA tm)) σ with
      | .ok (v, b, n) => match getBlk σ b with
        | some bk => if n ≤ bk.cells.length then some (v, []) else none
        | none => none
      | _ => none
    | .build t ps => match opBuild P t (evp tm ps.toList) σ with
      | .ok [(v, _)] => some (v, [])
      | _ => none
    | .call c => match c.callee with
      | .builtin .len => match opBuiltin P .len c.argTypes.toList (evs tm c.args.toList) σ with
        | .ok [(v, _)] => some (v, [])
        | _ => none
      | _ => none
    | _ => none

end Reck
