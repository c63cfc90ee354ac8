/- A reckoner of calls: operations on numbers that are left open, and on arrays, that change nothing. No condition. -/
import Derived.Test.YtcjcdimlcfegbaaGreatDoorRkOps7
set_option linter.unusedVariables false
set_option linter.unusedSimpArgs false
namespace Reck
open Go Ost

/-- It can't be reckoned: where. -/
structure Err (n : List Nat) : Prop where
  bad : False

/-- A cell of a row holds this. -/
structure U.cellAt (L : List (List CV)) (m f : Nat) (v : CV) : Prop where
  out : ∃ row, L[m]? = some row ∧ row[f]? = some v
def sameK1 : CK → CK → Bool
  | .n k, .n k' => decide (k = k')
  | .b, .b => true
  | .s, .s => true
  | .v, .v => true
  | _, _ => false
def sameK : List CK → List CK → Bool
  | [], [] => true
  | x :: l, y :: m => sameK1 x y && sameK l m
  | _, _ => false
theorem sameK1_eq {x y : CK} (h : sameK1 x y = true) : x = y := by
  unfold sameK1 at h
  split at h
  · simp at h; rw [h]
  · rfl
  · rfl
  · rfl
  · cases h
theorem sameK_eq : ∀ {x y : List CK}, sameK x y = true → x = y
  | [], [], _ => rfl
  | [], _ :: _, h => by simp [sameK] at h
  | _ :: _, [], h => by simp [sameK] at h
  | x :: l, y :: m, h => by
    simp only [sameK, Bool.and_eq_true] at h
    rw [sameK1_eq h.1, sameK_eq h.2]
/-- The kinds are so many, and this one stands there. -/
def kindAt (ks : List CK) (u f : Nat) (k : CK) : Bool := Nat.beq ks.length u && (match ks[f]? with
  | some k' => sameK1 k' k
  | none => false)
theorem kindAt_eq {ks : List CK} {u f : Nat} {k : CK} (h : kindAt ks u f k = true) : ks.length = u ∧ ks[f]? = some k := by
  unfold kindAt at h
  simp only [Bool.and_eq_true, Nat.beq_eq] at h
  obtain ⟨c1, c2⟩ := h
  refine ⟨c1, ?_⟩
  split at c2
  · rename_i k' hk'; rw [hk', sameK1_eq c2]
  · cases c2
/-- What a taken load leans on: a cell of a block; a number of an array; a cell of a row. -/
abbrev Held := List ((Nat × Nat × Cell) ⊕ ((Nat × Nat × IntKind × Int) ⊕ (Nat × Nat × Nat × Nat × CK × CV)))
/-- What a quiet operation yields, told to what follows. -/
abbrev QT := (AV → Held → Prop) → Prop

def intX : AV → Option (IntKind × Int)
  | .inl (.inl (.inl (.int k n))) => some (k, n)
  | .inl (.inl (.inr (.inr (.inr (.inr (.inr (.inr (.inl (k, n))))))))) => some (k, n)
  | _ => none
def aslX : AV → Option ASl
  | .inl (.inl (.inr (.inr (.inr (.inr (.inr (.inr (.inr (.inl s))))))))) => some s
  | _ => none
def aptrX : AV → Option (Nat × Nat)
  | .inl (.inl (.inr (.inr (.inr (.inr (.inr (.inr (.inr (.inr (.inl p)))))))))) => some p
  | _ => none

def andI (k : IntKind) (a b : Int) : Int := k.wrap (BitVec.ofInt k.bits a &&& BitVec.ofInt k.bits b).toNat
def orI (k : IntKind) (a b : Int) : Int := k.wrap (BitVec.ofInt k.bits a ||| BitVec.ofInt k.bits b).toNat
def xorI (k : IntKind) (a b : Int) : Int := k.wrap (BitVec.ofInt k.bits a ^^^ BitVec.ofInt k.bits b).toNat
def andNotI (k : IntKind) (a b : Int) : Int := k.wrap (BitVec.ofInt k.bits a &&& ~~~ (BitVec.ofInt k.bits b)).toNat
def shlI (k : IntKind) (a b : Int) : Int := k.wrap (a * 2 ^ (min b.toNat k.bits))
def shrI (k : IntKind) (a b : Int) : Int := a.fdiv (2 ^ (min b.toNat k.bits))

def numX (op : BinOp) (k : IntKind) (a b : Int) : Option Int :=
  match op with
  | .add => some (k.wrap (a + b))
  | .sub => some (k.wrap (a - b))
  | .mul => some (k.wrap (a * b))
  | .and => some (andI k a b)
  | .or => some (orI k a b)
  | .xor => some (xorI k a b)
  | .andNot => some (andNotI k a b)
  | _ => none
def divX (op : BinOp) (k : IntKind) (a b : Int) : Option Int :=
  match op with
  | .quo => some (k.wrap (a.tdiv b))
  | .rem => some (a.tmod b)
  | _ => none
def shiftX (op : BinOp) (k : IntKind) (a b : Int) : Option Int :=
  match op with
  | .shl => some (shlI k a b)
  | .shr => some (shrI k a b)
  | _ => none
def cmpX (op : BinOp) (a b : Int) : Option Prop :=
  match op with
  | .eql => some (a = b)
  | .neq => some (¬ a = b)
  | .lss => some (a < b)
  | .leq => some (a ≤ b)
  | .gtr => some (b < a)
  | .geq => some (b ≤ a)
  | _ => none

def newI (k : IntKind) (r : Int) : QT := fun K => ∀ z : Int, z = r → K (cell (xintC k z)) []
def splitI (c : Prop) : QT := fun K => (c → K (lit (.bool true)) []) ∧ (¬ c → K (lit (.bool false)) [])

def binX (op : BinOp) (k k' : IntKind) (a b : Int) : Option QT :=
  match shiftX op k a b with
  | some r => some fun K => 0 ≤ b ∧ newI k r K
  | none => if k = k' then match numX op k a b with
      | some r => some (newI k r)
      | none => match divX op k a b with
        | some r => some fun K => ¬ b = 0 ∧ newI k r K
        | none => match cmpX op a b with
          | some c => some (splitI c)
          | none => none
    else none

def unX (op : UnOp) (k : IntKind) (a : Int) : Option QT :=
  match op with
  | .neg => some (newI k (k.wrap (0 - a)))
  | .xor => some (newI k (xorI k (if k.signed then -1 else k.max) a))
  | _ => none

def getArr (σ : St) (a : Nat) : Option ABlk :=
  match σ.arrs[a]? with
  | some (some x) => some x
  | _ => none

def loadX (P : Program) (t : TypeId) (p : Nat × Nat) (σ : St) : Option QT :=
  match getArr σ p.1, isAggT P t, sizeT P t with
  | some b, some false, some _ => match b.k with
    | .n k => some fun K => p.2 < b.l.length ∧ ∀ z : Int, z = b.l.getD p.2 0 → K (cell (xintC k z)) [.inr (.inl (p.1, p.2, k, z))]
    | .o _ => none
  | _, _, _ => none

def indexX (P : Program) (t : TypeId) (s : ASl) (i : Int) : Option QT :=
  match P.underlying t with
  | some (.slice e) => match sizeT P e with
    | some 1 => some fun K => (0 ≤ i ∧ i < (s.n : Int)) ∧ ∀ j : Nat, (j : Int) = (s.o : Int) + i → K (cell (aptrC s.a j)) []
    | _ => none
  | _ => none

/-- A bound that is told, or not. -/
def bndX (x : Option AV) : Option (Option Int) :=
  match x with
  | none => some none
  | some v => match intX v with
    | some (_, i) => some (some i)
    | none => none

def cutX (P : Program) (t : TypeId) (s : ASl) (lo hi : Option Int) : Option QT :=
  match P.underlying t with
  | some (.slice e) => match sizeT P e with
    | some 1 => match lo, hi with
      | none, none => some fun K => K (cell (aslC s)) []
      | none, some h => some fun K => (0 ≤ h ∧ h ≤ (s.c : Int)) ∧ ∀ n : Nat, (n : Int) = h → K (cell (aslC ⟨s.a, s.o, n, s.c⟩)) []
      | some l, none => some fun K => (0 ≤ l ∧ l ≤ (s.n : Int)) ∧ ∀ o n c : Nat, (o : Int) = (if (s.c : Int) = l then (s.o : Int) else (s.o : Int) + l) → (n : Int) = (s.n : Int) - l → (c : Int) = (s.c : Int) - l → K (cell (aslC ⟨s.a, o, n, c⟩)) []
      | some l, some h => some fun K => (0 ≤ l ∧ l ≤ h ∧ h ≤ (s.c : Int)) ∧ ∀ o n c : Nat, (o : Int) = (if (s.c : Int) = l then (s.o : Int) else (s.o : Int) + l) → (n : Int) = h - l → (c : Int) = (s.c : Int) - l → K (cell (aslC ⟨s.a, o, n, c⟩)) []
    | _ => none
  | _ => none

/-- A slice of an array against nil. -/
def nilX (op : BinOp) (s : ASl) : Option QT :=
  match op with
  | .eql => some fun K => (s.n = 0 → K (lit (.bool true)) []) ∧ K (lit (.bool false)) []
  | .neq => some fun K => (s.n = 0 → K (lit (.bool false)) []) ∧ K (lit (.bool true)) []
  | _ => none
def isNilSl : AV → Bool
  | .inl (.inl (.inl (.slice none _ _))) => true
  | _ => false

def takeX (P : Program) (tm : List AV) (o : Oper) (σ : St) : Option QT :=
  match o.op with
  | .binOp op t x y _ => match intX (evalA tm x), intX (evalA tm y) with
    | some (k, a), some (k', b) => binX op k k' a b
    | _, _ => match P.underlying t with
      | some (.slice _) => match aslX (evalA tm x) with
        | some s => if isNilSl (evalA tm y) then nilX op s else none
        | none => none
      | _ => none
  | .unOp op _ x => match intX (evalA tm x) with
    | some (k, a) => unX op k a
    | none => none
  | .convert s d x => match P.underlying s, P.underlying d, intX (evalA tm x) with
    | some _, some (.int k), some (_, n) => some (newI k (k.wrap n))
    | _, _, _ => none
  | .load t x => match aptrX (evalA tm x) with
    | some p => loadX P t p σ
    | none => none
  | .nilCheck x => match aptrX (evalA tm x) with
    | some p => some fun K => K (cell (aptrC p.1 p.2)) []
    | none => none
  | .indexAddr t x i => match aslX (evalA tm x), intX (evalA tm i) with
    | some s, some (_, i) => indexX P t s i
    | _, _ => none
  | .slice t x lo hi mx => match aslX (evalA tm x), bndX (lo.map (evalA tm)), bndX (hi.map (evalA tm)), mx with
    | some s, some lo, some hi, none => cutX P t s lo hi
    | _, _, _, _ => none
  | .call c => match c.callee, c.argTypes.toList, c.args.toList with
    | .builtin .len, t :: _, [x] => match P.underlying t, aslX (evalA tm x) with
      | some (.slice _), some s => some (newI .i64 (s.n : Int))
      | _, _ => none
    | .builtin .cap, t :: _, [x] => match P.underlying t, aslX (evalA tm x) with
      | some (.slice _), some s => some (newI .i64 (s.c : Int))
      | _, _ => none
    | _, _, _ => none
  | _ => none
end Reck
