/- A reckoner of calls: how the pieces of a text are run; what follows is handed on, what is asked comes out as one proposition. No condition. -/
import Derived.Test.YtcjcdimlcfegbaaGreatDoorRkQ2
import Derived.Test.YtcjcdimlcfegbaaGreatDoorRkGo
import Derived.Test.YtcjcdimlcfegbaaGreatDoorRkL
set_option linter.unusedVariables false
namespace Reck
open Go

/-! ### A state told anew: what is forgotten, what is renamed -/
/-- How a state is told anew: so many of each kind stand as they are; blocks and arrays that come behind; slots that are forgotten. -/
structure Ren where
  nb : Nat
  ni : Nat
  no : Nat
  na : Nat
  nj : Nat
  mb : List Nat
  ma : List Nat
  J : List Nat

def place (l : List Nat) (b : Nat) : Option Nat :=
  match l with
  | [] => none
  | x :: l => if b == x then some 0 else match place l b with
    | some p => some (p + 1)
    | none => none
def renN (n : Nat) (m : List Nat) (b : Nat) : Option Nat :=
  match place m b with
  | some p => some (n + p)
  | none => if Nat.blt b n then some b else none
def renP (R : Ren) (p : Nat × Nat) : Option (Nat × Nat) :=
  match renN R.nb R.mb p.1 with
  | some b => some (b, p.2)
  | none => none
def jOk (R : Ren) : Option Nat → Bool
  | none => true
  | some j => Nat.blt j R.ni
def renC (R : Ren) : Cell → Option Cell
  | .inl v => some (.inl v)
  | .inr (.inl p) => match renP R p with
    | some p => some (.inr (.inl p))
    | none => none
  | .inr (.inr (.inl s)) => match renN R.nb R.mb s.b with
    | some b => if jOk R s.j then some (.inr (.inr (.inl ⟨b, s.o, s.n, s.j, s.c⟩))) else none
    | none => none
  | .inr (.inr (.inr (.inl (k, i)))) => if Nat.blt i R.ni then some (intC k i) else none
  | .inr (.inr (.inr (.inr (.inl (f, l))))) => match seqO (l.map (renP R)) with
    | some l => some (.inr (.inr (.inr (.inr (.inl (f, l))))))
    | none => none
  | .inr (.inr (.inr (.inr (.inr (.inl i))))) => if Nat.blt i R.no then some (opqC i) else none
  | .inr (.inr (.inr (.inr (.inr (.inr (.inl (k, n))))))) => some (xintC k n)
  | .inr (.inr (.inr (.inr (.inr (.inr (.inr (.inl s))))))) => match renN R.na R.ma s.a with
    | some a => some (aslC ⟨a, s.o, s.n, s.c⟩)
    | none => none
  | .inr (.inr (.inr (.inr (.inr (.inr (.inr (.inr (.inl (a, j))))))))) => match renN R.na R.ma a with
    | some a => some (aptrC a j)
    | none => none
  | .inr (.inr (.inr (.inr (.inr (.inr (.inr (.inr (.inr (.inl j))))))))) => if Nat.blt j R.nj then some (junkC j) else none
  | .inr (.inr (.inr (.inr (.inr (.inr (.inr (.inr (.inr (.inr (.inl l)))))))))) => some (strC l)
  | .inr (.inr (.inr (.inr (.inr (.inr (.inr (.inr (.inr (.inr (.inr (.inl s))))))))))) => match renN R.na R.ma s.a with
    | some a => some (rslC ⟨a, s.u, s.o, s.n, s.c⟩)
    | none => none
  | .inr (.inr (.inr (.inr (.inr (.inr (.inr (.inr (.inr (.inr (.inr (.inr (.inl p)))))))))))) => match renN R.na R.ma p.a with
    | some a => some (rptC ⟨a, p.u, p.m, p.f⟩)
    | none => none
  | .inr (.inr (.inr (.inr (.inr (.inr (.inr (.inr (.inr (.inr (.inr (.inr (.inr (.inl p))))))))))))) => some (bfC p)
  | .inr (.inr (.inr (.inr (.inr (.inr (.inr (.inr (.inr (.inr (.inr (.inr (.inr (.inr x))))))))))))) => some (opnC x)
def ren1 (R : Ren) : V1 → Option V1
  | .inl c => match renC R c with
    | some c => some (.inl c)
    | none => none
  | .inr l => match seqO (l.map (renC R)) with
    | some l => some (.inr l)
    | none => none
def renV (R : Ren) : AV → Option AV
  | .inl x => match ren1 R x with
    | some x => some (.inl x)
    | none => none
  | .inr l => match seqO (l.map (ren1 R)) with
    | some l => some (.inr l)
    | none => none
def renK (R : Ren) : Option Blk → Option Blk
  | none => none
  | some x => match seqO (x.cells.map (renC R)) with
    | some l => if jOk R x.j then some ⟨x.elem, l, x.j, x.c, x.z⟩ else none
    | none => none
def heldBack {α : Type} (m : List Nat) : Nat → List (Option α) → List (Option α)
  | _, [] => []
  | i, x :: l => (match place m i with
    | some _ => none
    | none => x) :: heldBack m (i + 1) l
def renTm (R : Ren) : Nat → List AV → List AV
  | _, [] => []
  | t, x :: l => (match place R.J t with
    | some _ => cell (junkC (R.nj + t))
    | none => match renV R x with
      | some y => y
      | none => cell (junkC (R.nj + t))) :: renTm R (t + 1) l
def renSt (R : Ren) (n : Nat) (σ : St) : St :=
  ⟨(heldBack R.mb 0 (σ.heap.take R.nb)).map (renK R) ++ R.mb.map fun b => renK R (σ.heap.getD b none), σ.ints.take R.ni, R.no,
    heldBack R.ma 0 (σ.arrs.take R.na) ++ R.ma.map fun a => σ.arrs.getD a none, R.nj + n⟩
def nodupN : List Nat → Bool
  | [] => true
  | x :: l => (place l x).isNone && nodupN l
def renOk (R : Ren) (σ : St) : Bool :=
  Nat.ble R.nb σ.heap.length && Nat.ble R.ni σ.ints.length && Nat.ble R.no σ.opqs && Nat.ble R.na σ.arrs.length && Nat.ble R.nj σ.junks &&
    R.mb.all (fun b => Nat.blt b σ.heap.length) && R.ma.all (fun a => Nat.blt a σ.arrs.length) && nodupN R.mb && nodupN R.ma

/-! ### Two states that stand for the same -/
/-- When do two cells stand for the same? none: it can't be told; some none: they do. -/
def refC : Cell → Cell → Option (Option Prop)
  | .inl (.int k n), .inr (.inr (.inr (.inr (.inr (.inr (.inl (l, m))))))) => if decide (k = l) then some (some (n = m)) else none
  | .inr (.inr (.inr (.inr (.inr (.inr (.inl (k, n))))))), .inl (.int l m) => if decide (k = l) then some (some (n = m)) else none
  | .inr (.inr (.inr (.inr (.inr (.inr (.inl (k, n))))))), .inr (.inr (.inr (.inr (.inr (.inr (.inl (l, m))))))) => if decide (k = l) then some (some (n = m)) else none
  | .inr (.inr (.inr (.inr (.inr (.inr (.inr (.inl s))))))), .inr (.inr (.inr (.inr (.inr (.inr (.inr (.inl t))))))) => if s.a == t.a then some (some (s.o = t.o ∧ s.n = t.n ∧ s.c = t.c)) else none
  | .inr (.inr (.inr (.inr (.inr (.inr (.inr (.inr (.inl p)))))))), .inr (.inr (.inr (.inr (.inr (.inr (.inr (.inr (.inl q)))))))) => if p.1 == q.1 then some (some (p.2 = q.2)) else none
  | .inr (.inr (.inr (.inr (.inr (.inr (.inr (.inr (.inr (.inl i))))))))), .inr (.inr (.inr (.inr (.inr (.inr (.inr (.inr (.inr (.inl j))))))))) => if i == j then some none else none
  | .inr (.inr (.inr (.inr (.inr (.inr (.inr (.inr (.inr (.inr (.inl l)))))))))), .inr (.inr (.inr (.inr (.inr (.inr (.inr (.inr (.inr (.inr (.inl m)))))))))) => some (some (l = m))
  | .inr (.inr (.inr (.inr (.inr (.inr (.inr (.inr (.inr (.inr (.inr (.inl s))))))))))), .inr (.inr (.inr (.inr (.inr (.inr (.inr (.inr (.inr (.inr (.inr (.inl t))))))))))) => if s.a == t.a && s.u == t.u then some (some (s.o = t.o ∧ s.n = t.n ∧ s.c = t.c)) else none
  | .inr (.inr (.inr (.inr (.inr (.inr (.inr (.inr (.inr (.inr (.inr (.inr (.inl s)))))))))))), .inr (.inr (.inr (.inr (.inr (.inr (.inr (.inr (.inr (.inr (.inr (.inr (.inl t)))))))))))) => if s.a == t.a && s.u == t.u && s.f == t.f then some (some (s.m = t.m)) else none
  | .inr (.inr (.inr (.inr (.inr (.inr (.inr (.inr (.inr (.inr (.inr (.inr (.inr (.inl s))))))))))))), .inr (.inr (.inr (.inr (.inr (.inr (.inr (.inr (.inr (.inr (.inr (.inr (.inr (.inl t))))))))))))) => if s.f == t.f then some (some (s.l = t.l)) else none
  | .inr (.inr (.inr (.inr (.inr (.inr (.inr (.inr (.inr (.inr (.inr (.inr (.inr (.inr x))))))))))))), .inr (.inr (.inr (.inr (.inr (.inr (.inr (.inr (.inr (.inr (.inr (.inr (.inr (.inr y))))))))))))) => some (some (x = y))
  | .inl (.slice none 0 0), .inr (.inr (.inr (.inr (.inr (.inr (.inr (.inr (.inr (.inr (.inr (.inr (.inr (.inr y))))))))))))) => some (some (Value.slice none 0 0 = y))
  | .inr (.inr (.inr (.inr (.inr (.inr (.inr (.inr (.inr (.inr (.inr (.inr (.inr (.inr x))))))))))))), .inl (.slice none 0 0) => some (some (x = Value.slice none 0 0))
  | .inr (.inr (.inr (.inr (.inl p)))), .inr (.inr (.inr (.inr (.inl q)))) => if p.1 == q.1 && decide (p.2 = q.2) then some none else none
  | .inl (.string s), .inr (.inr (.inr (.inr (.inr (.inr (.inr (.inr (.inr (.inr (.inl m)))))))))) => some (some ((s.data.toList.map fun b => (b.toNat : Int)) = m))
  | .inl (.bool x), .inl (.bool y) => some (some (x = y))
  | c, d => if sameC c d then some none else none
def eqCs (K : Prop) : List Cell → List Cell → Prop
  | [], [] => K
  | c :: l, d :: m => match refC c d with
    | some none => eqCs K l m
    | some (some p) => p ∧ eqCs K l m
    | none => Err [140]
  | _, _ => Err [141]
def eq1s (K : Prop) : List V1 → List V1 → Prop
  | [], [] => K
  | .inl c :: l, .inl d :: m => eqCs (eq1s K l m) [c] [d]
  | .inr c :: l, .inr d :: m => eqCs (eq1s K l m) c d
  | _, _ => Err [142]
def eqVs (K : Prop) : List AV → List AV → Prop
  | [], [] => K
  | .inl c :: l, .inl d :: m => eq1s (eqVs K l m) [c] [d]
  | .inr c :: l, .inr d :: m => eq1s (eqVs K l m) c d
  | _, _ => Err [143]
def eqKs (K : Prop) : List (Option Blk) → List (Option Blk) → Prop
  | [], [] => K
  | _ :: l, none :: m => eqKs K l m
  | some x :: l, some y :: m => if x.elem == y.elem && decide (x.j = y.j) && x.c == y.c && x.z == y.z then eqCs (eqKs K l m) x.cells y.cells else Err [144]
  | _, _ => Err [145]
def isRows : AK → Bool
  | .o (.rows _ _) => true
  | _ => false
/-- When is what lies in two arrays the same? none: it can't be told. -/
def eqK : AK → AK → Option (Option Prop)
  | .n k, .n k' => if decide (k = k') then some none else none
  | .o (.iter s p), .o (.iter s' p') => some (some (s = s' ∧ p = p'))
  | .o (.chan k c b), .o (.chan k' c' b') => if decide (k = k') then some (some (c = c' ∧ b = b')) else none
  | .o (.glob g vs), .o (.glob g' vs') => some (some (g = g' ∧ vs = vs'))
  | .o (.rows ks L), .o (.rows ks' L') => if sameK ks ks' then some (some (L = L')) else none
  | .o (.frz F), .o (.frz F') => some (some (F = F'))
  | .o (.old F), .o (.old F') => some (some (F = F'))
  | _, _ => none
def eqAs (K : Prop) : List (Option ABlk) → List (Option ABlk) → Prop
  | [], [] => K
  | _ :: l, none :: m => eqAs K l m
  | some x :: l, some y :: m => if x.elem == y.elem then match eqK x.k y.k with
      | some none => (x.l = y.l ∧ x.cap = y.cap ∧ x.ro = y.ro) ∧ eqAs K l m
      | some (some p) => if isRows x.k && x.l.isEmpty && y.l.isEmpty then (p ∧ x.cap = y.cap ∧ x.ro = y.ro) ∧ eqAs K l m else if x.l.isEmpty && y.l.isEmpty && Nat.beq x.cap y.cap && x.ro == y.ro then p ∧ eqAs K l m else Err [146]
      | none => Err [146]
    else Err [146]
  | _, _ => Err [147]
def eqSt (K : Prop) (σ τ : St) : Prop :=
  if decide (σ.ints = τ.ints) && σ.opqs == τ.opqs && σ.junks == τ.junks then eqKs (eqAs K σ.arrs τ.arrs) σ.heap τ.heap else Err [148]

/-! ### What is known ahead: loops, calls -/
/-- What holds at a loop's head: slots that are forgotten; what the others hold, and the state, by something x; what is known of x; a number that each round lowers (all of them by a tag, of which there are some few, told by the state); the blocks and arrays behind those that were there. -/
structure Inv where
  X : Type
  tags : List Nat
  tag : List AV → St → Nat
  J : List Nat
  val : Nat → X → List (Nat × AV)
  st : Nat → X → St → St
  I : Nat → X → Prop
  m : Nat → X → Nat
  ren : List AV → St → List Nat × List Nat

structure Orc where
  inv : Code → List AV → St → Option Inv
  con : FuncId → List AV → St → Option ((AV → St → Prop) → Prop)
  meet : Code → List AV → St → Option Inv
  pre : Bool

def setAll (tm : List AV) : List (Nat × AV) → List AV
  | [] => tm
  | (t, v) :: l => setAll (tm.set t v) l

def renAt (σ : St) (i : Inv) (tm' : List AV) (σ' : St) : Ren :=
  ⟨σ.heap.length, σ.ints.length, σ.opqs, σ.arrs.length, σ.junks, (i.ren tm' σ').1, (i.ren tm' σ').2, i.J⟩
/-! ### Temporaries told in full -/
def cellK : Cell → (Cell → Prop) → Prop
  | .inl v, k => k (.inl v)
  | .inr (.inl p), k => k (.inr (.inl p))
  | .inr (.inr (.inl s)), k => k (.inr (.inr (.inl s)))
  | .inr (.inr (.inr (.inl p))), k => k (.inr (.inr (.inr (.inl p))))
  | .inr (.inr (.inr (.inr (.inl p)))), k => k (.inr (.inr (.inr (.inr (.inl p)))))
  | .inr (.inr (.inr (.inr (.inr (.inl i))))), k => k (.inr (.inr (.inr (.inr (.inr (.inl i))))))
  | .inr (.inr (.inr (.inr (.inr (.inr x))))), k => k (.inr (.inr (.inr (.inr (.inr (.inr x))))))
theorem cellK_eq (c : Cell) (k : Cell → Prop) : cellK c k = k c := by
  rcases c with v | p | s | p | p | i | x <;> rfl
def cellsK : List Cell → (List Cell → Prop) → Prop
  | [], k => k []
  | c :: l, k => cellK c fun c' => cellsK l fun l' => k (c' :: l')
theorem cellsK_eq : ∀ (l : List Cell) (k : List Cell → Prop), cellsK l k = k l
  | [], _ => rfl
  | c :: l, k => by simp only [cellsK, cellK_eq, cellsK_eq l]
def v1K : V1 → (V1 → Prop) → Prop
  | .inl c, k => cellK c fun c' => k (.inl c')
  | .inr l, k => cellsK l fun l' => k (.inr l')
theorem v1K_eq (x : V1) (k : V1 → Prop) : v1K x k = k x := by
  rcases x with c | l <;> simp only [v1K, cellK_eq, cellsK_eq]
def v1sK : List V1 → (List V1 → Prop) → Prop
  | [], k => k []
  | c :: l, k => v1K c fun c' => v1sK l fun l' => k (c' :: l')
theorem v1sK_eq : ∀ (l : List V1) (k : List V1 → Prop), v1sK l k = k l
  | [], _ => rfl
  | c :: l, k => by simp only [v1sK, v1K_eq, v1sK_eq l]
def avK : AV → (AV → Prop) → Prop
  | .inl c, k => v1K c fun c' => k (.inl c')
  | .inr l, k => v1sK l fun l' => k (.inr l')
theorem avK_eq (x : AV) (k : AV → Prop) : avK x k = k x := by
  rcases x with c | l <;> simp only [avK, v1K_eq, v1sK_eq]
def avsK : List AV → (List AV → Prop) → Prop
  | [], k => k []
  | c :: l, k => avK c fun c' => avsK l fun l' => k (c' :: l')
theorem avsK_eq : ∀ (l : List AV) (k : List AV → Prop), avsK l k = k l
  | [], _ => rfl
  | c :: l, k => by simp only [avsK, avK_eq, avsK_eq l]

/-- The loop's head by x, where the entry was with tm, σ. -/
def headOf (i : Inv) (tm : List AV) (σ : St) (t : Nat) (x : i.X) : List AV × St :=
  (setAll (renTm (renAt σ i tm σ) 0 tm) (i.val t x), i.st t x (renSt (renAt σ i tm σ) tm.length σ))
/-- The loop's head is come to with tm', σ'. -/
def atHead0 (i : Inv) (tm : List AV) (σ : St) (tm' : List AV) (σ' : St) (K : Nat → i.X → Prop) : Prop :=
  if renOk (renAt σ i tm' σ') σ' && (place i.tags (i.tag tm' σ')).isSome then ∃ x : i.X, eqVs (eqSt (K (i.tag tm' σ') x) (renSt (renAt σ i tm' σ') tm'.length σ') (headOf i tm σ (i.tag tm' σ') x).2) (renTm (renAt σ i tm' σ') 0 tm') (headOf i tm σ (i.tag tm' σ') x).1 else Err [150]
def atHead (i : Inv) (tm : List AV) (σ : St) (tm' : List AV) (σ' : St) (K : Nat → i.X → Prop) : Prop :=
  if renOk (renAt σ i tm' σ') σ' && (place i.tags (i.tag tm' σ')).isSome then avsK (renTm (renAt σ i tm' σ') 0 tm') fun l => avsK (renTm (renAt σ i tm σ) 0 tm) fun h => ∃ x : i.X, eqVs (eqSt (K (i.tag tm' σ') x) (renSt (renAt σ i tm' σ') tm'.length σ') (i.st (i.tag tm' σ') x (renSt (renAt σ i tm σ) tm.length σ))) l (setAll h (i.val (i.tag tm' σ') x)) else Err [150]
theorem atHead_eq (i : Inv) (tm : List AV) (σ : St) (tm' : List AV) (σ' : St) (K : Nat → i.X → Prop) : atHead i tm σ tm' σ' K = atHead0 i tm σ tm' σ' K := by
  unfold atHead atHead0
  simp only [avsK_eq]
  rfl

/-- What is to be run: code, a loop's rounds, a region in its order, a region in any order, a call. -/
abbrev Task := Code ⊕ (Code ⊕ ((Array Oper × List Nat) ⊕ ((Array Oper × Array Bool × List (Held × List Nat)) ⊕ FuncId)))
abbrev Self := Task → List AV → St → (Out → Prop) → Prop

/-- Of all. -/
def allK {α : Type} (f : α → Prop) : List α → Prop
  | [] => True
  | [x] => f x
  | x :: l => f x ∧ allK f l

/-- The held cells are in the state. -/
def heldK (σ : St) (K : Prop) : Held → Prop
  | [] => K
  | .inl (b, i, c) :: l => match getBlk σ b with
    | some x => match x.cells[i]? with
      | some d => match refC d c with
        | some none => heldK σ K l
        | some (some p) => p ∧ heldK σ K l
        | none => Err [151]
      | none => Err [152]
    | none => Err [153]
  | .inr (.inl (a, j, k, z)) :: l => match getArr σ a with
    | some x => if isN x.k k then x.l[j]? = some z ∧ heldK σ K l else Err [154]
    | none => Err [155]
  | .inr (.inr (a, u, m, f, k, v)) :: l => match getArr σ a with
    | some x => match x.k with
      | .o (.rows ks L) => if kindAt ks u f k then U.cellAt L m f v ∧ heldK σ K l else Err [157]
      | _ => Err [158]
    | none => Err [159]

/-- The held cells that are still leant on. -/
def heldL (σ : St) (l : Array Bool) (K : Prop) : List (Held × List Nat) → Prop
  | [] => K
  | p :: hs => if p.2.all fun k => !l.getD k false then heldK σ (heldL σ l K hs) p.1 else heldL σ l K hs
def isStore (ops : Array Oper) (k : Nat) : Bool :=
  match ops[k]? with
  | some o => match o.op with
    | .store _ _ _ => true
    | _ => false
  | none => false
/-- The stores that wait for number i. -/
def expL (ops : Array Oper) (i : Nat) : List Oper → Nat → List Nat
  | [], _ => []
  | o :: os, k => match o.op with
    | .store _ _ _ => if !Nat.beq i k && waits .any ops i ops.size k then k :: expL ops i os (k + 1) else expL ops i os (k + 1)
    | _ => expL ops i os (k + 1)
def expOf (ops : Array Oper) (i : Nat) : List Nat := expL ops i ops.toList 0
theorem expL_spec {ops : Array Oper} {i k : Nat} : ∀ {os : List Oper} {j : Nat}, k ∈ expL ops i os j → i ≠ k ∧ waits .any ops i ops.size k = true
  | [], _, h => by simp [expL] at h
  | o :: os, j, h => by
    simp only [expL] at h
    split at h
    · split at h
      · rename_i hc
        rcases List.mem_cons.1 h with rfl | h
        · simp only [Bool.and_eq_true] at hc
          refine ⟨fun he => ?_, hc.2⟩
          subst he
          have := hc.1
          simp at this
        · exact expL_spec h
      · exact expL_spec h
    · exact expL_spec h
theorem expOf_spec {ops : Array Oper} {i k : Nat} (h : k ∈ expOf ops i) : i ≠ k ∧ waits .any ops i ops.size k = true := expL_spec h
def addH (ops : Array Oper) (i : Nat) (h : Held) (hs : List (Held × List Nat)) : List (Held × List Nat) :=
  match h with
  | [] => hs
  | _ => (h, expOf ops i) :: hs

/-! ### Rows that are told in full before one goes on: so the kernel has less to do -/
def setK : List AV → Nat → AV → (List AV → Prop) → Prop
  | [], _, _, k => k []
  | _ :: l, 0, v, k => k (v :: l)
  | x :: l, n + 1, v, k => setK l n v fun m => k (x :: m)
theorem setK_eq : ∀ (l : List AV) (n : Nat) (v : AV) (k : List AV → Prop), setK l n v k = k (l.set n v)
  | [], _, _, _ => rfl
  | _ :: _, 0, _, _ => rfl
  | x :: l, n + 1, v, k => by simp only [setK, setK_eq l n v, List.set_cons_succ]
def putK (tm : List AV) (d : Option Tmp) (v : AV) (k : List AV → Prop) : Prop :=
  match d with
  | some d => setK tm d v k
  | none => k tm
theorem putK_eq (tm : List AV) (d : Option Tmp) (v : AV) (k : List AV → Prop) : putK tm d v k = k (putA tm d v) := by
  cases d with
  | none => rfl
  | some d => exact setK_eq _ _ _ _
def blksK : List (Option Blk) → (List (Option Blk) → Prop) → Prop
  | [], k => k []
  | x :: l, k => blksK l fun m => k (x :: m)
theorem blksK_eq : ∀ (l : List (Option Blk)) (k : List (Option Blk) → Prop), blksK l k = k l
  | [], _ => rfl
  | x :: l, k => by simp only [blksK, blksK_eq l]
def stK (σ : St) (k : St → Prop) : Prop :=
  match σ with
  | ⟨h, i, o, a, j⟩ => blksK h fun h' => k ⟨h', i, o, a, j⟩
theorem stK_eq (σ : St) (k : St → Prop) : stK σ k = k σ := by cases σ; exact blksK_eq _ _
def pairK (r : AV × St) (k : AV → St → Prop) : Prop :=
  match r with
  | (v, σ) => k v σ
theorem pairK_eq (r : AV × St) (k : AV → St → Prop) : pairK r k = k r.1 r.2 := rfl

def boolsK : List Bool → (List Bool → Prop) → Prop
  | [], k => k []
  | true :: l, k => boolsK l fun m => k (true :: m)
  | false :: l, k => boolsK l fun m => k (false :: m)
theorem boolsK_eq : ∀ (l : List Bool) (k : List Bool → Prop), boolsK l k = k l
  | [], _ => rfl
  | true :: l, k => by simp only [boolsK, boolsK_eq l]
  | false :: l, k => by simp only [boolsK, boolsK_eq l]
def lsK (a : Array Bool) (k : Array Bool → Prop) : Prop := boolsK a.toList fun l => k l.toArray
theorem lsK_eq (a : Array Bool) (k : Array Bool → Prop) : lsK a k = k a := by
  unfold lsK
  rw [boolsK_eq]

/-- append, or what makes or copies a slice, or takes nil for one. -/
def isApp (o : Oper) : Bool :=
  match o.op with
  | .assign (.const (.slice none 0 0)) => true
  | .move (.const (.slice none 0 0)) => true
  | .call c => match c.callee with
    | .builtin .append => true
    | .builtin .copy => true
    | _ => false
  | .makeSlice _ _ _ => true
  | .box _ _ => true
  | _ => false
/-- An operation, its call included: what follows it (plainly told). -/
def operT0 (P : Program) (ov : List FuncId) (R : Orc) (opM : List AV → Oper → St → Option ((AV → St → Prop) → Prop)) (self : Self) (ops : Array Oper) (i : Nat) (tm : List AV) (σ : St) (K : List AV → St → Prop) : Prop :=
  match ops[i]? with
  | none => Err [110]
  | some o => match wantedA ops tm o with
    | none => Err [111]
    | some false => K (putA tm o.dst (lit undef)) σ
    | some true => match callA P tm o with
      | some (f, args) => self (.inr (.inr (.inr (.inr f)))) args σ fun out => match out with
          | (.ret, [v], σ') => K (putA tm o.dst v) σ'
          | _ => Err [112]
      | none => match (if R.pre && isApp o then opM tm o σ else none) with
        | some T => T fun v σ' => K (putA tm o.dst v) σ'
        | none => match opA P ov tm o σ with
          | .ok rs => allK (fun r : AV × St => K (putA tm o.dst r.1) r.2) rs
          | .error e => match takeQ P tm o σ with
            | some T => T fun v _ => K (putA tm o.dst v) σ
            | none => match opM tm o σ with
              | some T => T fun v σ' => K (putA tm o.dst v) σ'
              | none => Err (113 :: i :: e)

/-- An operation, its call included: what follows it. -/
def operT (P : Program) (ov : List FuncId) (R : Orc) (opM : List AV → Oper → St → Option ((AV → St → Prop) → Prop)) (self : Self) (ops : Array Oper) (i : Nat) (tm : List AV) (σ : St) (K : List AV → St → Prop) : Prop :=
  match ops[i]? with
  | none => Err [110]
  | some o => match wantedA ops tm o with
    | none => Err [111]
    | some false => putK tm o.dst (lit undef) fun tm' => K tm' σ
    | some true => match callA P tm o with
      | some (f, args) => self (.inr (.inr (.inr (.inr f)))) args σ fun out => match out with
          | (.ret, [v], σ') => stK σ' fun σ'' => putK tm o.dst v fun tm' => K tm' σ''
          | _ => Err [112]
      | none => match (if R.pre && isApp o then opM tm o σ else none) with
        | some T => T fun v σ' => stK σ' fun σ'' => putK tm o.dst v fun tm' => K tm' σ''
        | none => match opA P ov tm o σ with
          | .ok rs => allK (fun r : AV × St => pairK r fun v σ' => stK σ' fun σ'' => putK tm o.dst v fun tm' => K tm' σ'') rs
          | .error e => match takeQ P tm o σ with
            | some T => T fun v _ => putK tm o.dst v fun tm' => K tm' σ
            | none => match opM tm o σ with
              | some T => T fun v σ' => stK σ' fun σ'' => putK tm o.dst v fun tm' => K tm' σ''
              | none => Err (113 :: i :: e)

theorem operT_eq (P : Program) (ov : List FuncId) (R : Orc) (opM : List AV → Oper → St → Option ((AV → St → Prop) → Prop)) (self : Self) (ops : Array Oper) (i : Nat) (tm : List AV) (σ : St) (K : List AV → St → Prop) : operT P ov R opM self ops i tm σ K = operT0 P ov R opM self ops i tm σ K := by
  unfold operT operT0
  simp only [putK_eq, stK_eq, pairK_eq]

/-- The first that may be taken ahead of all others. -/
def takeT (P : Program) (ops : Array Oper) (listed : Array Bool) (tm : List AV) (σ : St) : List Nat → Option (Nat × QT)
  | [] => none
  | i :: l => match ops[i]? with
    | none => none
    | some o => if Region.free .any ops listed i then match wantedA ops tm o with
        | some false => some (i, fun K => K (lit undef) [])
        | some true => match takeQ P tm o σ with
          | some T => some (i, T)
          | none => takeT P ops listed tm σ l
        | none => takeT P ops listed tm σ l
      else takeT P ops listed tm σ l

/-! ### The first that has not come up, if it may be taken ahead of all others: told along the rows, so the kernel has less to do -/
def firstUn : List Bool → Nat → Option Nat
  | [], _ => none
  | true :: l, i => firstUn l (i + 1)
  | false :: _, i => some i
def readyL (listed : List Bool) (o : Oper) : Bool := o.after.toList.all fun e => !Region.binds .any e || listed.getD e.on false
def freeL (ops : Array Oper) (oi : Oper) (i : Nat) : List Oper → List Bool → Nat → Bool
  | [], _, _ => true
  | _ :: os, true :: l, j => freeL ops oi i os l (j + 1)
  | _ :: os, [], j => freeL ops oi i os [] (j + 1)
  | o :: os, false :: l, j => (Nat.beq j i || (o.after.toList.any (fun e => Region.binds .any e && Nat.beq e.on i) || oi.apart ops o)) && freeL ops oi i os l (j + 1)
def fastT (P : Program) (ops : Array Oper) (listed : Array Bool) (tm : List AV) (σ : St) : Option (Nat × QT) :=
  match firstUn listed.toList 0 with
  | none => none
  | some i => match ops.toList[i]? with
    | none => none
    | some o => if readyL listed.toList o && freeL ops o i ops.toList listed.toList 0 then match wantedA ops tm o with
        | some false => some (i, fun K => K (lit undef) [])
        | some true => match takeQ P tm o σ with
          | some T => some (i, T)
          | none => none
        | none => none
      else none
theorem firstUn_spec : ∀ {l : List Bool} {k i : Nat}, firstUn l k = some i → k ≤ i ∧ l[i - k]? = some false
  | [], _, _, h => by cases h
  | true :: l, k, i, h => by
    obtain ⟨h1, h2⟩ := firstUn_spec (l := l) h
    refine ⟨by omega, ?_⟩
    rw [show i - k = (i - (k + 1)) + 1 by omega]; simpa using h2
  | false :: l, k, i, h => by
    simp only [firstUn, Option.some.injEq] at h; subst h
    exact ⟨Nat.le_refl _, by simp⟩
theorem freeL_spec {ops : Array Oper} {oi : Oper} {i : Nat} : ∀ {os : List Oper} {l : List Bool} {k : Nat}, freeL ops oi i os l k = true → ∀ (j : Nat) (oj : Oper), os[j]? = some oj → (k + j == i || l.getD j true || (oj.after.any (fun e => Region.binds .any e && e.on == i) || oi.apart ops oj)) = true
  | [], _, _, _, j, oj, hj => by simp at hj
  | o :: os, true :: l, k, h, j, oj, hj => by
    cases j with
    | zero => simp
    | succ j =>
      have := freeL_spec (os := os) (l := l) h j oj (by simpa using hj)
      rw [show k + 1 + j = k + (j + 1) by omega] at this
      simpa using this
  | o :: os, [], k, h, j, oj, hj => by simp
  | o :: os, false :: l, k, h, j, oj, hj => by
    simp only [freeL, Bool.and_eq_true] at h
    cases j with
    | zero =>
      simp only [List.getElem?_cons_zero, Option.some.injEq] at hj; subst hj
      have h1 := h.1
      simp only [Bool.or_eq_true, Nat.beq_eq] at h1
      rcases h1 with h1 | h1 | h1
      · simp [h1]
      · simp only [Bool.or_eq_true]
        right; left
        rw [← Array.any_toList]
        obtain ⟨e, he, hb⟩ := List.any_eq_true.1 h1
        simp only [Bool.and_eq_true, Nat.beq_eq] at hb
        exact List.any_eq_true.2 ⟨e, he, by simp [hb.1, hb.2]⟩
      · simp [h1]
    | succ j =>
      have := freeL_spec (os := os) (l := l) h.2 j oj (by simpa using hj)
      rw [show k + 1 + j = k + (j + 1) by omega] at this
      simpa using this
theorem getD_toList (listed : Array Bool) (j : Nat) (d : Bool) : listed.toList.getD j d = listed.getD j d := by
  rw [List.getD_eq_getElem?_getD, Array.getElem?_toList, ← Array.getD_eq_getD_getElem?]
theorem freeL_free {ops : Array Oper} {oi : Oper} {i : Nat} {listed : Array Bool} (hi : ops[i]? = some oi) (h : freeL ops oi i ops.toList listed.toList 0 = true) : Region.free .any ops listed i = true := by
  unfold Region.free
  rw [hi]
  simp only [List.all_eq_true, List.mem_range]
  intro j hj
  have hoj : ops.toList[j]? = some ops[j] := by rw [Array.getElem?_toList, Array.getElem?_eq_getElem hj]
  have h1 := freeL_spec h j _ hoj
  rw [Nat.zero_add, getD_toList] at h1
  rw [Array.getElem?_eq_getElem hj]
  exact h1
theorem readyL_ready {ops : Array Oper} {o : Oper} {i : Nat} {listed : Array Bool} (hi : ops[i]? = some o) (hu : listed.getD i true = false) (h : readyL listed.toList o = true) : i ∈ Region.ready .any ops listed := by
  refine mem_ready.2 ⟨hu, o, hi, fun e he hb => ?_⟩
  unfold readyL at h
  have := List.all_eq_true.1 h e (Array.mem_toList_iff.2 he)
  rw [getD_toList] at this
  simpa [hb] using this

def thenK (Q : Out → Prop) (k : List AV → St → Prop) : Out → Prop
  | (.normal, tm, σ) => k tm σ
  | o => Q o

def endA' (P : Program) (fn : Func) (K : Out → Prop) (out : Out) : Prop :=
  match endA P fn out with
  | .ok l => allK (fun r : AV × St => K (.ret, [r.1], r.2)) l
  | .error e => Err (126 :: e)

def stepT (P : Program) (ov : List FuncId) (R : Orc) (opM : List AV → Oper → St → Option ((AV → St → Prop) → Prop)) (self : Self) (t : Task) (tm : List AV) (σ : St) (Q : Out → Prop) : Prop :=
  match t with
  | .inl .skip => Q (.normal, tm, σ)
  | .inl (.label _) => Q (.normal, tm, σ)
  | .inl (.exit id) => Q (.exit id, tm, σ)
  | .inl .ret => Q (.ret, tm, σ)
  | .inl (.seq a b) => match R.meet a tm σ with
    | some i => self (.inl a) tm σ (thenK Q fun tm' σ' => atHead i tm σ tm' σ' i.I) ∧ avsK (renTm (renAt σ i tm σ) 0 tm) fun h => allK (fun t => ∀ x : i.X, i.I t x → self (.inl b) (setAll h (i.val t x)) (i.st t x (renSt (renAt σ i tm σ) tm.length σ)) Q) i.tags
    | none => self (.inl a) tm σ (thenK Q fun tm' σ' => self (.inl b) tm' σ' Q)
  | .inl (.cond c a b) => match evalA tm c with
    | .inl (.inl (.inl (.bool true))) => self (.inl a) tm σ Q
    | .inl (.inl (.inl (.bool false))) => self (.inl b) tm σ Q
    | _ => Err [120]
  | .inl (.block id a) => self (.inl a) tm σ fun out => match out with
      | (.exit id', tm', σ') => if id' == id then Q (.normal, tm', σ') else Q (.exit id', tm', σ')
      | o => Q o
  | .inl (.loop a) => match R.inv a tm σ with
    | some i => atHead i tm σ tm σ i.I ∧ avsK (renTm (renAt σ i tm σ) 0 tm) fun h => allK (fun t => ∀ x : i.X, i.I t x → self (.inl a) (setAll h (i.val t x)) (i.st t x (renSt (renAt σ i tm σ) tm.length σ)) (thenK Q fun tm' σ' => atHead i tm σ tm' σ' fun t' x' => i.I t' x' ∧ i.m t' x' < i.m t x)) i.tags
    | none => self (.inr (.inl a)) tm σ Q
  | .inl (.region _ ops false) => self (.inr (.inr (.inl (ops, List.range ops.size)))) tm σ Q
  | .inl (.region _ ops true) => if P.follows .mixedOrders && Region.noSelect ops then self (.inr (.inr (.inr (.inl (ops, Array.replicate ops.size false, []))))) tm σ Q else Err [121]
  | .inl _ => Err [122]
  | .inr (.inl a) => self (.inl a) tm σ (thenK Q fun tm' σ' => self (.inr (.inl a)) tm' σ' Q)
  | .inr (.inr (.inl (_, []))) => Q (.normal, tm, σ)
  | .inr (.inr (.inl (ops, i :: l))) => operT P ov R opM self ops i tm σ fun tm' σ' => self (.inr (.inr (.inl (ops, l)))) tm' σ' Q
  | .inr (.inr (.inr (.inl (ops, listed, hs)))) => match fastT P ops listed tm σ with
    | some (i, T) => if hs.any (fun p => (place p.2 i).isSome) then Err [156] else T fun v h => putK tm ((ops[i]?).bind (·.dst)) v fun tm' => lsK (listed.setIfInBounds i true) fun ls => self (.inr (.inr (.inr (.inl (ops, ls, addH ops i h hs))))) tm' σ Q
    | none => match Region.ready .any ops listed with
      | [] => Q (.normal, tm, σ)
      | rs => match takeT P ops listed tm σ rs with
        | some (i, T) => if hs.any (fun p => (place p.2 i).isSome) then Err [156] else T fun v h => putK tm ((ops[i]?).bind (·.dst)) v fun tm' => lsK (listed.setIfInBounds i true) fun ls => self (.inr (.inr (.inr (.inl (ops, ls, addH ops i h hs))))) tm' σ Q
        | none => allK (fun i => operT P ov R opM self ops i tm σ fun tm' σ' => heldL σ' (listed.setIfInBounds i true) (lsK (listed.setIfInBounds i true) fun ls => self (.inr (.inr (.inr (.inl (ops, ls, hs))))) tm' σ' Q) hs) rs
  | .inr (.inr (.inr (.inr f))) => match R.con f tm σ with
    | some C => C fun v σ' => Q (.ret, [v], σ')
    | none => match P.funcs[f]? with
      | none => Err [124]
      | some fn => match fn.body with
        | none => Err [125]
        | some c => self (.inl c) (tm ++ List.replicate (fn.ntmps - tm.length) (lit undef)) σ (endA' P fn Q)

/-- The first region of a piece of code; the slots that it writes. -/
def firstReg : Code → Option Nat
  | .region id _ _ => some id
  | .seq a b => match firstReg a with
    | some x => some x
    | none => firstReg b
  | .cond _ a b => match firstReg a with
    | some x => some x
    | none => firstReg b
  | .block _ a => firstReg a
  | .loop a => firstReg a
  | .scope a => firstReg a
  | _ => none
def dsts : Code → List Nat
  | .region _ ops _ => ops.toList.filterMap fun o => o.dst
  | .seq a b => dsts a ++ dsts b
  | .cond _ a b => dsts a ++ dsts b
  | .block _ a => dsts a
  | .loop a => dsts a
  | .scope a => dsts a
  | _ => []
/-- All slots that are written, but these. -/
def wrBut (l : List Nat) (c : Code) : List Nat := (dsts c).filter fun t => (place l t).isNone
def noRen : List AV → St → List Nat × List Nat := fun _ _ => ([], [])
def boolAt (t : Nat) : List AV → St → Nat := fun tm _ =>
  match tm.getD t (lit undef) with
  | .inl (.inl (.inl (.bool true))) => 1
  | _ => 0
def tagB (t : Nat) : AV := lit (.bool (Nat.beq t 1))
def slotI (tm : List AV) (t : Nat) : Int :=
  match intX (tm.getD t (lit undef)) with
  | some (_, z) => z
  | none => 0
/-- The numbers that a slice of an array in a slot has. -/
def slotL (tm : List AV) (t : Nat) (σ : St) : List Int :=
  match aslX (tm.getD t (lit undef)) with
  | some s => match getArr σ s.a with
    | some b => (b.l.drop s.o).take s.n
    | none => []
  | none => []
def slotB (tm : List AV) (t : Nat) : Bool :=
  match tm.getD t (lit undef) with
  | .inl (.inl (.inl (.bool b))) => b
  | _ => false
def xi (k : IntKind) (z : Int) : AV := cell (xintC k z)

def goT (P : Program) (ov : List FuncId) (R : Orc) (opM : List AV → Oper → St → Option ((AV → St → Prop) → Prop)) : Nat → Self
  | 0 => fun _ _ _ _ => Err [130]
  | n + 1 => stepT P ov R opM (goT P ov R opM n)

theorem goT_zero (P : Program) (ov : List FuncId) (R : Orc) (opM : List AV → Oper → St → Option ((AV → St → Prop) → Prop)) : goT P ov R opM 0 = fun _ _ _ _ => Err [130] := rfl
theorem goT_succ (P : Program) (ov : List FuncId) (R : Orc) (opM : List AV → Oper → St → Option ((AV → St → Prop) → Prop)) (n : Nat) : goT P ov R opM (n + 1) = stepT P ov R opM (goT P ov R opM n) := rfl
attribute [irreducible] goT

def emptySt : St := ⟨[], [], 0, [], 0⟩
def noOrc : Orc := ⟨fun _ _ _ => none, fun _ _ _ => none, fun _ _ _ => none, false⟩
end Reck
