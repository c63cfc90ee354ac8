/- A reckoner of calls: how the pieces of a text are run. No condition. -/
import Derived.Test.YthfgkojombhppaaRkDef
set_option linter.unusedVariables false
namespace Reck
open Go

def sameV : Value → Value → Bool
  | .bool a, .bool b => a == b
  | .int k a, .int l b => decide (k = l) && decide (a = b)
  | .string a, .string b => decide (a.data.toList = b.data.toList)
  | .pointer none, .pointer none => true
  | .slice none n c, .slice none m d => n == m && c == d
  | .nilFunc, .nilFunc => true
  | .nilIface, .nilIface => true
  | _, _ => false
def sameC : Cell → Cell → Bool
  | .inl v, .inl u => sameV v u
  | .inr (.inl p), .inr (.inl q) => p.1 == q.1 && p.2 == q.2
  | .inr (.inr (.inl s)), .inr (.inr (.inl t)) => s.b == t.b && s.o == t.o && s.n == t.n && decide (s.j = t.j) && s.c == t.c
  | .inr (.inr (.inr (.inl p))), .inr (.inr (.inr (.inl q))) => decide (p.1 = q.1) && p.2 == q.2
  | .inr (.inr (.inr (.inr (.inr i)))), .inr (.inr (.inr (.inr (.inr j)))) => i == j
  | _, _ => false

abbrev Held := List (Nat × Nat × Cell)
def heldOk (σ : St) (hs : Held) : Bool :=
  hs.all fun h => match getBlk σ h.1 with
    | some x => match x.cells[h.2.1]? with
      | some c => sameC c h.2.2
      | none => false
    | none => false

/-- What is to be run: code, a loop's rounds, a region in its order, a region in any order, a call. -/
abbrev Task := Code ⊕ (Code ⊕ ((Array Oper × List Nat) ⊕ ((Array Oper × Array Bool × Held) ⊕ FuncId)))
abbrev Self := Task → List AV → St → Rs (List Out)

/-- An operation, its call included: the frames behind it. -/
def operT (P : Program) (ov : List FuncId) (self : Self) (ops : Array Oper) (i : Nat) (tm : List AV) (σ : St) : Rs (List (List AV × St)) :=
  match ops[i]? with
  | none => .error [110]
  | some o => match wantedA ops tm o with
    | none => .error [111]
    | some false => .ok [(putA tm o.dst (lit undef), σ)]
    | some true => match callA P tm o with
      | some (f, args) => thn (self (.inr (.inr (.inr (.inr f)))) args σ) fun outs => atAll (fun (out : Out) => match out with
          | (.ret, [v], σ') => .ok [(putA tm o.dst v, σ')]
          | _ => .error [112]) outs
      | none => match opA P ov tm o σ with
        | .ok rs => .ok (rs.map fun r => (putA tm o.dst r.1, r.2))
        | .error e => .error (113 :: i :: e)

/-- The first that may be taken ahead of all others. -/
def takeT (P : Program) (ops : Array Oper) (listed : Array Bool) (tm : List AV) (σ : St) : List Nat → Option (Nat × AV × Held)
  | [] => none
  | i :: l => match ops[i]? with
    | none => none
    | some o => if Region.free .any ops listed i then match wantedA ops tm o with
        | some false => some (i, lit undef, [])
        | some true => match takeA P tm o σ with
          | some (v, hs) => some (i, v, hs)
          | none => takeT P ops listed tm σ l
        | none => takeT P ops listed tm σ l
      else takeT P ops listed tm σ l

def stepT (P : Program) (ov : List FuncId) (self : Self) (t : Task) (tm : List AV) (σ : St) : Rs (List Out) :=
  match t with
  | .inl .skip => .ok [(.normal, tm, σ)]
  | .inl (.label _) => .ok [(.normal, tm, σ)]
  | .inl (.exit id) => .ok [(.exit id, tm, σ)]
  | .inl .ret => .ok [(.ret, tm, σ)]
  | .inl (.seq a b) => thn (self (.inl a) tm σ) fun outs => atAll (fun (out : Out) => match out with
      | (.normal, tm', σ') => self (.inl b) tm' σ'
      | o => .ok [o]) outs
  | .inl (.cond c a b) => match evalA tm c with
    | .inl (.inl (.inl (.bool true))) => self (.inl a) tm σ
    | .inl (.inl (.inl (.bool false))) => self (.inl b) tm σ
    | _ => .error [120]
  | .inl (.block id a) => thn (self (.inl a) tm σ) fun outs => .ok (outs.map fun out => match out with
      | (.exit id', tm', σ') => if id' = id then (.normal, tm', σ') else (.exit id', tm', σ')
      | o => o)
  | .inl (.loop a) => self (.inr (.inl a)) tm σ
  | .inl (.region _ ops false) => self (.inr (.inr (.inl (ops, List.range ops.size)))) tm σ
  | .inl (.region _ ops true) => if P.follows .mixedOrders && Region.noSelect ops then self (.inr (.inr (.inr (.inl (ops, Array.replicate ops.size false, []))))) tm σ else .error [121]
  | .inl _ => .error [122]
  | .inr (.inl a) => thn (self (.inl a) tm σ) fun outs => atAll (fun (out : Out) => match out with
      | (.normal, tm', σ') => self (.inr (.inl a)) tm' σ'
      | o => .ok [o]) outs
  | .inr (.inr (.inl (_, []))) => .ok [(.normal, tm, σ)]
  | .inr (.inr (.inl (ops, i :: l))) => thn (operT P ov self ops i tm σ) fun rs => atAll (fun (r : List AV × St) => self (.inr (.inr (.inl (ops, l)))) r.1 r.2) rs
  | .inr (.inr (.inr (.inl (ops, listed, hs)))) => match Region.ready .any ops listed with
    | [] => .ok [(.normal, tm, σ)]
    | rs => match takeT P ops listed tm σ rs with
      | some (i, v, h) => self (.inr (.inr (.inr (.inl (ops, listed.setIfInBounds i true, h ++ hs))))) (putA tm ((ops[i]?).bind (·.dst)) v) σ
      | none => atAll (fun i => thn (operT P ov self ops i tm σ) fun ss => atAll (fun (r : List AV × St) =>
          if heldOk r.2 hs then self (.inr (.inr (.inr (.inl (ops, listed.setIfInBounds i true, hs))))) r.1 r.2 else .error [123, i]) ss) rs
  | .inr (.inr (.inr (.inr f))) => match P.funcs[f]? with
    | none => .error [124]
    | some fn => match fn.body with
      | none => .error [125]
      | some c => match self (.inl c) (tm ++ List.replicate (fn.ntmps - tm.length) (lit undef)) σ with
        | .ok outs => match atAll (endA P fn) outs with
          | .ok rs => .ok (rs.map fun r => (.ret, [r.1], r.2))
          | .error e => .error (126 :: f :: e)
        | .error e => .error (127 :: f :: e)

def goT (P : Program) (ov : List FuncId) : Nat → Self
  | 0 => fun _ _ _ => .error [130]
  | n + 1 => stepT P ov (goT P ov n)

def emptySt : St := ⟨[], [], 0⟩
/-- Does a call of f with these arguments always answer true? -/
def trueT (P : Program) (ov : List FuncId) (n f : Nat) (args : List AV) (σ : St) : Rs Bool :=
  thn (goT P ov n (.inr (.inr (.inr (.inr f)))) args σ) fun outs => .ok (outs.all fun out => match out with
    | (.ret, [.inl (.inl (.inl (.bool true)))], _) => true
    | _ => false)
end Reck
