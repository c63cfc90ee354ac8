/- Layer 3: what the loops keep, and what is known of its functions. No condition. -/
import Derived.Test.YtpmnioadbkhpoaaRkF
import Derived.Test.YtpmnioadbkhpoaaProg
set_option linter.unusedVariables false
namespace Go.Proofs.Ytpmnioadbkhpoaa
open Go Reck

theorem names : namesOk Try.prog = true := by kernel_rfl

def slotS (tm : List AV) (t : Nat) : ASl :=
  match aslX (tm.getD t (lit undef)) with
  | some s => s
  | none => ⟨0, 0, 0, 0⟩
def slotA (tm : List AV) (t : Nat) (σ : St) : List Int :=
  match getArr σ (slotS tm t).a with
  | some b => b.l
  | none => []

/-- Adding bytes as numbers of sixteen bits. -/
def fold (p : Bool × Int) (l : List Int) : Bool × Int := l.foldl (fun p c => (!p.1, p.2 + (if p.1 then c * 256 else c))) p
structure U.netI (h0 : Bool) (s0 : Int) (L : List Int) (o n : Nat) (t : Nat) (k s : Int) : Prop where
  out : ∃ j : Nat, k = j ∧ j ≤ n ∧ fold (h0, s0) (((L.drop o).take n).take j) = (Nat.beq t 1, s)
structure U.downI (s0 s : Int) : Prop where
  out : 0 ≤ s ∧ s % 65535 = s0 % 65535 ∧ (s = 0 ↔ s0 = 0) ∧ s ≤ s0
structure U.refI (L : List Int) (o n : Nat) (t : Nat) (i s : Int) : Prop where
  out : ∃ j : Nat, i = 2 * j ∧ j ≤ 200 ∧ s = (fold (true, 0) (((L.drop o).take n).take (2 * j))).2 % 65535 ∧ (t = 1 ↔ 0 < (fold (true, 0) (((L.drop o).take n).take (2 * j))).2)

def netInv (c : Code) (tm : List AV) (σ : St) : Inv where
  X := Int × Int
  tags := [0, 1]
  tag := boolAt 4
  J := wrBut [17, 3, 4] c
  val t x := [(17, xi .i64 x.1), (3, xi .u64 x.2), (4, tagB t)]
  st _ _ σ := σ
  I t x := U.netI (slotB tm 4) (slotI tm 3) (slotA tm 15 σ) (slotS tm 15).o (slotS tm 15).n t x.1 x.2
  m _ x := ((slotS tm 15).n - x.1).toNat
  ren := noRen
def downInv (c : Code) (tm : List AV) : Inv where
  X := Int
  tags := [0]
  tag _ _ := 0
  J := wrBut [3] c
  val _ x := [(3, xi .u64 x)]
  st _ _ σ := σ
  I _ x := U.downI (slotI tm 3) x
  m _ x := x.toNat
  ren := noRen
def refInv (c : Code) (tm : List AV) (σ : St) : Inv where
  X := Int × Int
  tags := [0, 1]
  tag := boolAt 4
  J := wrBut [5, 3, 4] c
  val t x := [(5, xi .i64 x.1), (3, xi .i64 x.2), (4, tagB t)]
  st _ _ σ := σ
  I t x := U.refI (slotA tm 0 σ) (slotS tm 0).o (slotS tm 0).n t x.1 x.2
  m _ x := (1000 - x.1).toNat
  ren := noRen
def isAsl (v : AV) : Bool := (aslX v).isSome
def isXint (v : AV) : Bool :=
  match v with
  | .inl (.inl (.inr (.inr (.inr (.inr (.inr (.inr (.inl _)))))))) => true
  | _ => false
def inv1 (c : Code) (tm : List AV) (σ : St) : Option Inv :=
  match tm.length, firstReg c with
  | 45, some 7 => if isAsl (tm.getD 15 (lit undef)) then some (netInv c tm σ) else none
  | 45, some 15 => if isXint (tm.getD 3 (lit undef)) then some (downInv c tm) else none
  | 49, some 4 => if isAsl (tm.getD 0 (lit undef)) then some (refInv c tm σ) else none
  | _, _ => none
def tbl0 : Tbl := fun _ _ _ => none
theorem tbl0_ok : TblOk Try.prog tbl0 := by intro f tm σ C h; cases h
abbrev run0 (f : Nat) (args : List AV) (σ : St) (K : AV → St → Prop) : Prop := goT Try.prog [] (orcOf inv1 tbl0) (opMem Try.prog) 3000 (.inr (.inr (.inr (.inr f)))) args σ (retC σ K)
def bs (L : List Int) (cap : Nat) (ro : Bool) : ABlk := ⟨5, .u8, L, cap, ro⟩
def ar (l : List ABlk) : St := ⟨[], [], 0, l.map some, 0⟩
end Go.Proofs.Ytpmnioadbkhpoaa
