/- Layer 3: what the words' functions come to. No condition. -/
import Derived.Test.YtpmnioadbkhpoaaSCrc
namespace Go.Proofs.Ytpmnioadbkhpoaa
open Go Reck
set_option maxRecDepth 100000
set_option linter.unusedVariables false
/-- A word turned to the left by one place, and by some. -/
def rot1 (v : Int) : Int := IntKind.wrap .u64 (IntKind.wrap .u64 (v * 2) + v / 9223372036854775808)
def rotN : Nat → Int → Int
  | 0, v => v
  | n + 1, v => rot1 (rotN n v)
def U.rot (w k : Int) : Int := rotN k.toNat w
structure U.turnI (w0 k : Int) (i w : Int) : Prop where
  out : ∃ j : Nat, i = j ∧ (j : Int) ≤ k ∧ w = rotN j w0 ∧ 0 ≤ w ∧ w ≤ 18446744073709551615
def turnInv (c : Code) (tm : List AV) : Inv where
  X := Int × Int
  tags := [0]
  tag _ _ := 0
  J := wrBut [5, 0] c
  val _ x := [(5, xi .i64 x.1), (0, xi .u64 x.2)]
  st _ _ σ := σ
  I _ x := U.turnI (slotI tm 0) (slotI tm 1) x.1 x.2
  m _ x := (slotI tm 1 - x.1).toNat
  ren := noRen
def inv4 (c : Code) (tm : List AV) (σ : St) : Option Inv :=
  match tm.length, firstReg c with
  | 17, some 2 => if isXint (tm.getD 0 (lit undef)) then some (turnInv c tm) else none
  | _, _ => none
abbrev runT (tbl : Tbl) (f : Nat) (args : List AV) (σ : St) (K : AV → St → Prop) : Prop := goT Try.prog [] (orcOf inv4 tbl) (opMem Try.prog) 3000 (.inr (.inr (.inr (.inr f)))) args σ (retC σ K)
def tRot : Tbl := fun f args σ => if f == 21 || f == 23 then match args, σ with
    | [a, b], ⟨[], [], 0, [], 0⟩ => match intX a, intX b with
      | some (.u64, w), some (.i64, k) => some fun K => ((0 ≤ w ∧ w ≤ 18446744073709551615) ∧ 0 < k ∧ k < 64) ∧ ∀ z : Int, z = U.rot w k → K (xi .u64 z) emptySt
      | _, _ => none
    | _, _ => none
  else none
theorem rot_vc (K : AV → St → Prop) (w k : Int) : (runT tbl0 21 [xi .u64 w, xi .i64 k] emptySt K) = (∀ (z0 : Int), z0 = IntKind.wrap IntKind.u64 k → ∀ (z1 : Int), z1 = andI IntKind.u64 z0 (63 : Int) → (0 : Int) ≤ z1 ∧ ∀ (z2 : Int), z2 = shlI IntKind.u64 w z1 → ∀ (z3 : Int), z3 = IntKind.wrap IntKind.u64 ((64 : Int) - z1) → (0 : Int) ≤ z3 ∧ ∀ (z4 : Int), z4 = shrI IntKind.u64 w z3 → ∀ (z5 : Int), z5 = orI IntKind.u64 z2 z4 → K (Sum.inl (Sum.inl (Sum.inr (Sum.inr (Sum.inr (Sum.inr (Sum.inr (Sum.inr (Sum.inl (IntKind.u64, z5)))))))))) { heap := [], ints := [], opqs := (0 : Nat), arrs := [], junks := (0 : Nat) }) := by kernel_rfl
theorem turn_vc (K : AV → St → Prop) (w k : Int) : (runT tbl0 23 [xi .u64 w, xi .i64 k] emptySt K) = ((∃ (y0 : Int × Int), w = Prod.snd y0 ∧ k = k ∧ (0 : Int) = Prod.fst y0 ∧ U.turnI w k (Prod.fst y0) (Prod.snd y0)) ∧ ∀ (x1 : Int × Int), U.turnI w k (Prod.fst x1) (Prod.snd x1) → (Prod.fst x1 < k → ∀ (z2 : Int), z2 = IntKind.wrap IntKind.u64 (Prod.snd x1 * (2 : Int)) → ¬(9223372036854775808 : Int) = (0 : Int) ∧ ∀ (z3 : Int), z3 = IntKind.wrap IntKind.u64 (Int.tdiv (Prod.snd x1) (9223372036854775808 : Int)) → ∀ (z4 : Int), z4 = IntKind.wrap IntKind.u64 (z2 + z3) → ∀ (z5 : Int), z5 = IntKind.wrap IntKind.i64 (Prod.fst x1 + (1 : Int)) → ∃ (y6 : Int × Int), z4 = Prod.snd y6 ∧ k = k ∧ z5 = Prod.fst y6 ∧ U.turnI w k (Prod.fst y6) (Prod.snd y6) ∧ Int.toNat (k - Prod.fst y6) < Int.toNat (k - Prod.fst x1)) ∧ (¬Prod.fst x1 < k → K (Sum.inl (Sum.inl (Sum.inr (Sum.inr (Sum.inr (Sum.inr (Sum.inr (Sum.inr (Sum.inl (IntKind.u64, Prod.snd x1)))))))))) { heap := [], ints := [], opqs := (0 : Nat), arrs := [], junks := (0 : Nat) })) := by kernel_rfl
theorem mix_vc (K : AV → St → Prop) (x y k : Int) : (runT tRot 22 [xi .u64 x, xi .u64 y, xi .i64 k] emptySt K) = (∀ (z0 : Int), z0 = IntKind.wrap IntKind.u64 (x + y) → (((0 : Int) ≤ y ∧ y ≤ (18446744073709551615 : Int)) ∧ (0 : Int) < k ∧ k < (64 : Int)) ∧ ∀ (z1 : Int), z1 = U.rot y k → ∀ (z2 : Int), z2 = xorI IntKind.u64 z1 z0 → K (Sum.inr [Sum.inl (Sum.inr (Sum.inr (Sum.inr (Sum.inr (Sum.inr (Sum.inr (Sum.inl (IntKind.u64, z0)))))))), Sum.inl (Sum.inr (Sum.inr (Sum.inr (Sum.inr (Sum.inr (Sum.inr (Sum.inl (IntKind.u64, z2))))))))]) { heap := [], ints := [], opqs := (0 : Nat), arrs := [], junks := (0 : Nat) }) := by kernel_rfl
end Go.Proofs.Ytpmnioadbkhpoaa
