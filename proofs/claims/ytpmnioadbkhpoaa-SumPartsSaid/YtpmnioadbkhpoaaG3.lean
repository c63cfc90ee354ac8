/- Layer 3: what the words' rounds come to. No condition. -/
import Derived.Test.YtpmnioadbkhpoaaG2
namespace Go.Proofs.Ytpmnioadbkhpoaa
open Go Reck
set_option maxRecDepth 100000
set_option linter.unusedVariables false
abbrev W4 := Int × Int × Int × Int
def w4 (v : W4) : List Cell := [xintC .u64 v.1, xintC .u64 v.2.1, xintC .u64 v.2.2.1, xintC .u64 v.2.2.2]
def bl4 (t : Nat) (v : W4) : Option Blk := some ⟨t, w4 v, none, 4, false⟩
def st4 (v : W4) : St := ⟨[bl4 43 v], [], 0, [], 0⟩
def ptr0 : AV := cell (.inr (.inl (0, 0)))
def addW (a b : Int) : Int := IntKind.wrap .u64 (a + b)
def rnd (v : W4) : W4 :=
  let a1 := addW v.1 v.2.1
  let b1 := xorI .u64 (U.rot v.2.1 13) a1
  let a2 := U.rot a1 32
  let c1 := addW v.2.2.1 v.2.2.2
  let d1 := xorI .u64 (U.rot v.2.2.2 16) c1
  let a3 := addW a2 d1
  let d2 := xorI .u64 (U.rot d1 21) a3
  let c2 := addW c1 b1
  let b2 := xorI .u64 (U.rot b1 17) c2
  (a3, b2, U.rot c2 32, d2)
def rndN : Nat → W4 → W4
  | 0, v => v
  | n + 1, v => rnd (rndN n v)
def U.rn (v : W4) (n : Int) : W4 := rndN n.toNat v
def inW (a : Int) : Prop := 0 ≤ a ∧ a ≤ 18446744073709551615
structure U.in4 (v : W4) : Prop where
  out : inW v.1 ∧ inW v.2.1 ∧ inW v.2.2.1 ∧ inW v.2.2.2
structure U.rndI (v : W4) (n : Int) (i : Int) (x : W4) : Prop where
  out : ∃ j : Nat, i = j ∧ (j : Int) ≤ n ∧ x = rndN j v ∧ U.in4 x
def xX : Cell → Int
  | .inr (.inr (.inr (.inr (.inr (.inr (.inl (_, z))))))) => z
  | _ => 0
def blkW (σ : St) : W4 := match σ.heap with
  | some ⟨_, [a, b, c, d], _, _, _⟩ :: _ => (xX a, xX b, xX c, xX d)
  | _ => (0, 0, 0, 0)
def setW (x : W4) (σ : St) : St := match σ.heap with
  | some ⟨t, _, j, c, z⟩ :: l => ⟨some ⟨t, w4 x, j, c, z⟩ :: l, σ.ints, σ.opqs, σ.arrs, σ.junks⟩
  | _ => σ
def rndInv (c : Code) (tm : List AV) (σ : St) (n : Nat) : Inv where
  X := Int × W4
  tags := [0]
  tag _ _ := 0
  J := wrBut [5] c
  val _ x := [(5, xi .i64 x.1)]
  st _ x σ := setW x.2 σ
  I _ x := U.rndI (blkW σ) (slotI tm n) x.1 x.2
  m _ x := (slotI tm n - x.1).toNat
  ren := noRen
def inv5 (c : Code) (tm : List AV) (σ : St) : Option Inv :=
  match tm.length, firstReg c with
  | 120, some 1 => if isXint (tm.getD 4 (lit undef)) then some (rndInv c tm σ 4) else none
  | 57, some 2 => if isXint (tm.getD 1 (lit undef)) then some (rndInv c tm σ 1) else none
  | _, _ => none
abbrev runR (tbl : Tbl) (f : Nat) (args : List AV) (σ : St) (K : AV → St → Prop) : Prop := goT Try.prog [] (orcOf inv5 tbl) (opMem Try.prog) 3000 (.inr (.inr (.inr (.inr f)))) args σ (retC σ K)
def rowW (v : W4) : AV := .inl (.inr (w4 v))
theorem rounds_vc (K : AV → St → Prop) (v : W4) (n : Int) : (runR tRot 19 [ptr0, xi .i64 n] (st4 v) K) = ((∃ (y0 : Int × W4), n = n ∧ n = n ∧ (0 : Int) = Prod.fst y0 ∧ Prod.fst v = Prod.fst (Prod.snd y0) ∧ Prod.fst (Prod.snd v) = Prod.fst (Prod.snd (Prod.snd y0)) ∧ Prod.fst (Prod.snd (Prod.snd v)) = Prod.fst (Prod.snd (Prod.snd (Prod.snd y0))) ∧ Prod.snd (Prod.snd (Prod.snd v)) = Prod.snd (Prod.snd (Prod.snd (Prod.snd y0))) ∧ U.rndI (Prod.fst v, Prod.fst (Prod.snd v), Prod.fst (Prod.snd (Prod.snd v)), Prod.snd (Prod.snd (Prod.snd v))) n (Prod.fst y0) (Prod.snd y0)) ∧ ∀ (x1 : Int × W4), U.rndI (Prod.fst v, Prod.fst (Prod.snd v), Prod.fst (Prod.snd (Prod.snd v)), Prod.snd (Prod.snd (Prod.snd v))) n (Prod.fst x1) (Prod.snd x1) → (Prod.fst x1 < n → ∀ (z2 : Int), z2 = IntKind.wrap IntKind.u64 (Prod.fst (Prod.snd x1) + Prod.fst (Prod.snd (Prod.snd x1))) → (((0 : Int) ≤ Prod.fst (Prod.snd (Prod.snd x1)) ∧ Prod.fst (Prod.snd (Prod.snd x1)) ≤ (18446744073709551615 : Int)) ∧ (0 : Int) < (13 : Int) ∧ (13 : Int) < (64 : Int)) ∧ ∀ (z3 : Int), z3 = U.rot (Prod.fst (Prod.snd (Prod.snd x1))) (13 : Int) → z2 = z2 ∧ Prod.fst (Prod.snd (Prod.snd x1)) = Prod.fst (Prod.snd (Prod.snd x1)) ∧ ∀ (z4 : Int), z4 = xorI IntKind.u64 z3 z2 → (((0 : Int) ≤ z2 ∧ z2 ≤ (18446744073709551615 : Int)) ∧ (0 : Int) < (32 : Int) ∧ (32 : Int) < (64 : Int)) ∧ ∀ (z5 : Int), z5 = U.rot z2 (32 : Int) → z2 = z2 ∧ ∀ (z6 : Int), z6 = IntKind.wrap IntKind.u64 (Prod.fst (Prod.snd (Prod.snd (Prod.snd x1))) + Prod.snd (Prod.snd (Prod.snd (Prod.snd x1)))) → (((0 : Int) ≤ Prod.snd (Prod.snd (Prod.snd (Prod.snd x1))) ∧ Prod.snd (Prod.snd (Prod.snd (Prod.snd x1))) ≤ (18446744073709551615 : Int)) ∧ (0 : Int) < (16 : Int) ∧ (16 : Int) < (64 : Int)) ∧ ∀ (z7 : Int), z7 = U.rot (Prod.snd (Prod.snd (Prod.snd (Prod.snd x1)))) (16 : Int) → z6 = z6 ∧ Prod.snd (Prod.snd (Prod.snd (Prod.snd x1))) = Prod.snd (Prod.snd (Prod.snd (Prod.snd x1))) ∧ ∀ (z8 : Int), z8 = xorI IntKind.u64 z7 z6 → ∀ (z9 : Int), z9 = IntKind.wrap IntKind.u64 (z5 + z8) → (((0 : Int) ≤ z8 ∧ z8 ≤ (18446744073709551615 : Int)) ∧ (0 : Int) < (21 : Int) ∧ (21 : Int) < (64 : Int)) ∧ ∀ (z10 : Int), z10 = U.rot z8 (21 : Int) → z9 = z9 ∧ z8 = z8 ∧ ∀ (z11 : Int), z11 = xorI IntKind.u64 z10 z9 → ∀ (z12 : Int), z12 = IntKind.wrap IntKind.u64 (z6 + z4) → (((0 : Int) ≤ z4 ∧ z4 ≤ (18446744073709551615 : Int)) ∧ (0 : Int) < (17 : Int) ∧ (17 : Int) < (64 : Int)) ∧ ∀ (z13 : Int), z13 = U.rot z4 (17 : Int) → z12 = z12 ∧ z4 = z4 ∧ ∀ (z14 : Int), z14 = xorI IntKind.u64 z13 z12 → (((0 : Int) ≤ z12 ∧ z12 ≤ (18446744073709551615 : Int)) ∧ (0 : Int) < (32 : Int) ∧ (32 : Int) < (64 : Int)) ∧ ∀ (z15 : Int), z15 = U.rot z12 (32 : Int) → z12 = z12 ∧ ∀ (z16 : Int), z16 = IntKind.wrap IntKind.i64 (Prod.fst x1 + (1 : Int)) → ∃ (y17 : Int × W4), n = n ∧ n = n ∧ z16 = Prod.fst y17 ∧ z9 = Prod.fst (Prod.snd y17) ∧ z14 = Prod.fst (Prod.snd (Prod.snd y17)) ∧ z15 = Prod.fst (Prod.snd (Prod.snd (Prod.snd y17))) ∧ z11 = Prod.snd (Prod.snd (Prod.snd (Prod.snd y17))) ∧ U.rndI (Prod.fst v, Prod.fst (Prod.snd v), Prod.fst (Prod.snd (Prod.snd v)), Prod.snd (Prod.snd (Prod.snd v))) n (Prod.fst y17) (Prod.snd y17) ∧ Int.toNat (n - Prod.fst y17) < Int.toNat (n - Prod.fst x1)) ∧ (¬Prod.fst x1 < n → K (Sum.inr []) { heap := [some { elem := (43 : Nat), cells := [Sum.inr (Sum.inr (Sum.inr (Sum.inr (Sum.inr (Sum.inr (Sum.inl (IntKind.u64, Prod.fst (Prod.snd x1)))))))), Sum.inr (Sum.inr (Sum.inr (Sum.inr (Sum.inr (Sum.inr (Sum.inl (IntKind.u64, Prod.fst (Prod.snd (Prod.snd x1))))))))), Sum.inr (Sum.inr (Sum.inr (Sum.inr (Sum.inr (Sum.inr (Sum.inl (IntKind.u64, Prod.fst (Prod.snd (Prod.snd (Prod.snd x1)))))))))), Sum.inr (Sum.inr (Sum.inr (Sum.inr (Sum.inr (Sum.inr (Sum.inl (IntKind.u64, Prod.snd (Prod.snd (Prod.snd (Prod.snd x1))))))))))], j := none, c := (4 : Nat), z := false }], ints := [], opqs := (0 : Nat), arrs := [], junks := (0 : Nat) })) := by kernel_rfl
theorem rRounds_vc (K : AV → St → Prop) (v : W4) (n : Int) : (runR tRot 20 [rowW v, xi .i64 n] emptySt K) = ((∃ (y0 : Int × W4), Prod.fst v = Prod.fst v ∧ Prod.fst (Prod.snd v) = Prod.fst (Prod.snd v) ∧ Prod.fst (Prod.snd (Prod.snd v)) = Prod.fst (Prod.snd (Prod.snd v)) ∧ Prod.snd (Prod.snd (Prod.snd v)) = Prod.snd (Prod.snd (Prod.snd v)) ∧ n = n ∧ (0 : Int) = Prod.fst y0 ∧ Prod.fst v = Prod.fst (Prod.snd y0) ∧ Prod.fst (Prod.snd v) = Prod.fst (Prod.snd (Prod.snd y0)) ∧ Prod.fst (Prod.snd (Prod.snd v)) = Prod.fst (Prod.snd (Prod.snd (Prod.snd y0))) ∧ Prod.snd (Prod.snd (Prod.snd v)) = Prod.snd (Prod.snd (Prod.snd (Prod.snd y0))) ∧ U.rndI (Prod.fst v, Prod.fst (Prod.snd v), Prod.fst (Prod.snd (Prod.snd v)), Prod.snd (Prod.snd (Prod.snd v))) n (Prod.fst y0) (Prod.snd y0)) ∧ ∀ (x1 : Int × W4), U.rndI (Prod.fst v, Prod.fst (Prod.snd v), Prod.fst (Prod.snd (Prod.snd v)), Prod.snd (Prod.snd (Prod.snd v))) n (Prod.fst x1) (Prod.snd x1) → (Prod.fst x1 < n → ∀ (z2 : Int), z2 = IntKind.wrap IntKind.u64 (Prod.fst (Prod.snd x1) + Prod.fst (Prod.snd (Prod.snd x1))) → (((0 : Int) ≤ Prod.fst (Prod.snd (Prod.snd x1)) ∧ Prod.fst (Prod.snd (Prod.snd x1)) ≤ (18446744073709551615 : Int)) ∧ (0 : Int) < (13 : Int) ∧ (13 : Int) < (64 : Int)) ∧ ∀ (z3 : Int), z3 = U.rot (Prod.fst (Prod.snd (Prod.snd x1))) (13 : Int) → ∀ (z4 : Int), z4 = xorI IntKind.u64 z3 z2 → (((0 : Int) ≤ z2 ∧ z2 ≤ (18446744073709551615 : Int)) ∧ (0 : Int) < (32 : Int) ∧ (32 : Int) < (64 : Int)) ∧ ∀ (z5 : Int), z5 = U.rot z2 (32 : Int) → ∀ (z6 : Int), z6 = IntKind.wrap IntKind.u64 (Prod.fst (Prod.snd (Prod.snd (Prod.snd x1))) + Prod.snd (Prod.snd (Prod.snd (Prod.snd x1)))) → (((0 : Int) ≤ Prod.snd (Prod.snd (Prod.snd (Prod.snd x1))) ∧ Prod.snd (Prod.snd (Prod.snd (Prod.snd x1))) ≤ (18446744073709551615 : Int)) ∧ (0 : Int) < (16 : Int) ∧ (16 : Int) < (64 : Int)) ∧ ∀ (z7 : Int), z7 = U.rot (Prod.snd (Prod.snd (Prod.snd (Prod.snd x1)))) (16 : Int) → ∀ (z8 : Int), z8 = xorI IntKind.u64 z7 z6 → ∀ (z9 : Int), z9 = IntKind.wrap IntKind.u64 (z5 + z8) → (((0 : Int) ≤ z8 ∧ z8 ≤ (18446744073709551615 : Int)) ∧ (0 : Int) < (21 : Int) ∧ (21 : Int) < (64 : Int)) ∧ ∀ (z10 : Int), z10 = U.rot z8 (21 : Int) → ∀ (z11 : Int), z11 = xorI IntKind.u64 z10 z9 → ∀ (z12 : Int), z12 = IntKind.wrap IntKind.u64 (z6 + z4) → (((0 : Int) ≤ z4 ∧ z4 ≤ (18446744073709551615 : Int)) ∧ (0 : Int) < (17 : Int) ∧ (17 : Int) < (64 : Int)) ∧ ∀ (z13 : Int), z13 = U.rot z4 (17 : Int) → ∀ (z14 : Int), z14 = xorI IntKind.u64 z13 z12 → (((0 : Int) ≤ z12 ∧ z12 ≤ (18446744073709551615 : Int)) ∧ (0 : Int) < (32 : Int) ∧ (32 : Int) < (64 : Int)) ∧ ∀ (z15 : Int), z15 = U.rot z12 (32 : Int) → ∀ (z16 : Int), z16 = IntKind.wrap IntKind.i64 (Prod.fst x1 + (1 : Int)) → ∃ (y17 : Int × W4), Prod.fst v = Prod.fst v ∧ Prod.fst (Prod.snd v) = Prod.fst (Prod.snd v) ∧ Prod.fst (Prod.snd (Prod.snd v)) = Prod.fst (Prod.snd (Prod.snd v)) ∧ Prod.snd (Prod.snd (Prod.snd v)) = Prod.snd (Prod.snd (Prod.snd v)) ∧ n = n ∧ z16 = Prod.fst y17 ∧ z9 = Prod.fst (Prod.snd y17) ∧ z14 = Prod.fst (Prod.snd (Prod.snd y17)) ∧ z15 = Prod.fst (Prod.snd (Prod.snd (Prod.snd y17))) ∧ z11 = Prod.snd (Prod.snd (Prod.snd (Prod.snd y17))) ∧ U.rndI (Prod.fst v, Prod.fst (Prod.snd v), Prod.fst (Prod.snd (Prod.snd v)), Prod.snd (Prod.snd (Prod.snd v))) n (Prod.fst y17) (Prod.snd y17) ∧ Int.toNat (n - Prod.fst y17) < Int.toNat (n - Prod.fst x1)) ∧ (¬Prod.fst x1 < n → K (Sum.inl (Sum.inr [Sum.inr (Sum.inr (Sum.inr (Sum.inr (Sum.inr (Sum.inr (Sum.inl (IntKind.u64, Prod.fst (Prod.snd x1)))))))), Sum.inr (Sum.inr (Sum.inr (Sum.inr (Sum.inr (Sum.inr (Sum.inl (IntKind.u64, Prod.fst (Prod.snd (Prod.snd x1))))))))), Sum.inr (Sum.inr (Sum.inr (Sum.inr (Sum.inr (Sum.inr (Sum.inl (IntKind.u64, Prod.fst (Prod.snd (Prod.snd (Prod.snd x1)))))))))), Sum.inr (Sum.inr (Sum.inr (Sum.inr (Sum.inr (Sum.inr (Sum.inl (IntKind.u64, Prod.snd (Prod.snd (Prod.snd (Prod.snd x1))))))))))])) { heap := [], ints := [], opqs := (0 : Nat), arrs := [], junks := (0 : Nat) })) := by kernel_rfl
end Go.Proofs.Ytpmnioadbkhpoaa
