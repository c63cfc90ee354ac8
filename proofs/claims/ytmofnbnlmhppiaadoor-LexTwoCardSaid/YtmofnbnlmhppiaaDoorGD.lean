/- Parts of a proof, one behind the other: LT4 LT5. No condition. -/
import Derived.Test.YtmofnbnlmhppiaaDoorGC
section
namespace Go.Proofs.YtmofnbnlmhppiaaDoor
open Go Reck Ost
set_option linter.unusedVariables false
structure U.cutI (a x : List Int) : Prop where
  out : x = a.take 1000
def cutInv (c : Code) (tm : List AV) (t : Nat) : Inv where
  X := List Int
  tags := [0]
  tag _ _ := 0
  J := wrBut [t] c
  val _ x := [(t, cell (strC x))]
  st _ _ σ' := σ'
  I _ x := U.cutI (slotT tm t) x
  m _ _ := 0
  ren := noRen
def ixInv (c : Code) (tm : List AV) (t n : Nat) : Inv where
  X := Int
  tags := [0]
  tag _ _ := 0
  J := wrBut [t] c
  val _ x := [(t, xi .i64 x)]
  st _ _ σ' := σ'
  I _ x := U.smI (slotI tm n).toNat x
  m _ x := (slotI tm n).toNat - x.toNat
  ren := noRen
def invLT4 : InvF := fun c tm σ => match tm.length, firstReg c with
  | 130, some 15 => some (ixInv c tm 93 92)
  | 130, some 22 => some (ixInv c tm 117 116)
  | _, _ => none
def meetLT4 : InvF := fun c tm σ => match tm.length, c with
  | 130, .seq _ (.cond _ _ _) => match firstReg c with
    | some 1 => some (cutInv c tm 0)
    | some 3 => some (cutInv c tm 1)
    | _ => none
  | _, _ => none
def tLT4 : Tbl := tblOr (tblIf 7 (pSplit 33)) (tblIf 10 pAwake)
set_option maxRecDepth 100000
--PLAIN
theorem lexTwo_vc (a b : List Int) : (goT Tryd.prog [] (orcR invLT4 meetLT4 tLT4) (opMem Tryd.prog) 3000 (.inr (.inr (.inr (.inr 4)))) [cell (strC a), cell (strC b)] emptySt isTrue) = ((∀ (z0 : Int), z0 = (↑(List.length a) : Int) → ((1000 : Int) < z0 → ((0 : Int) ≤ (0 : Int) ∧ (0 : Int) ≤ (1000 : Nat) ∧ (1000 : Nat) ≤ (↑(List.length a) : Int)) ∧ ∀ (a1 b2 : Nat), (↑a1 : Int) = (0 : Int) → (↑b2 : Int) = (1000 : Nat) - (0 : Int) → ∀ (l'3 : List Int), l'3 = List.take b2 (List.drop a1 a) → ∃ (y4 : List Int), l'3 = y4 ∧ b = b ∧ U.cutI a y4) ∧ (¬(1000 : Int) < z0 → ∃ (y5 : List Int), a = y5 ∧ b = b ∧ U.cutI a y5)) ∧ ∀ (x6 : List Int), U.cutI a x6 → (∀ (z7 : Int), z7 = (↑(List.length b) : Int) → ((1000 : Int) < z7 → ((0 : Int) ≤ (0 : Int) ∧ (0 : Int) ≤ (1000 : Nat) ∧ (1000 : Nat) ≤ (↑(List.length b) : Int)) ∧ ∀ (a8 b9 : Nat), (↑a8 : Int) = (0 : Int) → (↑b9 : Int) = (1000 : Nat) - (0 : Int) → ∀ (l'10 : List Int), l'10 = List.take b9 (List.drop a8 b) → ∃ (y11 : List Int), x6 = x6 ∧ l'10 = y11 ∧ U.cutI b y11) ∧ (¬(1000 : Int) < z7 → ∃ (y12 : List Int), x6 = x6 ∧ b = y12 ∧ U.cutI b y12)) ∧ ∀ (x13 : List Int), U.cutI b x13 → ∀ (L14 : List (List CV)) (n15 c16 : Nat) (p17 e18 : Int), U.Split x6 L14 p17 e18 → List.length L14 = n15 → n15 ≤ c16 → n15 ≤ (4096 : Nat) → ∀ (L19 : List (List CV)) (n20 c21 : Nat) (p22 e23 : Int), U.Split x13 L19 p22 e23 → List.length L19 = n20 → n20 ≤ c21 → n20 ≤ (4096 : Nat) → List.length x6 + (1 : Nat) ≤ (1000000000000 : Nat) ∧ ∀ (l'24 : List Int), l'24 = x6 ++ [(10 : Int)] → List.length l'24 + List.length x13 ≤ (1000000000000 : Nat) ∧ ∀ (l'25 : List Int), l'25 = l'24 ++ x13 → ∀ (L26 : List (List CV)) (n27 c28 : Nat) (p29 e30 : Int), U.Split l'25 L26 p29 e30 → List.length L26 = n27 → n27 ≤ c28 → n27 ≤ (4096 : Nat) → (¬e18 = (0 : Int) → (e30 = e18 → ∀ (z31 : Int), z31 = (↑n27 : Int) → (z31 = (0 : Int) → True) ∧ (¬z31 = (0 : Int) → Err [(200 : Nat)])) ∧ (¬e30 = e18 → Err [(200 : Nat)])) ∧ (¬¬e18 = (0 : Int) → (¬e23 = (0 : Int) → (e30 = e23 → ∀ (z32 : Int), z32 = (↑(List.length x6) : Int) → ∀ (z33 : Int), z33 = IntKind.wrap IntKind.i64 (p22 + z32) → ∀ (z34 : Int), z34 = IntKind.wrap IntKind.i64 (z33 + (1 : Int)) → (p29 = z34 → True) ∧ (¬p29 = z34 → Err [(200 : Nat)])) ∧ (¬e30 = e23 → Err [(200 : Nat)])) ∧ (¬¬e23 = (0 : Int) → (¬e30 = (0 : Int) → Err [(200 : Nat)]) ∧ (¬¬e30 = (0 : Int) → ∀ (z35 : Int), z35 = (↑n27 : Int) → ∀ (z36 : Int), z36 = (↑n15 : Int) → ∀ (z37 : Int), z37 = (↑n20 : Int) → ∀ (z38 : Int), z38 = IntKind.wrap IntKind.i64 (z36 + z37) → (¬z35 = z38 → Err [(200 : Nat)]) ∧ (¬¬z35 = z38 → ∀ (z39 : Int), z39 = (↑n20 : Int) → (∃ (y40 : Int), x6 = x6 ∧ x13 = x13 ∧ ((0 : Nat) = (0 : Nat) ∧ n15 = n15 ∧ c16 = c16) ∧ p17 = p17 ∧ e18 = e18 ∧ ((0 : Nat) = (0 : Nat) ∧ n20 = n20 ∧ c21 = c21) ∧ p22 = p22 ∧ e23 = e23 ∧ ((0 : Nat) = (0 : Nat) ∧ n27 = n27 ∧ c28 = c28) ∧ p29 = p29 ∧ e30 = e30 ∧ ((0 : Nat) = (0 : Nat) ∧ n15 = n15 ∧ c16 = c16) ∧ p17 = p17 ∧ e18 = e18 ∧ x6 = x6 ∧ ((0 : Nat) = (0 : Nat) ∧ n15 = n15 ∧ c16 = c16) ∧ p17 = p17 ∧ e18 = e18 ∧ ((0 : Nat) = (0 : Nat) ∧ n15 = n15 ∧ c16 = c16) ∧ p17 = p17 ∧ e18 = e18 ∧ ((0 : Nat) = (0 : Nat) ∧ n20 = n20 ∧ c21 = c21) ∧ p22 = p22 ∧ e23 = e23 ∧ x13 = x13 ∧ ((0 : Nat) = (0 : Nat) ∧ n20 = n20 ∧ c21 = c21) ∧ p22 = p22 ∧ e23 = e23 ∧ ((0 : Nat) = (0 : Nat) ∧ n20 = n20 ∧ c21 = c21) ∧ p22 = p22 ∧ e23 = e23 ∧ ((0 : Nat) = (0 : Nat) ∧ n27 = n27 ∧ c28 = c28) ∧ p29 = p29 ∧ e30 = e30 ∧ x6 = x6 ∧ l'24 = l'24 ∧ x13 = x13 ∧ l'25 = l'25 ∧ ((0 : Nat) = (0 : Nat) ∧ n27 = n27 ∧ c28 = c28) ∧ p29 = p29 ∧ e30 = e30 ∧ ((0 : Nat) = (0 : Nat) ∧ n27 = n27 ∧ c28 = c28) ∧ p29 = p29 ∧ e30 = e30 ∧ e18 = e18 ∧ e23 = e23 ∧ e30 = e30 ∧ ((0 : Nat) = (0 : Nat) ∧ n27 = n27 ∧ c28 = c28) ∧ z35 = z35 ∧ ((0 : Nat) = (0 : Nat) ∧ n15 = n15 ∧ c16 = c16) ∧ z36 = z36 ∧ ((0 : Nat) = (0 : Nat) ∧ n20 = n20 ∧ c21 = c21) ∧ z37 = z37 ∧ z38 = z38 ∧ ((0 : Nat) = (0 : Nat) ∧ n20 = n20 ∧ c21 = c21) ∧ z39 = z39 ∧ (0 : Int) = y40 ∧ (L14 = L14 ∧ c16 = c16 ∧ false = false) ∧ (L19 = L19 ∧ c21 = c21 ∧ false = false) ∧ (L26 = L26 ∧ c28 = c28 ∧ false = false) ∧ U.smI (Int.toNat z39) y40) ∧ ∀ (x41 : Int), U.smI (Int.toNat z39) x41 → (x41 < z39 → ((0 : Int) ≤ x41 ∧ x41 < (↑n20 : Int)) ∧ ∀ (j42 : Nat), (↑j42 : Int) = (↑((0 : Nat)) : Int) + x41 → j42 < List.length L19 ∧ ∀ (z43 : Int), z43 = U.fi L19 j42 ((0 : Nat)) → ∀ (z44 : List Int), z44 = U.fs L19 j42 ((0 : Nat) + (1 : Nat)) → ∀ (z45 : Int), z45 = U.fi L19 j42 ((0 : Nat) + (1 : Nat) + (1 : Nat)) → ∀ (z46 : Int), z46 = U.fi L19 j42 ((0 : Nat) + (1 : Nat) + (1 : Nat) + (1 : Nat)) → ∀ (z47 : Int), z47 = (↑(List.length x6) : Int) → ∀ (z48 : Int), z48 = IntKind.wrap IntKind.i64 (z47 + (1 : Int)) → ∀ (z49 : Int), z49 = IntKind.wrap IntKind.i64 (z46 + z48) → ∀ (z50 : Int), z50 = (↑n15 : Int) → ∀ (z51 : Int), z51 = IntKind.wrap IntKind.i64 (z50 + x41) → ((0 : Int) ≤ z51 ∧ z51 < (↑n27 : Int)) ∧ ∀ (j52 : Nat), (↑j52 : Int) = (↑((0 : Nat)) : Int) + z51 → j52 < List.length L26 ∧ ∀ (z53 : Int), z53 = U.fi L26 j52 ((0 : Nat)) → ∀ (z54 : List Int), z54 = U.fs L26 j52 ((0 : Nat) + (1 : Nat)) → ∀ (z55 : Int), z55 = U.fi L26 j52 ((0 : Nat) + (1 : Nat) + (1 : Nat)) → ∀ (z56 : Int), z56 = U.fi L26 j52 ((0 : Nat) + (1 : Nat) + (1 : Nat) + (1 : Nat)) → (¬(z53 = z43 ∧ z54 = z44 ∧ z55 = z45 ∧ z56 = z49 ∧ True) → Err [(200 : Nat)]) ∧ (¬¬(z53 = z43 ∧ z54 = z44 ∧ z55 = z45 ∧ z56 = z49 ∧ True) → ∀ (z57 : Int), z57 = IntKind.wrap IntKind.i64 (x41 + (1 : Int)) → ∃ (y58 : Int), x6 = x6 ∧ x13 = x13 ∧ ((0 : Nat) = (0 : Nat) ∧ n15 = n15 ∧ c16 = c16) ∧ p17 = p17 ∧ e18 = e18 ∧ ((0 : Nat) = (0 : Nat) ∧ n20 = n20 ∧ c21 = c21) ∧ p22 = p22 ∧ e23 = e23 ∧ ((0 : Nat) = (0 : Nat) ∧ n27 = n27 ∧ c28 = c28) ∧ p29 = p29 ∧ e30 = e30 ∧ ((0 : Nat) = (0 : Nat) ∧ n15 = n15 ∧ c16 = c16) ∧ p17 = p17 ∧ e18 = e18 ∧ x6 = x6 ∧ ((0 : Nat) = (0 : Nat) ∧ n15 = n15 ∧ c16 = c16) ∧ p17 = p17 ∧ e18 = e18 ∧ ((0 : Nat) = (0 : Nat) ∧ n15 = n15 ∧ c16 = c16) ∧ p17 = p17 ∧ e18 = e18 ∧ ((0 : Nat) = (0 : Nat) ∧ n20 = n20 ∧ c21 = c21) ∧ p22 = p22 ∧ e23 = e23 ∧ x13 = x13 ∧ ((0 : Nat) = (0 : Nat) ∧ n20 = n20 ∧ c21 = c21) ∧ p22 = p22 ∧ e23 = e23 ∧ ((0 : Nat) = (0 : Nat) ∧ n20 = n20 ∧ c21 = c21) ∧ p22 = p22 ∧ e23 = e23 ∧ ((0 : Nat) = (0 : Nat) ∧ n27 = n27 ∧ c28 = c28) ∧ p29 = p29 ∧ e30 = e30 ∧ x6 = x6 ∧ l'24 = l'24 ∧ x13 = x13 ∧ l'25 = l'25 ∧ ((0 : Nat) = (0 : Nat) ∧ n27 = n27 ∧ c28 = c28) ∧ p29 = p29 ∧ e30 = e30 ∧ ((0 : Nat) = (0 : Nat) ∧ n27 = n27 ∧ c28 = c28) ∧ p29 = p29 ∧ e30 = e30 ∧ e18 = e18 ∧ e23 = e23 ∧ e30 = e30 ∧ ((0 : Nat) = (0 : Nat) ∧ n27 = n27 ∧ c28 = c28) ∧ z35 = z35 ∧ ((0 : Nat) = (0 : Nat) ∧ n15 = n15 ∧ c16 = c16) ∧ z36 = z36 ∧ ((0 : Nat) = (0 : Nat) ∧ n20 = n20 ∧ c21 = c21) ∧ z37 = z37 ∧ z38 = z38 ∧ ((0 : Nat) = (0 : Nat) ∧ n20 = n20 ∧ c21 = c21) ∧ z39 = z39 ∧ z57 = y58 ∧ (L14 = L14 ∧ c16 = c16 ∧ false = false) ∧ (L19 = L19 ∧ c21 = c21 ∧ false = false) ∧ (L26 = L26 ∧ c28 = c28 ∧ false = false) ∧ U.smI (Int.toNat z39) y58 ∧ Int.toNat z39 - Int.toNat y58 < Int.toNat z39 - Int.toNat x41)) ∧ (¬x41 < z39 → ∀ (z59 : Int), z59 = (↑n15 : Int) → (∃ (y60 : Int), x6 = x6 ∧ x13 = x13 ∧ ((0 : Nat) = (0 : Nat) ∧ n15 = n15 ∧ c16 = c16) ∧ p17 = p17 ∧ e18 = e18 ∧ ((0 : Nat) = (0 : Nat) ∧ n20 = n20 ∧ c21 = c21) ∧ p22 = p22 ∧ e23 = e23 ∧ ((0 : Nat) = (0 : Nat) ∧ n27 = n27 ∧ c28 = c28) ∧ p29 = p29 ∧ e30 = e30 ∧ ((0 : Nat) = (0 : Nat) ∧ n15 = n15 ∧ c16 = c16) ∧ p17 = p17 ∧ e18 = e18 ∧ x6 = x6 ∧ ((0 : Nat) = (0 : Nat) ∧ n15 = n15 ∧ c16 = c16) ∧ p17 = p17 ∧ e18 = e18 ∧ ((0 : Nat) = (0 : Nat) ∧ n15 = n15 ∧ c16 = c16) ∧ p17 = p17 ∧ e18 = e18 ∧ ((0 : Nat) = (0 : Nat) ∧ n20 = n20 ∧ c21 = c21) ∧ p22 = p22 ∧ e23 = e23 ∧ x13 = x13 ∧ ((0 : Nat) = (0 : Nat) ∧ n20 = n20 ∧ c21 = c21) ∧ p22 = p22 ∧ e23 = e23 ∧ ((0 : Nat) = (0 : Nat) ∧ n20 = n20 ∧ c21 = c21) ∧ p22 = p22 ∧ e23 = e23 ∧ ((0 : Nat) = (0 : Nat) ∧ n27 = n27 ∧ c28 = c28) ∧ p29 = p29 ∧ e30 = e30 ∧ x6 = x6 ∧ l'24 = l'24 ∧ x13 = x13 ∧ l'25 = l'25 ∧ ((0 : Nat) = (0 : Nat) ∧ n27 = n27 ∧ c28 = c28) ∧ p29 = p29 ∧ e30 = e30 ∧ ((0 : Nat) = (0 : Nat) ∧ n27 = n27 ∧ c28 = c28) ∧ p29 = p29 ∧ e30 = e30 ∧ e18 = e18 ∧ e23 = e23 ∧ e30 = e30 ∧ ((0 : Nat) = (0 : Nat) ∧ n27 = n27 ∧ c28 = c28) ∧ z35 = z35 ∧ ((0 : Nat) = (0 : Nat) ∧ n15 = n15 ∧ c16 = c16) ∧ z36 = z36 ∧ ((0 : Nat) = (0 : Nat) ∧ n20 = n20 ∧ c21 = c21) ∧ z37 = z37 ∧ z38 = z38 ∧ ((0 : Nat) = (0 : Nat) ∧ n20 = n20 ∧ c21 = c21) ∧ z39 = z39 ∧ x41 = x41 ∧ ((0 : Nat) = (0 : Nat) ∧ n15 = n15 ∧ c16 = c16) ∧ z59 = z59 ∧ (0 : Int) = y60 ∧ (L14 = L14 ∧ c16 = c16 ∧ false = false) ∧ (L19 = L19 ∧ c21 = c21 ∧ false = false) ∧ (L26 = L26 ∧ c28 = c28 ∧ false = false) ∧ U.smI (Int.toNat z59) y60) ∧ ∀ (x61 : Int), U.smI (Int.toNat z59) x61 → (x61 < z59 → ((0 : Int) ≤ x61 ∧ x61 < (↑n15 : Int)) ∧ ∀ (j62 : Nat), (↑j62 : Int) = (↑((0 : Nat)) : Int) + x61 → j62 < List.length L14 ∧ ∀ (z63 : Int), z63 = U.fi L14 j62 ((0 : Nat)) → ∀ (z64 : List Int), z64 = U.fs L14 j62 ((0 : Nat) + (1 : Nat)) → ∀ (z65 : Int), z65 = U.fi L14 j62 ((0 : Nat) + (1 : Nat) + (1 : Nat)) → ∀ (z66 : Int), z66 = U.fi L14 j62 ((0 : Nat) + (1 : Nat) + (1 : Nat) + (1 : Nat)) → ((0 : Int) ≤ x61 ∧ x61 < (↑n27 : Int)) ∧ ∀ (j67 : Nat), (↑j67 : Int) = (↑((0 : Nat)) : Int) + x61 → j67 < List.length L26 ∧ ∀ (z68 : Int), z68 = U.fi L26 j67 ((0 : Nat)) → ∀ (z69 : List Int), z69 = U.fs L26 j67 ((0 : Nat) + (1 : Nat)) → ∀ (z70 : Int), z70 = U.fi L26 j67 ((0 : Nat) + (1 : Nat) + (1 : Nat)) → ∀ (z71 : Int), z71 = U.fi L26 j67 ((0 : Nat) + (1 : Nat) + (1 : Nat) + (1 : Nat)) → (¬(z68 = z63 ∧ z69 = z64 ∧ z70 = z65 ∧ z71 = z66 ∧ True) → Err [(200 : Nat)]) ∧ (¬¬(z68 = z63 ∧ z69 = z64 ∧ z70 = z65 ∧ z71 = z66 ∧ True) → ∀ (z72 : Int), z72 = IntKind.wrap IntKind.i64 (x61 + (1 : Int)) → ∃ (y73 : Int), x6 = x6 ∧ x13 = x13 ∧ ((0 : Nat) = (0 : Nat) ∧ n15 = n15 ∧ c16 = c16) ∧ p17 = p17 ∧ e18 = e18 ∧ ((0 : Nat) = (0 : Nat) ∧ n20 = n20 ∧ c21 = c21) ∧ p22 = p22 ∧ e23 = e23 ∧ ((0 : Nat) = (0 : Nat) ∧ n27 = n27 ∧ c28 = c28) ∧ p29 = p29 ∧ e30 = e30 ∧ ((0 : Nat) = (0 : Nat) ∧ n15 = n15 ∧ c16 = c16) ∧ p17 = p17 ∧ e18 = e18 ∧ x6 = x6 ∧ ((0 : Nat) = (0 : Nat) ∧ n15 = n15 ∧ c16 = c16) ∧ p17 = p17 ∧ e18 = e18 ∧ ((0 : Nat) = (0 : Nat) ∧ n15 = n15 ∧ c16 = c16) ∧ p17 = p17 ∧ e18 = e18 ∧ ((0 : Nat) = (0 : Nat) ∧ n20 = n20 ∧ c21 = c21) ∧ p22 = p22 ∧ e23 = e23 ∧ x13 = x13 ∧ ((0 : Nat) = (0 : Nat) ∧ n20 = n20 ∧ c21 = c21) ∧ p22 = p22 ∧ e23 = e23 ∧ ((0 : Nat) = (0 : Nat) ∧ n20 = n20 ∧ c21 = c21) ∧ p22 = p22 ∧ e23 = e23 ∧ ((0 : Nat) = (0 : Nat) ∧ n27 = n27 ∧ c28 = c28) ∧ p29 = p29 ∧ e30 = e30 ∧ x6 = x6 ∧ l'24 = l'24 ∧ x13 = x13 ∧ l'25 = l'25 ∧ ((0 : Nat) = (0 : Nat) ∧ n27 = n27 ∧ c28 = c28) ∧ p29 = p29 ∧ e30 = e30 ∧ ((0 : Nat) = (0 : Nat) ∧ n27 = n27 ∧ c28 = c28) ∧ p29 = p29 ∧ e30 = e30 ∧ e18 = e18 ∧ e23 = e23 ∧ e30 = e30 ∧ ((0 : Nat) = (0 : Nat) ∧ n27 = n27 ∧ c28 = c28) ∧ z35 = z35 ∧ ((0 : Nat) = (0 : Nat) ∧ n15 = n15 ∧ c16 = c16) ∧ z36 = z36 ∧ ((0 : Nat) = (0 : Nat) ∧ n20 = n20 ∧ c21 = c21) ∧ z37 = z37 ∧ z38 = z38 ∧ ((0 : Nat) = (0 : Nat) ∧ n20 = n20 ∧ c21 = c21) ∧ z39 = z39 ∧ x41 = x41 ∧ ((0 : Nat) = (0 : Nat) ∧ n15 = n15 ∧ c16 = c16) ∧ z59 = z59 ∧ z72 = y73 ∧ (L14 = L14 ∧ c16 = c16 ∧ false = false) ∧ (L19 = L19 ∧ c21 = c21 ∧ false = false) ∧ (L26 = L26 ∧ c28 = c28 ∧ false = false) ∧ U.smI (Int.toNat z59) y73 ∧ Int.toNat z59 - Int.toNat y73 < Int.toNat z59 - Int.toNat x61)) ∧ (¬x61 < z59 → True))))))) := by kernel_rfl
end Go.Proofs.YtmofnbnlmhppiaaDoor
end

section
set_option linter.unusedVariables false
set_option linter.unusedSimpArgs false
namespace Go.Proofs.YtmofnbnlmhppiaaDoor
open Go Reck Ost
theorem str_av (s : ByteArray) (e : Env) : Reck.av e (cell (strC (s.data.toList.map fun b => (b.toNat : Int)))) = some (.string s) := by
  have h := strC_av (byteZ_lit s) e
  rw [strZ_lit] at h; exact h
theorem bare_mid : ∀ (o : Bool) (a b : List Int), U.bare o (a ++ 10 :: b) = U.bare o a ++ 10 :: U.bare false b
  | o, [], b => by rw [List.nil_append, bare_cons, if_pos rfl]; rfl
  | o, c :: a, b => by
    rw [List.cons_append, bare_cons, bare_cons]
    split
    · rw [bare_mid false a b]; rfl
    · split
      · rw [bare_mid true a b]; rfl
      · rw [bare_mid false a b]; rfl
theorem takeW_mid (m : List Int) : ∀ (l : List Int), (l ++ 10 :: m).takeWhile U.alnum = l.takeWhile U.alnum
  | [] => by rw [List.nil_append, List.takeWhile_cons]; rfl
  | c :: l => by
    rw [List.cons_append, List.takeWhile_cons, List.takeWhile_cons]
    split
    · rw [takeW_mid m l]
    · rfl
theorem tk_mid (c : Int) (l m : List Int) : U.tk ((c :: l) ++ 10 :: m) = U.tk (c :: l) := by
  have hs : U.signN ((c :: l) ++ 10 :: m) = U.signN (c :: l) := by
    cases l with
    | nil => simp [U.signN]
    | cons d l => rfl
  unfold U.tk
  rw [hs, takeW_mid]
theorem lexed_cat {i : Nat} {l : List Int} {acc R : List (List CV)} {p e : Int} (h : U.Lexed i l acc R p e) (m : List Int) :
    (e = 0 → p = 0 ∧ ∀ (R' : List (List CV)) (p' e' : Int), U.Lexed (i + l.length) (10 :: m) R R' p' e' → U.Lexed i (l ++ 10 :: m) acc R' p' e') ∧ (e ≠ 0 → R = [] ∧ U.Lexed i (l ++ 10 :: m) acc [] p e) := by
  induction h with
  | stop i acc => exact ⟨fun _ => ⟨rfl, fun R' p' e' h => h⟩, fun h => absurd rfl h⟩
  | skip i c l acc R p e hb _ ih =>
    refine ⟨fun he => ⟨(ih.1 he).1, fun R' p' e' h => U.Lexed.skip i c _ acc R' p' e' hb ((ih.1 he).2 R' p' e' ?_)⟩, fun he => ⟨(ih.2 he).1, U.Lexed.skip i c _ acc [] p e hb (ih.2 he).2⟩⟩
    rw [List.length_cons, ← Nat.add_assoc, Nat.add_right_comm] at h
    exact h
  | tok i c l acc R p e hb he _ ih =>
    have hle := tk_le (c :: l)
    have hd : ((c :: l) ++ 10 :: m).drop (U.tk (c :: l)).n = (c :: l).drop (U.tk (c :: l)).n ++ 10 :: m := List.drop_append_of_le_length hle
    have ht : ((c :: l) ++ 10 :: m).take (U.tk (c :: l)).n = (c :: l).take (U.tk (c :: l)).n := List.take_append_of_le_length hle
    have key : ∀ (R' : List (List CV)) (p' e' : Int), U.Lexed (i + (U.tk (c :: l)).n) ((c :: l).drop (U.tk (c :: l)).n ++ 10 :: m) (acc ++ [[.i (U.tk (c :: l)).k, .s ((c :: l).take (U.tk (c :: l)).n), .i (U.tk (c :: l)).z, .i i]]) R' p' e' → U.Lexed i ((c :: l) ++ 10 :: m) acc R' p' e' := by
      intro R' p' e' h
      have hk := tk_mid c l m
      rw [← hd, ← ht] at h
      rw [← hk] at h he
      exact U.Lexed.tok i c _ acc R' p' e' hb he h
    refine ⟨fun h0 => ⟨(ih.1 h0).1, fun R' p' e' h => key R' p' e' ((ih.1 h0).2 R' p' e' ?_)⟩, fun h0 => ⟨(ih.2 h0).1, key [] p e (ih.2 h0).2⟩⟩
    rw [List.length_drop, show i + (U.tk (c :: l)).n + ((c :: l).length - (U.tk (c :: l)).n) = i + (c :: l).length by omega]
    exact h
  | bad i c l acc hb he =>
    refine ⟨fun h => absurd h he, fun _ => ⟨rfl, ?_⟩⟩
    have hk := tk_mid c l m
    rw [← hk] at he ⊢
    exact U.Lexed.bad i c _ acc hb he
/-- A token so far on. -/
def shR (d : Nat) : List CV → List CV
  | [k, t, z, .i a] => [k, t, z, .i (a + d)]
  | r => r
theorem lexed_shift {i : Nat} {l : List Int} {acc R : List (List CV)} {p e : Int} (h : U.Lexed i l acc R p e) (d : Nat) (A : List (List CV)) :
    (e = 0 → U.Lexed (i + d) l (A ++ acc.map (shR d)) (A ++ R.map (shR d)) 0 0) ∧ (e ≠ 0 → U.Lexed (i + d) l (A ++ acc.map (shR d)) [] (p + d) e) := by
  induction h with
  | stop i acc => exact ⟨fun _ => U.Lexed.stop _ _, fun h => absurd rfl h⟩
  | skip i c l acc R p e hb _ ih =>
    rw [Nat.add_right_comm] at ih
    exact ⟨fun h => U.Lexed.skip _ c l _ _ _ _ hb (ih.1 h), fun h => U.Lexed.skip _ c l _ _ _ _ hb (ih.2 h)⟩
  | tok i c l acc R p e hb he _ ih =>
    rw [Nat.add_right_comm, List.map_append, ← List.append_assoc] at ih
    have e1 : (([[CV.i (U.tk (c :: l)).k, CV.s ((c :: l).take (U.tk (c :: l)).n), CV.i (U.tk (c :: l)).z, CV.i i]] : List (List CV)).map (shR d)) = [[CV.i (U.tk (c :: l)).k, CV.s ((c :: l).take (U.tk (c :: l)).n), CV.i (U.tk (c :: l)).z, CV.i ((i + d : Nat) : Int)]] := by
      simp [shR]
    rw [e1] at ih
    exact ⟨fun h => U.Lexed.tok _ c l _ _ _ _ hb he (ih.1 h), fun h => U.Lexed.tok _ c l _ _ _ _ hb he (ih.2 h)⟩
  | bad i c l acc hb he =>
    refine ⟨fun h => absurd h he, fun _ => ?_⟩
    have := U.Lexed.bad (i + d) c l (A ++ acc.map (shR d)) hb he
    rw [show ((i + d : Nat) : Int) = (i : Int) + d by omega] at this
    exact this
theorem two_facts {a b t : List Int} {X Y Z : List (List CV)} {p e q f r g : Int} (ha : a.length ≤ 1000) (hb : b.length ≤ 1000) (ht : t = a ++ 10 :: b) (h1 : U.Split a X p e) (h2 : U.Split b Y q f) (h3 : U.Split t Z r g) :
    (e ≠ 0 → g = e ∧ Z = []) ∧ (e = 0 → f ≠ 0 → g = f ∧ r = q + a.length + 1) ∧ (e = 0 → f = 0 → g = 0 ∧ Z = X ++ Y.map (shR (a.length + 1))) := by
  have l1 := h1.short (by omega)
  have l2 := h2.short (by omega)
  have l3 := h3.short (by rw [ht]; simp; omega)
  rw [ht, bare_mid] at l3
  obtain ⟨c1, c2⟩ := lexed_cat l1 (U.bare false b)
  obtain ⟨s1, s2⟩ := lexed_shift l2 (a.length + 1) X
  rw [Nat.zero_add] at s1 s2
  simp only [List.map_nil, List.append_nil] at s1 s2
  refine ⟨fun he => ?_, fun he hf => ?_, fun he hf => ?_⟩
  · obtain ⟨_, h⟩ := c2 he
    obtain ⟨g1, g2, g3⟩ := Lexed.det l3 h
    exact ⟨g3, g1⟩
  · have := (c1 he).2 _ _ _ (by rw [bare_len, Nat.zero_add]; exact U.Lexed.skip _ 10 _ _ _ _ _ (by decide) (s2 hf))
    obtain ⟨g1, g2, g3⟩ := Lexed.det l3 this
    exact ⟨g3, by rw [g2]; omega⟩
  · have := (c1 he).2 _ _ _ (by rw [bare_len, Nat.zero_add]; exact U.Lexed.skip _ 10 _ _ _ _ _ (by decide) (s1 hf))
    obtain ⟨g1, g2, g3⟩ := Lexed.det l3 this
    exact ⟨g3, g1⟩
theorem Split.rows {s : List Int} {L : List (List CV)} {p e : Int} (h : U.Split s L p e) : ∀ row ∈ L, ∃ k t z a, row = [CV.i k, CV.s t, CV.i z, CV.i a] ∧ 0 ≤ a ∧ a ≤ 5000 := by
  rcases Nat.lt_or_ge 4096 s.length with hl | hl
  · rw [(h.long hl).1]; intro row hr; simp at hr
  · exact lexed_at (h.short hl) (by rw [bare_len]; omega) (by intro row hr; simp at hr)
theorem fi_left {X Z : List (List CV)} {m f : Nat} (h : m < X.length) : Reck.U.fi (X ++ Z) m f = Reck.U.fi X m f ∧ Reck.U.fs (X ++ Z) m f = Reck.U.fs X m f := by
  have : (X ++ Z).getD m [] = X.getD m [] := by rw [List.getD_eq_getElem?_getD, List.getD_eq_getElem?_getD, List.getElem?_append_left h]
  unfold Reck.U.fi Reck.U.fs
  rw [this]; exact ⟨rfl, rfl⟩
theorem fi_right {X Y : List (List CV)} {m j d : Nat} (hm : m = X.length + j) (h : j < Y.length) (hY : ∀ row ∈ Y, ∃ k t z a, row = [CV.i k, CV.s t, CV.i z, CV.i a] ∧ 0 ≤ a ∧ a ≤ 5000) :
    Reck.U.fi (X ++ Y.map (shR d)) m 0 = Reck.U.fi Y j 0 ∧ Reck.U.fs (X ++ Y.map (shR d)) m 1 = Reck.U.fs Y j 1 ∧ Reck.U.fi (X ++ Y.map (shR d)) m 2 = Reck.U.fi Y j 2 ∧ Reck.U.fi (X ++ Y.map (shR d)) m 3 = Reck.U.fi Y j 3 + d ∧ 0 ≤ Reck.U.fi Y j 3 ∧ Reck.U.fi Y j 3 ≤ 5000 := by
  have e1 : Y.getD j [] = Y[j] := by rw [List.getD_eq_getElem?_getD, List.getElem?_eq_getElem h]; rfl
  have e2 : (X ++ Y.map (shR d)).getD m [] = shR d Y[j] := by
    rw [List.getD_eq_getElem?_getD, List.getElem?_append_right (by omega), List.getElem?_map, show m - X.length = j by omega, List.getElem?_eq_getElem h]; rfl
  obtain ⟨k, t, z, a, hr, h1, h2⟩ := hY _ (List.getElem_mem h)
  unfold Reck.U.fi Reck.U.fs
  rw [e1, e2, hr]
  exact ⟨rfl, rfl, rfl, rfl, h1, h2⟩
theorem lexTwo_run (a b : List Int) : goT Tryd.prog [] (orcR invLT4 meetLT4 tLT4) (opMem Tryd.prog) 3000 (.inr (.inr (.inr (.inr 4)))) [cell (strC a), cell (strC b)] emptySt isTrue := by
  rw [lexTwo_vc]
  have cut : ∀ (s t : List Int) (m n : Nat), (m : Int) = 0 → (n : Int) = (OfNat.ofNat (1000 : Nat) : Int) - 0 → t = List.take n (List.drop m s) → U.cutI s t := by
    intro s t m n hm hn ht
    have e1 : m = 0 := by omega
    have e2 : n = 1000 := by
      have : (OfNat.ofNat (1000 : Nat) : Int) = 1000 := rfl
      omega
    subst e1; subst e2
    exact ⟨by rw [ht, List.drop_zero]⟩
  have cut' : ∀ (s : List Int), ¬ (1000 : Int) < (s.length : Int) → U.cutI s s := fun s h => ⟨(List.take_of_length_le (by omega)).symm⟩
  have big : ∀ (s : List Int), (1000 : Int) < (s.length : Int) → (0 : Int) ≤ (0 : Int) ∧ (0 : Int) ≤ (OfNat.ofNat (1000 : Nat) : Int) ∧ (OfNat.ofNat (1000 : Nat) : Int) ≤ (s.length : Int) := by
    intro s h
    have : (OfNat.ofNat (1000 : Nat) : Int) = 1000 := rfl
    omega
  refine ⟨fun z hz => ⟨fun g => ⟨big a (by omega), fun m n hm hn t ht => ⟨t, rfl, rfl, cut a t m n hm hn ht⟩⟩, fun g => ⟨a, rfl, rfl, cut' a (by omega)⟩⟩, fun x hx => ⟨fun z hz => ⟨fun g => ⟨big b (by omega), fun m n hm hn t ht => ⟨t, rfl, rfl, cut b t m n hm hn ht⟩⟩, fun g => ⟨b, rfl, rfl, cut' b (by omega)⟩⟩, fun y hy => ?_⟩⟩
  have hxl : x.length ≤ 1000 := by rw [hx.out, List.length_take]; omega
  have hyl : y.length ≤ 1000 := by rw [hy.out, List.length_take]; omega
  intro X n15 c16 p e h1 hX1 hX2 hX3 Y n20 c21 q f h2 hY1 hY2 hY3
  refine ⟨by omega, fun u hu => ⟨by rw [hu]; simp; omega, fun t ht Z n27 c28 r g h3 hZ1 hZ2 hZ3 => ?_⟩⟩
  obtain ⟨f1, f2, f3⟩ := two_facts hxl hyl (show t = x ++ 10 :: y by rw [ht, hu]; simp) h1 h2 h3
  refine ⟨fun he => ⟨fun _ z31 h31 => ⟨fun _ => trivial, fun h => ?_⟩, fun h => absurd (f1 he).1 h⟩, fun he => ?_⟩
  · have := (f1 he).2
    rw [this] at hZ1
    simp at hZ1
    omega
  have he : e = 0 := by simpa using he
  refine ⟨fun hf => ⟨fun _ z32 h32 z33 h33 z34 h34 => ⟨fun _ => trivial, fun h => ?_⟩, fun h => absurd (f2 he hf).1 h⟩, fun hf => ?_⟩
  · have hr := (f2 he hf).2
    have hq : 0 ≤ q ∧ q ≤ 5000 := by
      have hgen : ∀ (i : Nat) (l : List Int) (acc R : List (List CV)) (p e : Int), U.Lexed i l acc R p e → i + l.length ≤ 5000 → 0 ≤ p ∧ p ≤ 5000 := by
        intro i l acc R p e h
        induction h with
        | stop => intro _; omega
        | skip i c l acc R p e hb _ ih => intro hi; exact ih (by simp at hi; omega)
        | tok i c l acc R p e hb he _ ih =>
          intro hi
          refine ih ?_
          rw [List.length_drop]
          have := tk_le (c :: l)
          omega
        | bad i c l acc hb he => intro hi; omega
      exact hgen _ _ _ _ _ _ (h2.short (by omega)) (by rw [bare_len]; omega)
    rw [w64 _ (by omega)] at h33
    rw [w64 _ (by omega)] at h34
    exact absurd (by omega) h
  have hf : f = 0 := by simpa using hf
  obtain ⟨hg, hZ⟩ := f3 he hf
  refine ⟨fun h => absurd hg h, fun _ z35 h35 z36 h36 z37 h37 z38 h38 => ?_⟩
  have hZl : n27 = n15 + n20 := by rw [← hZ1, hZ, List.length_append, List.length_map, hX1, hY1]
  rw [w64 _ (by omega)] at h38
  refine ⟨fun h => absurd (by omega) h, fun _ z39 h39 => ⟨?_, fun i hi => ⟨fun gi => ?_, fun gi z59 h59 => ⟨?_, fun k hk => ⟨fun gk => ?_, fun gk => ?_⟩⟩⟩⟩⟩
  · refine ⟨0, ?_⟩
    repeat' (first | exact rfl | with_reducible apply And.intro)
    exact ⟨by omega⟩
  · have hlo := hi.lo
    refine ⟨by omega, fun j hj => ⟨by simp at hj; omega, fun z43 h43 z44 h44 z45 h45 z46 h46 z47 h47 z48 h48 z49 h49 z50 h50 z51 h51 => ?_⟩⟩
    have hj' : j = i.toNat := by simp at hj; omega
    obtain ⟨r1, r2, r3, r4, r5, r6⟩ := fi_right (X := X) (Y := Y) (m := n15 + j) (j := j) (d := x.length + 1) (by omega) (by omega) (Split.rows h2)
    have h46' : z46 = Reck.U.fi Y j 3 := h46
    rw [w64 _ (by omega)] at h48
    rw [w64 _ (by omega)] at h49
    rw [w64 _ (by omega)] at h51
    refine ⟨by omega, fun m hm => ⟨by simp at hm; omega, fun z53 h53 z54 h54 z55 h55 z56 h56 => ⟨fun h => ?_, fun _ z57 h57 => ?_⟩⟩⟩
    · have hm' : m = n15 + j := by simp at hm; omega
      subst hm'
      have h53' : z53 = Reck.U.fi Z (n15 + j) 0 := h53
      have h54' : z54 = Reck.U.fs Z (n15 + j) 1 := h54
      have h55' : z55 = Reck.U.fi Z (n15 + j) 2 := h55
      have h56' : z56 = Reck.U.fi Z (n15 + j) 3 := h56
      rw [hZ] at h53' h54' h55' h56'
      refine absurd ⟨h53'.trans (r1.trans h43.symm), h54'.trans (r2.trans h44.symm), h55'.trans (r3.trans h45.symm), ?_, trivial⟩ h
      rw [h56', r4]; omega
    · rw [w64 _ (by omega)] at h57
      refine ⟨z57, ?_⟩
      repeat' (first | exact rfl | with_reducible apply And.intro)
      · exact ⟨by omega⟩
      · omega
  · refine ⟨0, ?_⟩
    repeat' (first | exact rfl | with_reducible apply And.intro)
    exact ⟨by omega⟩
  · have hlo := hk.lo
    refine ⟨by omega, fun j hj => ⟨by simp at hj; omega, fun z43 h43 z44 h44 z45 h45 z46 h46 => ⟨by omega, fun m hm => ⟨by simp at hm; omega, fun z53 h53 z54 h54 z55 h55 z56 h56 => ⟨fun h => ?_, fun _ z57 h57 => ?_⟩⟩⟩⟩⟩
    · have hmj : m = j := by simp at hm hj; omega
      subst hmj
      have hjl : m < X.length := by simp at hj; omega
      have h53' : z53 = Reck.U.fi Z m 0 := h53
      have h54' : z54 = Reck.U.fs Z m 1 := h54
      have h55' : z55 = Reck.U.fi Z m 2 := h55
      have h56' : z56 = Reck.U.fi Z m 3 := h56
      rw [hZ] at h53' h54' h55' h56'
      rw [(fi_left hjl).1] at h53' h55' h56'
      rw [(fi_left hjl).2] at h54'
      exact absurd ⟨h53'.trans h43.symm, h54'.trans h44.symm, h55'.trans h45.symm, h56'.trans h46.symm, trivial⟩ h
    · rw [w64 _ (by omega)] at h57
      refine ⟨z57, ?_⟩
      repeat' (first | exact rfl | with_reducible apply And.intro)
      · exact ⟨by omega⟩
      · omega
  · trivial
theorem tLT4_ok : TblOk Tryd.prog tLT4 := tblOr_ok (tblIf_ok pSplit_ok) (tblIf_ok pAwake_ok)
theorem lexTwo_walk (a b : ByteArray) (w : World) (ha : a.size ≤ maxLen) (hb : b.size ≤ maxLen) : Calls Tryd.prog 4 #[.string a, .string b] w fun en w' => en = .returned (.bool true) ∧ Only (fun _ => False) w w' :=
  call_true noOv names (conOk_ofR tLT4_ok) (lexTwo_run (a.data.toList.map fun b => (b.toNat : Int)) (b.data.toList.map fun b => (b.toNat : Int))) (ok_empty w) (vs := [.string a, .string b]) (by simp only [List.map_cons, List.map_nil, str_av])
end Go.Proofs.YtmofnbnlmhppiaaDoor
end
