/- Parts of a proof, one behind the other: LW0 LW1. No condition. -/
import Derived.Test.YtdlmiebiineabaaDoorGE
import Derived.Test.YtdlmiebiineabaaDoorGC
import Derived.Test.YtdlmiebiineabaaDoorRkK
section
namespace Go.Proofs.YtdlmiebiineabaaDoor
open Go Reck Ost
set_option linter.unusedVariables false
structure U.wdI (i : Int) (s : List Int) (L : List (List CV)) (n c : Nat) : Prop where
  lo : 0 ≤ i ∧ i ≤ 30
  len : L.length = n ∧ n ≤ c ∧ (n : Int) ≤ i
  sz : (s.length : Int) ≤ 25 * i
  bare : ∀ r, U.bare false (s ++ r) = U.bare false s ++ U.bare false r
  lx : ∃ T : List (List CV), T.length = n ∧ (∀ j : Nat, j < n → Reck.U.fs T j 1 = Reck.U.fs L j 0) ∧ ∀ (m : List Int) (R : List (List CV)) (p e : Int), U.Lexed s.length m T R p e → U.Lexed 0 (U.bare false s ++ m) [] R p e
structure U.ixI (n : Nat) (i : Int) : Prop where
  lo : 0 ≤ i ∧ i ≤ n
def wdInv (tm : List AV) (σ : St) : Inv where
  X := Int × (List Int × (List (List CV) × (Nat × Nat)))
  tags := [0]
  tag _ _ := 0
  J := [0, 2, 3, 4, 7, 8, 9, 10, 11, 12, 13, 14, 15, 16, 17, 21, 22, 23, 24, 25, 26, 27, 28, 29, 30, 31, 32, 33, 34, 35, 36, 37, 38, 39, 40, 41, 42, 43, 44, 45, 46, 47, 48, 49, 50, 51, 52, 53, 54, 55, 56, 57, 58, 59, 60, 61, 62, 63, 64, 65, 66, 67, 68, 69, 70, 71, 72, 73, 74, 75, 76, 77, 78, 79, 80, 81, 82, 83, 84, 85, 86, 87, 88, 89, 90, 91, 92, 93, 94, 95, 96, 97, 98, 99, 100]
  val _ x := [(20, xi .i64 x.1), (5, cell (strC x.2.1)), (6, cell (rslC ⟨σ.arrs.length, 1, 0, x.2.2.2.1, x.2.2.2.2⟩))]
  st _ x σ' := ⟨σ'.heap, σ'.ints, σ'.opqs, σ'.arrs.dropLast ++ [some ⟨9, .o (.rows [.s] x.2.2.1), [], x.2.2.2.2, false⟩], σ'.junks⟩
  I _ x := U.wdI x.1 x.2.1 x.2.2.1 x.2.2.2.1 x.2.2.2.2
  m _ x := 31 - x.1.toNat
  ren tm' σ' := ([], [(rslS tm' 6).a])
def wxInv (tm : List AV) : Inv where
  X := Int
  tags := [0]
  tag _ _ := 0
  J := [0, 1, 2, 3, 4, 5, 7, 8, 9, 10, 11, 12, 13, 14, 15, 16, 17, 18, 19, 20, 21, 22, 23, 24, 25, 26, 27, 28, 29, 30, 31, 32, 33, 34, 35, 36, 37, 38, 39, 40, 41, 42, 43, 44, 45, 46, 47, 48, 49, 50, 51, 52, 53, 54, 55, 56, 57, 58, 59, 60, 61, 62, 63, 64, 65, 66, 67, 68, 69, 70, 71, 72, 73, 74, 75, 76, 77, 78, 79, 80, 81, 82, 83, 84, 88, 89, 90, 91, 92, 93, 94, 95, 96, 97, 98, 99, 100]
  val _ x := [(87, xi .i64 x)]
  st _ _ σ' := σ'
  I _ x := U.ixI (slotI tm 86).toNat x
  m _ x := (slotI tm 86).toNat - x.toNat
  ren := noRen
def invLW : InvF := fun c tm σ => match tm.length, firstReg c with
  | 101, some 4 => some (wdInv tm σ)
  | 101, some 19 => some (wxInv tm)
  | _, _ => none
def tLW : Tbl := tblOr (tblIf 7 (pSplit 33)) (tblOr (tblIf 8 (pSplit 37)) (tblIf 10 pAwake))
def wdS (W : List (List CV)) (G : List Int) : St := ⟨[], [], 0, [some ⟨9, .o (.rows [.s] W), [], 0, true⟩, some ⟨3, .n .i64, G, 0, true⟩], 0⟩
set_option maxRecDepth 100000
--PLAIN
theorem lexWords_vc (W : List (List CV)) (n c : Nat) (G : List Int) (m d : Nat) : (goT Tryd.prog [] (orcR invLW (fun _ _ _ => none) tLW) (opMem Tryd.prog) 3000 (.inr (.inr (.inr (.inr 5)))) [cell (rslC ⟨0, 1, 0, n, c⟩), cell (aslC ⟨1, 0, m, d⟩)] (wdS W G) isTrue) = (∀ (z0 : Int), z0 = (↑n : Int) → (∃ (y1 : Int × List Int × List (List CV) × Nat × Nat), ((0 : Nat) = (0 : Nat) ∧ m = m ∧ d = d) ∧ [] = Prod.fst (Prod.snd y1) ∧ ((0 : Nat) = (0 : Nat) ∧ (0 : Nat) = Prod.fst (Prod.snd (Prod.snd (Prod.snd y1))) ∧ (0 : Nat) = Prod.snd (Prod.snd (Prod.snd (Prod.snd y1)))) ∧ ((0 : Nat) = (0 : Nat) ∧ n = n ∧ c = c) ∧ z0 = z0 ∧ (0 : Int) = Prod.fst y1 ∧ (W = W ∧ (0 : Nat) = (0 : Nat) ∧ true = true) ∧ (G = G ∧ (0 : Nat) = (0 : Nat) ∧ true = true) ∧ (U.nilL = Prod.fst (Prod.snd (Prod.snd y1)) ∧ (0 : Nat) = Prod.snd (Prod.snd (Prod.snd (Prod.snd y1))) ∧ false = false) ∧ U.wdI (Prod.fst y1) (Prod.fst (Prod.snd y1)) (Prod.fst (Prod.snd (Prod.snd y1))) (Prod.fst (Prod.snd (Prod.snd (Prod.snd y1)))) (Prod.snd (Prod.snd (Prod.snd (Prod.snd y1))))) ∧ ∀ (x2 : Int × List Int × List (List CV) × Nat × Nat), U.wdI (Prod.fst x2) (Prod.fst (Prod.snd x2)) (Prod.fst (Prod.snd (Prod.snd x2))) (Prod.fst (Prod.snd (Prod.snd (Prod.snd x2)))) (Prod.snd (Prod.snd (Prod.snd (Prod.snd x2)))) → (Prod.fst x2 < z0 → ((0 : Int) ≤ Prod.fst x2 ∧ Prod.fst x2 < (↑n : Int)) ∧ ∀ (j3 : Nat), (↑j3 : Int) = (↑((0 : Nat)) : Int) + Prod.fst x2 → j3 < List.length W ∧ ∀ (z4 : List Int), z4 = U.fs W j3 ((0 : Nat)) → ((30 : Int) ≤ Prod.fst x2 → ∀ (L5 : List (List CV)) (n6 c7 : Nat) (p8 e9 : Int), U.Split (Prod.fst (Prod.snd x2)) L5 p8 e9 → List.length L5 = n6 → n6 ≤ c7 → n6 ≤ (4096 : Nat) → (¬e9 = (0 : Int) → Err [(200 : Nat)]) ∧ (¬¬e9 = (0 : Int) → ∀ (z10 : Int), z10 = (↑n6 : Int) → ∀ (z11 : Int), z11 = (↑(Prod.fst (Prod.snd (Prod.snd (Prod.snd x2)))) : Int) → (¬z10 = z11 → Err [(200 : Nat)]) ∧ (¬¬z10 = z11 → ∀ (z12 : Int), z12 = (↑n6 : Int) → (∃ (y13 : Int), ((0 : Nat) = (0 : Nat) ∧ Prod.fst (Prod.snd (Prod.snd (Prod.snd x2))) = Prod.fst (Prod.snd (Prod.snd (Prod.snd x2))) ∧ Prod.snd (Prod.snd (Prod.snd (Prod.snd x2))) = Prod.snd (Prod.snd (Prod.snd (Prod.snd x2)))) ∧ ((0 : Nat) = (0 : Nat) ∧ n6 = n6 ∧ c7 = c7) ∧ z12 = z12 ∧ (0 : Int) = y13 ∧ (W = W ∧ (0 : Nat) = (0 : Nat) ∧ true = true) ∧ (G = G ∧ (0 : Nat) = (0 : Nat) ∧ true = true) ∧ (Prod.fst (Prod.snd (Prod.snd x2)) = Prod.fst (Prod.snd (Prod.snd x2)) ∧ Prod.snd (Prod.snd (Prod.snd (Prod.snd x2))) = Prod.snd (Prod.snd (Prod.snd (Prod.snd x2))) ∧ false = false) ∧ (L5 = L5 ∧ c7 = c7 ∧ false = false) ∧ U.ixI (Int.toNat z12) y13) ∧ ∀ (x14 : Int), U.ixI (Int.toNat z12) x14 → (x14 < z12 → ((0 : Int) ≤ x14 ∧ x14 < (↑n6 : Int)) ∧ ∀ (j15 : Nat), (↑j15 : Int) = (↑((0 : Nat)) : Int) + x14 → j15 < List.length L5 ∧ ∀ (z16 : Int), z16 = U.fi L5 j15 ((0 : Nat)) → ∀ (z17 : List Int), z17 = U.fs L5 j15 ((0 : Nat) + (1 : Nat)) → ∀ (z18 : Int), z18 = U.fi L5 j15 ((0 : Nat) + (1 : Nat) + (1 : Nat)) → ∀ (z19 : Int), z19 = U.fi L5 j15 ((0 : Nat) + (1 : Nat) + (1 : Nat) + (1 : Nat)) → ((0 : Int) ≤ x14 ∧ x14 < (↑(Prod.fst (Prod.snd (Prod.snd (Prod.snd x2)))) : Int)) ∧ ∀ (j20 : Nat), (↑j20 : Int) = (↑((0 : Nat)) : Int) + x14 → j20 < List.length (Prod.fst (Prod.snd (Prod.snd x2))) ∧ ∀ (z21 : List Int), z21 = U.fs (Prod.fst (Prod.snd (Prod.snd x2))) j20 ((0 : Nat)) → (¬z17 = z21 → Err [(200 : Nat)]) ∧ (¬¬z17 = z21 → ∀ (z22 : Int), z22 = IntKind.wrap IntKind.i64 (x14 + (1 : Int)) → ∃ (y23 : Int), ((0 : Nat) = (0 : Nat) ∧ Prod.fst (Prod.snd (Prod.snd (Prod.snd x2))) = Prod.fst (Prod.snd (Prod.snd (Prod.snd x2))) ∧ Prod.snd (Prod.snd (Prod.snd (Prod.snd x2))) = Prod.snd (Prod.snd (Prod.snd (Prod.snd x2)))) ∧ ((0 : Nat) = (0 : Nat) ∧ n6 = n6 ∧ c7 = c7) ∧ z12 = z12 ∧ z22 = y23 ∧ (W = W ∧ (0 : Nat) = (0 : Nat) ∧ true = true) ∧ (G = G ∧ (0 : Nat) = (0 : Nat) ∧ true = true) ∧ (Prod.fst (Prod.snd (Prod.snd x2)) = Prod.fst (Prod.snd (Prod.snd x2)) ∧ Prod.snd (Prod.snd (Prod.snd (Prod.snd x2))) = Prod.snd (Prod.snd (Prod.snd (Prod.snd x2))) ∧ false = false) ∧ (L5 = L5 ∧ c7 = c7 ∧ false = false) ∧ U.ixI (Int.toNat z12) y23 ∧ Int.toNat z12 - Int.toNat y23 < Int.toNat z12 - Int.toNat x14)) ∧ (¬x14 < z12 → True)))) ∧ (¬(30 : Int) ≤ Prod.fst x2 → ∀ (L24 : List (List CV)) (n25 c26 : Nat) (p27 e28 : Int), U.Split z4 L24 p27 e28 → List.length L24 = n25 → n25 ≤ c26 → n25 ≤ (4096 : Nat) → (¬e28 = (0 : Int) → ∀ (z29 : Int), z29 = IntKind.wrap IntKind.i64 (Prod.fst x2 + (1 : Int)) → ∃ (y30 : Int × List Int × List (List CV) × Nat × Nat), ((0 : Nat) = (0 : Nat) ∧ m = m ∧ d = d) ∧ Prod.fst (Prod.snd x2) = Prod.fst (Prod.snd y30) ∧ ((0 : Nat) = (0 : Nat) ∧ Prod.fst (Prod.snd (Prod.snd (Prod.snd x2))) = Prod.fst (Prod.snd (Prod.snd (Prod.snd y30))) ∧ Prod.snd (Prod.snd (Prod.snd (Prod.snd x2))) = Prod.snd (Prod.snd (Prod.snd (Prod.snd y30)))) ∧ ((0 : Nat) = (0 : Nat) ∧ n = n ∧ c = c) ∧ z0 = z0 ∧ z29 = Prod.fst y30 ∧ (W = W ∧ (0 : Nat) = (0 : Nat) ∧ true = true) ∧ (G = G ∧ (0 : Nat) = (0 : Nat) ∧ true = true) ∧ (Prod.fst (Prod.snd (Prod.snd x2)) = Prod.fst (Prod.snd (Prod.snd y30)) ∧ Prod.snd (Prod.snd (Prod.snd (Prod.snd x2))) = Prod.snd (Prod.snd (Prod.snd (Prod.snd y30))) ∧ false = false) ∧ U.wdI (Prod.fst y30) (Prod.fst (Prod.snd y30)) (Prod.fst (Prod.snd (Prod.snd y30))) (Prod.fst (Prod.snd (Prod.snd (Prod.snd y30)))) (Prod.snd (Prod.snd (Prod.snd (Prod.snd y30)))) ∧ (31 : Nat) - Int.toNat (Prod.fst y30) < (31 : Nat) - Int.toNat (Prod.fst x2)) ∧ (¬¬e28 = (0 : Int) → ∀ (z31 : Int), z31 = (↑n25 : Int) → (¬z31 = (1 : Int) → ∀ (z32 : Int), z32 = IntKind.wrap IntKind.i64 (Prod.fst x2 + (1 : Int)) → ∃ (y33 : Int × List Int × List (List CV) × Nat × Nat), ((0 : Nat) = (0 : Nat) ∧ m = m ∧ d = d) ∧ Prod.fst (Prod.snd x2) = Prod.fst (Prod.snd y33) ∧ ((0 : Nat) = (0 : Nat) ∧ Prod.fst (Prod.snd (Prod.snd (Prod.snd x2))) = Prod.fst (Prod.snd (Prod.snd (Prod.snd y33))) ∧ Prod.snd (Prod.snd (Prod.snd (Prod.snd x2))) = Prod.snd (Prod.snd (Prod.snd (Prod.snd y33)))) ∧ ((0 : Nat) = (0 : Nat) ∧ n = n ∧ c = c) ∧ z0 = z0 ∧ z32 = Prod.fst y33 ∧ (W = W ∧ (0 : Nat) = (0 : Nat) ∧ true = true) ∧ (G = G ∧ (0 : Nat) = (0 : Nat) ∧ true = true) ∧ (Prod.fst (Prod.snd (Prod.snd x2)) = Prod.fst (Prod.snd (Prod.snd y33)) ∧ Prod.snd (Prod.snd (Prod.snd (Prod.snd x2))) = Prod.snd (Prod.snd (Prod.snd (Prod.snd y33))) ∧ false = false) ∧ U.wdI (Prod.fst y33) (Prod.fst (Prod.snd y33)) (Prod.fst (Prod.snd (Prod.snd y33))) (Prod.fst (Prod.snd (Prod.snd (Prod.snd y33)))) (Prod.snd (Prod.snd (Prod.snd (Prod.snd y33)))) ∧ (31 : Nat) - Int.toNat (Prod.fst y33) < (31 : Nat) - Int.toNat (Prod.fst x2)) ∧ (¬¬z31 = (1 : Int) → ((0 : Int) ≤ (0 : Int) ∧ (0 : Int) < (↑n25 : Int)) ∧ ∀ (j34 : Nat), (↑j34 : Int) = (↑((0 : Nat)) : Int) + (0 : Int) → j34 < List.length L24 ∧ ∀ (z35 : List Int), z35 = U.fs L24 j34 ((0 : Nat) + (1 : Nat)) → (¬z35 = z4 → ∀ (z36 : Int), z36 = IntKind.wrap IntKind.i64 (Prod.fst x2 + (1 : Int)) → ∃ (y37 : Int × List Int × List (List CV) × Nat × Nat), ((0 : Nat) = (0 : Nat) ∧ m = m ∧ d = d) ∧ Prod.fst (Prod.snd x2) = Prod.fst (Prod.snd y37) ∧ ((0 : Nat) = (0 : Nat) ∧ Prod.fst (Prod.snd (Prod.snd (Prod.snd x2))) = Prod.fst (Prod.snd (Prod.snd (Prod.snd y37))) ∧ Prod.snd (Prod.snd (Prod.snd (Prod.snd x2))) = Prod.snd (Prod.snd (Prod.snd (Prod.snd y37)))) ∧ ((0 : Nat) = (0 : Nat) ∧ n = n ∧ c = c) ∧ z0 = z0 ∧ z36 = Prod.fst y37 ∧ (W = W ∧ (0 : Nat) = (0 : Nat) ∧ true = true) ∧ (G = G ∧ (0 : Nat) = (0 : Nat) ∧ true = true) ∧ (Prod.fst (Prod.snd (Prod.snd x2)) = Prod.fst (Prod.snd (Prod.snd y37)) ∧ Prod.snd (Prod.snd (Prod.snd (Prod.snd x2))) = Prod.snd (Prod.snd (Prod.snd (Prod.snd y37))) ∧ false = false) ∧ U.wdI (Prod.fst y37) (Prod.fst (Prod.snd y37)) (Prod.fst (Prod.snd (Prod.snd y37))) (Prod.fst (Prod.snd (Prod.snd (Prod.snd y37)))) (Prod.snd (Prod.snd (Prod.snd (Prod.snd y37)))) ∧ (31 : Nat) - Int.toNat (Prod.fst y37) < (31 : Nat) - Int.toNat (Prod.fst x2)) ∧ (¬¬z35 = z4 → ∀ (z38 : Int), z38 = (↑m : Int) → (Prod.fst x2 < z38 → ((0 : Int) ≤ Prod.fst x2 ∧ Prod.fst x2 < (↑m : Int)) ∧ ∀ (j39 : Nat), (↑j39 : Int) = (↑((0 : Nat)) : Int) + Prod.fst x2 → j39 < List.length G ∧ ∀ (z40 : Int), z40 = List.getD G j39 (0 : Int) → ∀ (z41 : Int), z41 = andI IntKind.i64 z40 (3 : Int) → ((0 : Int) ≤ z41 ∧ z41 < (↑((4 : Nat)) : Int)) ∧ (((True ∧ (z41 = (0 : Int) → List.length z4 + (1 : Nat) ≤ (1000000000000 : Nat) ∧ ∀ (l'42 : List Int), l'42 = z4 ++ [(32 : Int)] → List.length (Prod.fst (Prod.snd x2)) + List.length l'42 ≤ (1000000000000 : Nat) ∧ ∀ (l'43 : List Int), l'43 = Prod.fst (Prod.snd x2) ++ l'42 → ((0 : Nat) + Prod.fst (Prod.snd (Prod.snd (Prod.snd x2))) ≤ List.length (Prod.fst (Prod.snd (Prod.snd x2))) ∧ (0 : Nat) + Prod.snd (Prod.snd (Prod.snd (Prod.snd x2))) ≤ Prod.snd (Prod.snd (Prod.snd (Prod.snd x2)))) ∧ True ∧ Prod.fst (Prod.snd (Prod.snd (Prod.snd x2))) ≤ (16777216 : Nat) ∧ (1 : Nat) ≤ (16777216 : Nat) ∧ ∀ (L'44 : List (List CV)) (n'45 c'46 : Nat), L'44 = List.take (Prod.fst (Prod.snd (Prod.snd (Prod.snd x2)))) (List.drop ((0 : Nat)) (Prod.fst (Prod.snd (Prod.snd x2)))) ++ [CV.s z4] :: U.nilL → n'45 = Prod.fst (Prod.snd (Prod.snd (Prod.snd x2))) + (1 : Nat) → n'45 ≤ c'46 → ∀ (z47 : Int), z47 = IntKind.wrap IntKind.i64 (Prod.fst x2 + (1 : Int)) → ∃ (y48 : Int × List Int × List (List CV) × Nat × Nat), ((0 : Nat) = (0 : Nat) ∧ m = m ∧ d = d) ∧ l'43 = Prod.fst (Prod.snd y48) ∧ ((0 : Nat) = (0 : Nat) ∧ n'45 = Prod.fst (Prod.snd (Prod.snd (Prod.snd y48))) ∧ c'46 = Prod.snd (Prod.snd (Prod.snd (Prod.snd y48)))) ∧ ((0 : Nat) = (0 : Nat) ∧ n = n ∧ c = c) ∧ z0 = z0 ∧ z47 = Prod.fst y48 ∧ (W = W ∧ (0 : Nat) = (0 : Nat) ∧ true = true) ∧ (G = G ∧ (0 : Nat) = (0 : Nat) ∧ true = true) ∧ (L'44 = Prod.fst (Prod.snd (Prod.snd y48)) ∧ c'46 = Prod.snd (Prod.snd (Prod.snd (Prod.snd y48))) ∧ false = false) ∧ U.wdI (Prod.fst y48) (Prod.fst (Prod.snd y48)) (Prod.fst (Prod.snd (Prod.snd y48))) (Prod.fst (Prod.snd (Prod.snd (Prod.snd y48)))) (Prod.snd (Prod.snd (Prod.snd (Prod.snd y48)))) ∧ (31 : Nat) - Int.toNat (Prod.fst y48) < (31 : Nat) - Int.toNat (Prod.fst x2))) ∧ (z41 = (1 : Int) → List.length z4 + (3 : Nat) ≤ (1000000000000 : Nat) ∧ ∀ (l'49 : List Int), l'49 = z4 ++ [(9 : Int), (32 : Int), (13 : Int)] → List.length (Prod.fst (Prod.snd x2)) + List.length l'49 ≤ (1000000000000 : Nat) ∧ ∀ (l'50 : List Int), l'50 = Prod.fst (Prod.snd x2) ++ l'49 → ((0 : Nat) + Prod.fst (Prod.snd (Prod.snd (Prod.snd x2))) ≤ List.length (Prod.fst (Prod.snd (Prod.snd x2))) ∧ (0 : Nat) + Prod.snd (Prod.snd (Prod.snd (Prod.snd x2))) ≤ Prod.snd (Prod.snd (Prod.snd (Prod.snd x2)))) ∧ True ∧ Prod.fst (Prod.snd (Prod.snd (Prod.snd x2))) ≤ (16777216 : Nat) ∧ (1 : Nat) ≤ (16777216 : Nat) ∧ ∀ (L'51 : List (List CV)) (n'52 c'53 : Nat), L'51 = List.take (Prod.fst (Prod.snd (Prod.snd (Prod.snd x2)))) (List.drop ((0 : Nat)) (Prod.fst (Prod.snd (Prod.snd x2)))) ++ [CV.s z4] :: U.nilL → n'52 = Prod.fst (Prod.snd (Prod.snd (Prod.snd x2))) + (1 : Nat) → n'52 ≤ c'53 → ∀ (z54 : Int), z54 = IntKind.wrap IntKind.i64 (Prod.fst x2 + (1 : Int)) → ∃ (y55 : Int × List Int × List (List CV) × Nat × Nat), ((0 : Nat) = (0 : Nat) ∧ m = m ∧ d = d) ∧ l'50 = Prod.fst (Prod.snd y55) ∧ ((0 : Nat) = (0 : Nat) ∧ n'52 = Prod.fst (Prod.snd (Prod.snd (Prod.snd y55))) ∧ c'53 = Prod.snd (Prod.snd (Prod.snd (Prod.snd y55)))) ∧ ((0 : Nat) = (0 : Nat) ∧ n = n ∧ c = c) ∧ z0 = z0 ∧ z54 = Prod.fst y55 ∧ (W = W ∧ (0 : Nat) = (0 : Nat) ∧ true = true) ∧ (G = G ∧ (0 : Nat) = (0 : Nat) ∧ true = true) ∧ (L'51 = Prod.fst (Prod.snd (Prod.snd y55)) ∧ c'53 = Prod.snd (Prod.snd (Prod.snd (Prod.snd y55))) ∧ false = false) ∧ U.wdI (Prod.fst y55) (Prod.fst (Prod.snd y55)) (Prod.fst (Prod.snd (Prod.snd y55))) (Prod.fst (Prod.snd (Prod.snd (Prod.snd y55)))) (Prod.snd (Prod.snd (Prod.snd (Prod.snd y55)))) ∧ (31 : Nat) - Int.toNat (Prod.fst y55) < (31 : Nat) - Int.toNat (Prod.fst x2))) ∧ (z41 = (2 : Int) → List.length z4 + (9 : Nat) ≤ (1000000000000 : Nat) ∧ ∀ (l'56 : List Int), l'56 = z4 ++ [(35 : Int), (32 : Int), (120 : Int), (32 : Int), (59 : Int), (32 : Int), (57 : Int), (97 : Int), (10 : Int)] → List.length (Prod.fst (Prod.snd x2)) + List.length l'56 ≤ (1000000000000 : Nat) ∧ ∀ (l'57 : List Int), l'57 = Prod.fst (Prod.snd x2) ++ l'56 → ((0 : Nat) + Prod.fst (Prod.snd (Prod.snd (Prod.snd x2))) ≤ List.length (Prod.fst (Prod.snd (Prod.snd x2))) ∧ (0 : Nat) + Prod.snd (Prod.snd (Prod.snd (Prod.snd x2))) ≤ Prod.snd (Prod.snd (Prod.snd (Prod.snd x2)))) ∧ True ∧ Prod.fst (Prod.snd (Prod.snd (Prod.snd x2))) ≤ (16777216 : Nat) ∧ (1 : Nat) ≤ (16777216 : Nat) ∧ ∀ (L'58 : List (List CV)) (n'59 c'60 : Nat), L'58 = List.take (Prod.fst (Prod.snd (Prod.snd (Prod.snd x2)))) (List.drop ((0 : Nat)) (Prod.fst (Prod.snd (Prod.snd x2)))) ++ [CV.s z4] :: U.nilL → n'59 = Prod.fst (Prod.snd (Prod.snd (Prod.snd x2))) + (1 : Nat) → n'59 ≤ c'60 → ∀ (z61 : Int), z61 = IntKind.wrap IntKind.i64 (Prod.fst x2 + (1 : Int)) → ∃ (y62 : Int × List Int × List (List CV) × Nat × Nat), ((0 : Nat) = (0 : Nat) ∧ m = m ∧ d = d) ∧ l'57 = Prod.fst (Prod.snd y62) ∧ ((0 : Nat) = (0 : Nat) ∧ n'59 = Prod.fst (Prod.snd (Prod.snd (Prod.snd y62))) ∧ c'60 = Prod.snd (Prod.snd (Prod.snd (Prod.snd y62)))) ∧ ((0 : Nat) = (0 : Nat) ∧ n = n ∧ c = c) ∧ z0 = z0 ∧ z61 = Prod.fst y62 ∧ (W = W ∧ (0 : Nat) = (0 : Nat) ∧ true = true) ∧ (G = G ∧ (0 : Nat) = (0 : Nat) ∧ true = true) ∧ (L'58 = Prod.fst (Prod.snd (Prod.snd y62)) ∧ c'60 = Prod.snd (Prod.snd (Prod.snd (Prod.snd y62))) ∧ false = false) ∧ U.wdI (Prod.fst y62) (Prod.fst (Prod.snd y62)) (Prod.fst (Prod.snd (Prod.snd y62))) (Prod.fst (Prod.snd (Prod.snd (Prod.snd y62)))) (Prod.snd (Prod.snd (Prod.snd (Prod.snd y62)))) ∧ (31 : Nat) - Int.toNat (Prod.fst y62) < (31 : Nat) - Int.toNat (Prod.fst x2))) ∧ (z41 = (3 : Int) → List.length z4 + (2 : Nat) ≤ (1000000000000 : Nat) ∧ ∀ (l'63 : List Int), l'63 = z4 ++ [(10 : Int), (10 : Int)] → List.length (Prod.fst (Prod.snd x2)) + List.length l'63 ≤ (1000000000000 : Nat) ∧ ∀ (l'64 : List Int), l'64 = Prod.fst (Prod.snd x2) ++ l'63 → ((0 : Nat) + Prod.fst (Prod.snd (Prod.snd (Prod.snd x2))) ≤ List.length (Prod.fst (Prod.snd (Prod.snd x2))) ∧ (0 : Nat) + Prod.snd (Prod.snd (Prod.snd (Prod.snd x2))) ≤ Prod.snd (Prod.snd (Prod.snd (Prod.snd x2)))) ∧ True ∧ Prod.fst (Prod.snd (Prod.snd (Prod.snd x2))) ≤ (16777216 : Nat) ∧ (1 : Nat) ≤ (16777216 : Nat) ∧ ∀ (L'65 : List (List CV)) (n'66 c'67 : Nat), L'65 = List.take (Prod.fst (Prod.snd (Prod.snd (Prod.snd x2)))) (List.drop ((0 : Nat)) (Prod.fst (Prod.snd (Prod.snd x2)))) ++ [CV.s z4] :: U.nilL → n'66 = Prod.fst (Prod.snd (Prod.snd (Prod.snd x2))) + (1 : Nat) → n'66 ≤ c'67 → ∀ (z68 : Int), z68 = IntKind.wrap IntKind.i64 (Prod.fst x2 + (1 : Int)) → ∃ (y69 : Int × List Int × List (List CV) × Nat × Nat), ((0 : Nat) = (0 : Nat) ∧ m = m ∧ d = d) ∧ l'64 = Prod.fst (Prod.snd y69) ∧ ((0 : Nat) = (0 : Nat) ∧ n'66 = Prod.fst (Prod.snd (Prod.snd (Prod.snd y69))) ∧ c'67 = Prod.snd (Prod.snd (Prod.snd (Prod.snd y69)))) ∧ ((0 : Nat) = (0 : Nat) ∧ n = n ∧ c = c) ∧ z0 = z0 ∧ z68 = Prod.fst y69 ∧ (W = W ∧ (0 : Nat) = (0 : Nat) ∧ true = true) ∧ (G = G ∧ (0 : Nat) = (0 : Nat) ∧ true = true) ∧ (L'65 = Prod.fst (Prod.snd (Prod.snd y69)) ∧ c'67 = Prod.snd (Prod.snd (Prod.snd (Prod.snd y69))) ∧ false = false) ∧ U.wdI (Prod.fst y69) (Prod.fst (Prod.snd y69)) (Prod.fst (Prod.snd (Prod.snd y69))) (Prod.fst (Prod.snd (Prod.snd (Prod.snd y69)))) (Prod.snd (Prod.snd (Prod.snd (Prod.snd y69)))) ∧ (31 : Nat) - Int.toNat (Prod.fst y69) < (31 : Nat) - Int.toNat (Prod.fst x2))) ∧ (¬Prod.fst x2 < z38 → List.length z4 + (1 : Nat) ≤ (1000000000000 : Nat) ∧ ∀ (l'70 : List Int), l'70 = z4 ++ [(32 : Int)] → List.length (Prod.fst (Prod.snd x2)) + List.length l'70 ≤ (1000000000000 : Nat) ∧ ∀ (l'71 : List Int), l'71 = Prod.fst (Prod.snd x2) ++ l'70 → ((0 : Nat) + Prod.fst (Prod.snd (Prod.snd (Prod.snd x2))) ≤ List.length (Prod.fst (Prod.snd (Prod.snd x2))) ∧ (0 : Nat) + Prod.snd (Prod.snd (Prod.snd (Prod.snd x2))) ≤ Prod.snd (Prod.snd (Prod.snd (Prod.snd x2)))) ∧ True ∧ Prod.fst (Prod.snd (Prod.snd (Prod.snd x2))) ≤ (16777216 : Nat) ∧ (1 : Nat) ≤ (16777216 : Nat) ∧ ∀ (L'72 : List (List CV)) (n'73 c'74 : Nat), L'72 = List.take (Prod.fst (Prod.snd (Prod.snd (Prod.snd x2)))) (List.drop ((0 : Nat)) (Prod.fst (Prod.snd (Prod.snd x2)))) ++ [CV.s z4] :: U.nilL → n'73 = Prod.fst (Prod.snd (Prod.snd (Prod.snd x2))) + (1 : Nat) → n'73 ≤ c'74 → ∀ (z75 : Int), z75 = IntKind.wrap IntKind.i64 (Prod.fst x2 + (1 : Int)) → ∃ (y76 : Int × List Int × List (List CV) × Nat × Nat), ((0 : Nat) = (0 : Nat) ∧ m = m ∧ d = d) ∧ l'71 = Prod.fst (Prod.snd y76) ∧ ((0 : Nat) = (0 : Nat) ∧ n'73 = Prod.fst (Prod.snd (Prod.snd (Prod.snd y76))) ∧ c'74 = Prod.snd (Prod.snd (Prod.snd (Prod.snd y76)))) ∧ ((0 : Nat) = (0 : Nat) ∧ n = n ∧ c = c) ∧ z0 = z0 ∧ z75 = Prod.fst y76 ∧ (W = W ∧ (0 : Nat) = (0 : Nat) ∧ true = true) ∧ (G = G ∧ (0 : Nat) = (0 : Nat) ∧ true = true) ∧ (L'72 = Prod.fst (Prod.snd (Prod.snd y76)) ∧ c'74 = Prod.snd (Prod.snd (Prod.snd (Prod.snd y76))) ∧ false = false) ∧ U.wdI (Prod.fst y76) (Prod.fst (Prod.snd y76)) (Prod.fst (Prod.snd (Prod.snd y76))) (Prod.fst (Prod.snd (Prod.snd (Prod.snd y76)))) (Prod.snd (Prod.snd (Prod.snd (Prod.snd y76)))) ∧ (31 : Nat) - Int.toNat (Prod.fst y76) < (31 : Nat) - Int.toNat (Prod.fst x2))))))) ∧ (¬Prod.fst x2 < z0 → ∀ (L77 : List (List CV)) (n78 c79 : Nat) (p80 e81 : Int), U.Split (Prod.fst (Prod.snd x2)) L77 p80 e81 → List.length L77 = n78 → n78 ≤ c79 → n78 ≤ (4096 : Nat) → (¬e81 = (0 : Int) → Err [(200 : Nat)]) ∧ (¬¬e81 = (0 : Int) → ∀ (z82 : Int), z82 = (↑n78 : Int) → ∀ (z83 : Int), z83 = (↑(Prod.fst (Prod.snd (Prod.snd (Prod.snd x2)))) : Int) → (¬z82 = z83 → Err [(200 : Nat)]) ∧ (¬¬z82 = z83 → ∀ (z84 : Int), z84 = (↑n78 : Int) → (∃ (y85 : Int), ((0 : Nat) = (0 : Nat) ∧ Prod.fst (Prod.snd (Prod.snd (Prod.snd x2))) = Prod.fst (Prod.snd (Prod.snd (Prod.snd x2))) ∧ Prod.snd (Prod.snd (Prod.snd (Prod.snd x2))) = Prod.snd (Prod.snd (Prod.snd (Prod.snd x2)))) ∧ ((0 : Nat) = (0 : Nat) ∧ n78 = n78 ∧ c79 = c79) ∧ z84 = z84 ∧ (0 : Int) = y85 ∧ (W = W ∧ (0 : Nat) = (0 : Nat) ∧ true = true) ∧ (G = G ∧ (0 : Nat) = (0 : Nat) ∧ true = true) ∧ (Prod.fst (Prod.snd (Prod.snd x2)) = Prod.fst (Prod.snd (Prod.snd x2)) ∧ Prod.snd (Prod.snd (Prod.snd (Prod.snd x2))) = Prod.snd (Prod.snd (Prod.snd (Prod.snd x2))) ∧ false = false) ∧ (L77 = L77 ∧ c79 = c79 ∧ false = false) ∧ U.ixI (Int.toNat z84) y85) ∧ ∀ (x86 : Int), U.ixI (Int.toNat z84) x86 → (x86 < z84 → ((0 : Int) ≤ x86 ∧ x86 < (↑n78 : Int)) ∧ ∀ (j87 : Nat), (↑j87 : Int) = (↑((0 : Nat)) : Int) + x86 → j87 < List.length L77 ∧ ∀ (z88 : Int), z88 = U.fi L77 j87 ((0 : Nat)) → ∀ (z89 : List Int), z89 = U.fs L77 j87 ((0 : Nat) + (1 : Nat)) → ∀ (z90 : Int), z90 = U.fi L77 j87 ((0 : Nat) + (1 : Nat) + (1 : Nat)) → ∀ (z91 : Int), z91 = U.fi L77 j87 ((0 : Nat) + (1 : Nat) + (1 : Nat) + (1 : Nat)) → ((0 : Int) ≤ x86 ∧ x86 < (↑(Prod.fst (Prod.snd (Prod.snd (Prod.snd x2)))) : Int)) ∧ ∀ (j92 : Nat), (↑j92 : Int) = (↑((0 : Nat)) : Int) + x86 → j92 < List.length (Prod.fst (Prod.snd (Prod.snd x2))) ∧ ∀ (z93 : List Int), z93 = U.fs (Prod.fst (Prod.snd (Prod.snd x2))) j92 ((0 : Nat)) → (¬z89 = z93 → Err [(200 : Nat)]) ∧ (¬¬z89 = z93 → ∀ (z94 : Int), z94 = IntKind.wrap IntKind.i64 (x86 + (1 : Int)) → ∃ (y95 : Int), ((0 : Nat) = (0 : Nat) ∧ Prod.fst (Prod.snd (Prod.snd (Prod.snd x2))) = Prod.fst (Prod.snd (Prod.snd (Prod.snd x2))) ∧ Prod.snd (Prod.snd (Prod.snd (Prod.snd x2))) = Prod.snd (Prod.snd (Prod.snd (Prod.snd x2)))) ∧ ((0 : Nat) = (0 : Nat) ∧ n78 = n78 ∧ c79 = c79) ∧ z84 = z84 ∧ z94 = y95 ∧ (W = W ∧ (0 : Nat) = (0 : Nat) ∧ true = true) ∧ (G = G ∧ (0 : Nat) = (0 : Nat) ∧ true = true) ∧ (Prod.fst (Prod.snd (Prod.snd x2)) = Prod.fst (Prod.snd (Prod.snd x2)) ∧ Prod.snd (Prod.snd (Prod.snd (Prod.snd x2))) = Prod.snd (Prod.snd (Prod.snd (Prod.snd x2))) ∧ false = false) ∧ (L77 = L77 ∧ c79 = c79 ∧ false = false) ∧ U.ixI (Int.toNat z84) y95 ∧ Int.toNat z84 - Int.toNat y95 < Int.toNat z84 - Int.toNat x86)) ∧ (¬x86 < z84 → True))))) := by kernel_rfl
end Go.Proofs.YtdlmiebiineabaaDoor
end

section
set_option linter.unusedVariables false
set_option linter.unusedSimpArgs false
namespace Go.Proofs.YtdlmiebiineabaaDoor
open Go Reck Ost
theorem and3 (z : Int) : 0 ≤ andI .i64 z 3 ∧ andI .i64 z 3 < 4 := by
  unfold andI
  have h : (BitVec.ofInt (IntKind.bits .i64) z &&& BitVec.ofInt (IntKind.bits .i64) 3).toNat ≤ 3 := by
    rw [BitVec.toNat_and]; exact Nat.le_trans Nat.and_le_right (by decide)
  rw [w64 _ (by omega)]; omega
/-! ### A text of one token -/
theorem lexed_pre {i : Nat} {l : List Int} {acc R : List (List CV)} {p e : Int} (h : U.Lexed i l acc R p e) : e = 0 → p = 0 ∧ acc.length ≤ R.length ∧ ∀ j : Nat, j < acc.length → R[j]? = acc[j]? := by
  induction h with
  | stop i acc => exact fun _ => ⟨rfl, Nat.le_refl _, fun j _ => rfl⟩
  | skip i c l acc R p e hb _ ih => exact ih
  | tok i c l acc R p e hb he _ ih =>
    intro h0
    obtain ⟨h1, h2, h3⟩ := ih h0
    rw [List.length_append] at h2
    refine ⟨h1, by omega, fun j hj => ?_⟩
    rw [h3 j (by rw [List.length_append]; omega), List.getElem?_append_left hj]
  | bad i c l acc hb he => exact fun h => absurd h he
theorem tk_short (l : List Int) (h : (U.tk l).e = 0) : (U.tk l).n ≤ 16 := by
  unfold U.tk at h ⊢
  split
  · dsimp only
    unfold U.signN
    split
    · split
      · decide
      · split <;> decide
    · split <;> decide
    · decide
  · rename_i hs
    rw [if_neg hs] at h
    dsimp only at h ⊢
    split at h
    · rename_i h1; exact absurd h h1
    · rename_i h1
      rw [if_neg h1]
      dsimp only
      have h1 : (U.kind (l.takeWhile U.alnum)).2 = 0 := by simpa using h1
      unfold U.kind at h1
      split at h1
      · cases h1
      · split at h1
        · split at h1
          · cases h1
          · omega
        · split at h1
          · cases h1
          · split at h1
            · cases h1
            · omega
theorem lexed_one {i : Nat} {l : List Int} {acc R : List (List CV)} {p e : Int} (h : U.Lexed i l acc R p e) : e = 0 → acc = [] → R.length = 1 → (Reck.U.fs R 0 1).length ≤ l.length ∧ ((Reck.U.fs R 0 1).length = l.length → Reck.U.fs R 0 1 = l ∧ l ≠ [] ∧ U.blank (l.getD 0 0) = false ∧ (U.tk l).e = 0 ∧ (U.tk l).n = l.length) := by
  induction h with
  | stop i acc => intro _ ha h1; rw [ha] at h1; cases h1
  | skip i c l acc R p e hb _ ih =>
    intro h0 ha h1
    have := (ih h0 ha h1).1
    rw [List.length_cons]
    exact ⟨by omega, fun h => by omega⟩
  | tok i c l acc R p e hb he hr ih =>
    intro h0 ha h1
    subst ha
    obtain ⟨_, _, h3⟩ := lexed_pre hr h0
    have h4 := h3 0 (by simp)
    have hle := tk_le (c :: l)
    have hf : Reck.U.fs R 0 1 = (c :: l).take (U.tk (c :: l)).n := by
      unfold Reck.U.fs
      rw [List.getD_eq_getElem?_getD, h4]
      rfl
    rw [hf, List.length_take]
    refine ⟨by omega, fun h => ⟨List.take_of_length_le (by omega), by simp, hb, he, by omega⟩⟩
  | bad i c l acc hb he => intro h; exact absurd h he
/-! ### Behind a word stand blanks -/
theorem bare_self : ∀ (w x : List Int), U.bare false w = w → U.bare false (w ++ x) = w ++ U.bare false x
  | [], x, _ => rfl
  | c :: w, x, h => by
    rw [bare_cons] at h
    rw [List.cons_append, bare_cons]
    split at h
    · rename_i hc
      rw [if_pos hc, List.cons_append, hc, bare_self w x (by simpa using (List.cons.inj h).2)]
    · rename_i hc
      split at h
      · rename_i h35
        have := (List.cons.inj h).1
        simp at h35
        omega
      · rename_i h35
        rw [if_neg hc, if_neg h35, List.cons_append, bare_self w x (by simpa using (List.cons.inj h).2)]
theorem takeW_end (d : Int) (m : List Int) (hd : U.alnum d = false) : ∀ (l : List Int), (l ++ d :: m).takeWhile U.alnum = l.takeWhile U.alnum
  | [] => by rw [List.nil_append, List.takeWhile_cons, hd]; rfl
  | c :: l => by
    rw [List.cons_append, List.takeWhile_cons, List.takeWhile_cons]
    split
    · rw [takeW_end d m hd l]
    · rfl
theorem tk_end (d c : Int) (l m : List Int) (hd : U.alnum d = false) (h62 : d ≠ 62) : U.tk ((c :: l) ++ d :: m) = U.tk (c :: l) := by
  have hs : U.signN ((c :: l) ++ d :: m) = U.signN (c :: l) := by
    cases l with
    | nil => simp [U.signN, h62]
    | cons d l => rfl
  unfold U.tk
  rw [hs, takeW_end d m hd]
theorem lexed_blanks {L R : List (List CV)} {p e : Int} {m : List Int} : ∀ (b : List Int) (i : Nat), (∀ d ∈ b, U.blank d = true) → U.Lexed (i + b.length) m L R p e → U.Lexed i (b ++ m) L R p e
  | [], i, _, h => h
  | d :: b, i, hb, h => by
    refine U.Lexed.skip i d (b ++ m) L R p e (hb d (by simp)) (lexed_blanks b (i + 1) (fun x hx => hb x (by simp [hx])) ?_)
    rw [List.length_cons] at h
    rw [show i + 1 + b.length = i + (b.length + 1) by omega]; exact h
/-- A gap, and what it is without remarks. -/
structure U.gap (g b : List Int) : Prop where
  bare : ∀ r, U.bare false (g ++ r) = b ++ U.bare false r
  len : g.length = b.length ∧ 1 ≤ b.length ∧ b.length ≤ 9
  blank : ∀ d ∈ b, U.blank d = true
theorem gap0 : U.gap [32] [32] := ⟨fun r => rfl, by decide, by decide⟩
theorem gap1 : U.gap [9, 32, 13] [9, 32, 13] := ⟨fun r => rfl, by decide, by decide⟩
theorem gap2 : U.gap [35, 32, 120, 32, 59, 32, 57, 97, 10] [32, 32, 32, 32, 32, 32, 32, 32, 10] := ⟨fun r => rfl, by decide, by decide⟩
theorem gap3 : U.gap [10, 10] [10, 10] := ⟨fun r => rfl, by decide, by decide⟩
theorem wd_zero : U.wdI 0 [] [] 0 0 := ⟨by decide, by decide, by decide, fun r => rfl, [], rfl, fun j h => by omega, fun m R p e h => h⟩
theorem wd_skip {i y : Int} {s : List Int} {L : List (List CV)} {n c : Nat} (h : U.wdI i s L n c) (hi : i < 30) (hy : y = i + 1) : U.wdI y s L n c ∧ 31 - y.toNat < 31 - i.toNat := by
  have h0 := h.lo
  have h1 := h.len
  have h2 := h.sz
  subst hy
  exact ⟨⟨by omega, ⟨h1.1, h1.2.1, by omega⟩, by omega, h.bare, h.lx⟩, by omega⟩
theorem wd_step {i y p : Int} {s w g b s' u : List Int} {L L' M : List (List CV)} {n c n' c' : Nat} (h : U.wdI i s L n c) (hi : i < 30) (hy : y = i + 1) (hS : U.Split w M p 0) (hM : M.length = 1) (hw : Reck.U.fs M 0 1 = w) (hg : U.gap g b)
    (hu : u = w ++ g) (hs : s' = s ++ u) (hL : L' = L ++ [[CV.s w]]) (hn : n' = n + 1) (hc : n' ≤ c') : U.wdI y s' L' n' c' ∧ 31 - y.toNat < 31 - i.toNat := by
  have h0 := h.lo
  have h1 := h.len
  have h2 := h.sz
  obtain ⟨g1, g2, g3⟩ := hg
  subst hy
  have hl : w.length ≤ 4096 := by
    rcases Nat.lt_or_ge 4096 w.length with hl | hl
    · have := (hS.long hl).2.2; omega
    · exact hl
  obtain ⟨_, k2⟩ := lexed_one (hS.short hl) rfl rfl hM
  rw [hw, bare_len] at k2
  obtain ⟨k1, k3, k4, k5, k6⟩ := k2 rfl
  rw [← k1] at k3 k4 k5 k6
  have k7 := tk_short w k5
  obtain ⟨T, t1, t2, t3⟩ := h.lx
  have hu' : u.length = w.length + b.length := by rw [hu, List.length_append, g2.1]
  have hbu : ∀ r, U.bare false (u ++ r) = w ++ (b ++ U.bare false r) := fun r => by rw [hu, List.append_assoc, bare_self w _ k1.symm, g1]
  have hs'l : s'.length = s.length + (w.length + b.length) := by rw [hs, List.length_append, hu']
  have hbs : U.bare false s' = U.bare false s ++ (w ++ b) := by
    have := hbu []
    rw [List.append_nil] at this
    have h0 : U.bare false [] = [] := rfl
    rw [hs, h.bare, this, h0, List.append_nil]
  refine ⟨⟨by omega, ⟨by rw [hL, List.length_append]; simp; omega, hc, by omega⟩, by omega, fun r => ?_, T ++ [[.i (U.tk w).k, .s w, .i (U.tk w).z, .i s.length]], by rw [List.length_append]; simp; omega, fun j hj => ?_, fun m R p e hh => ?_⟩, by omega⟩
  · rw [hbs, hs, List.append_assoc, h.bare, hbu]; simp only [List.append_assoc]
  · rcases Nat.lt_or_ge j n with hjn | hjn
    · have e1 : (T ++ [[CV.i (U.tk w).k, CV.s w, CV.i (U.tk w).z, CV.i s.length]]).getD j [] = T.getD j [] := by rw [List.getD_eq_getElem?_getD, List.getD_eq_getElem?_getD, List.getElem?_append_left (by omega)]
      have e2 : L'.getD j [] = L.getD j [] := by rw [hL, List.getD_eq_getElem?_getD, List.getD_eq_getElem?_getD, List.getElem?_append_left (by omega)]
      have := t2 j hjn
      unfold Reck.U.fs at this ⊢
      rw [e1, e2]; exact this
    · obtain rfl : j = n := by omega
      have e1 : (T ++ [[CV.i (U.tk w).k, CV.s w, CV.i (U.tk w).z, CV.i s.length]]).getD j [] = [CV.i (U.tk w).k, CV.s w, CV.i (U.tk w).z, CV.i s.length] := by rw [List.getD_eq_getElem?_getD, List.getElem?_append_right (by omega), show j - T.length = 0 by omega]; rfl
      have e2 : L'.getD j [] = [CV.s w] := by rw [hL, List.getD_eq_getElem?_getD, List.getElem?_append_right (by omega), show j - L.length = 0 by omega]; rfl
      unfold Reck.U.fs
      rw [e1, e2]; rfl
  · rw [hbs, List.append_assoc]
    refine t3 _ R p e ?_
    obtain ⟨d, l, rfl⟩ : ∃ d l, w = d :: l := by cases w with
      | nil => exact absurd rfl k3
      | cons d l => exact ⟨d, l, rfl⟩
    obtain ⟨x, b', rfl⟩ : ∃ x b', b = x :: b' := by cases b with
      | nil => simp at g2
      | cons x b' => exact ⟨x, b', rfl⟩
    have hx := g3 x (by simp)
    have hx' : U.alnum x = false ∧ x ≠ 62 := by
      simp only [U.blank, decide_eq_true_eq] at hx
      exact ⟨by simp only [U.alnum, decide_eq_false_iff_not]; omega, by omega⟩
    have key := tk_end x d l (b' ++ m) hx'.1 hx'.2
    rw [List.append_assoc, show x :: b' ++ m = x :: (b' ++ m) from rfl]
    rw [← key] at k5 k6
    refine U.Lexed.tok s.length d _ T R p e (by simpa using k4) k5 ?_
    have hdr : (d :: l ++ x :: (b' ++ m)).drop (U.tk (d :: l ++ x :: (b' ++ m))).n = x :: (b' ++ m) := by rw [k6]; exact List.drop_left
    have htk : (d :: l ++ x :: (b' ++ m)).take (U.tk (d :: l ++ x :: (b' ++ m))).n = d :: l := by rw [k6]; exact List.take_left
    have e3 : (d :: (l ++ x :: (b' ++ m))) = d :: l ++ x :: (b' ++ m) := rfl
    show U.Lexed (s.length + (U.tk (d :: l ++ x :: (b' ++ m))).n) ((d :: l ++ x :: (b' ++ m)).drop (U.tk (d :: l ++ x :: (b' ++ m))).n) (T ++ [[.i (U.tk (d :: l ++ x :: (b' ++ m))).k, .s ((d :: l ++ x :: (b' ++ m)).take (U.tk (d :: l ++ x :: (b' ++ m))).n), .i (U.tk (d :: l ++ x :: (b' ++ m))).z, .i s.length]]) R p e
    rw [hdr, htk, k6, key]
    refine lexed_blanks (x :: b') _ g3 ?_
    rw [Nat.add_assoc, ← hs'l]
    exact hh
/-- What is read of it all. -/
theorem wd_read {i p e : Int} {s : List Int} {L R : List (List CV)} {n c m : Nat} (h : U.wdI i s L n c) (hS : U.Split s R p e) (hm : R.length = m) : e = 0 ∧ m = n ∧ ∀ j : Nat, j < n → Reck.U.fs R j 1 = Reck.U.fs L j 0 := by
  have h0 := h.lo
  have h2 := h.sz
  obtain ⟨T, t1, t2, t3⟩ := h.lx
  have := t3 [] T 0 0 (U.Lexed.stop _ _)
  rw [List.append_nil] at this
  obtain ⟨rfl, _, rfl⟩ := Lexed.det (hS.short (by omega)) this
  exact ⟨rfl, by omega, t2⟩
theorem lexWords_run (W : List (List CV)) (n c : Nat) (G : List Int) (m d : Nat) (hW : W.length = n) (hG : G.length = m) : goT Tryd.prog [] (orcR invLW (fun _ _ _ => none) tLW) (opMem Tryd.prog) 3000 (.inr (.inr (.inr (.inr 5)))) [cell (rslC ⟨0, 1, 0, n, c⟩), cell (aslC ⟨1, 0, m, d⟩)] (wdS W G) isTrue := by
  rw [lexWords_vc]
  intro z0 hz0
  have E : (0 = 0 ∧ m = m ∧ d = d) := ⟨rfl, rfl, rfl⟩
  have E' : (0 = 0 ∧ n = n ∧ c = c) := ⟨rfl, rfl, rfl⟩
  have EW : (W = W ∧ 0 = 0 ∧ true = true) := ⟨rfl, rfl, rfl⟩
  have EG : (G = G ∧ 0 = 0 ∧ true = true) := ⟨rfl, rfl, rfl⟩
  refine ⟨⟨(0, [], [], 0, 0), E, rfl, ⟨rfl, rfl, rfl⟩, E', rfl, rfl, EW, EG, ⟨rfl, rfl, rfl⟩, wd_zero⟩, ?_⟩
  rintro ⟨i, s, L, k, q⟩ h
  dsimp only at h ⊢
  have h0 := h.lo
  have h1 := h.len
  have fin : ∀ (R : List (List CV)) (n6 c7 : Nat) (p8 e9 : Int), U.Split s R p8 e9 → List.length R = n6 → n6 ≤ c7 → n6 ≤ 4096 → e9 = 0 ∧ n6 = k ∧ ∀ j : Nat, j < k → Reck.U.fs R j 1 = Reck.U.fs L j 0 := fun R n6 c7 p8 e9 hS hR _ _ => wd_read h hS hR
  have hLL : List.take k (List.drop (OfNat.ofNat 0) L) = L := List.take_of_length_le (by simp; omega)
  refine ⟨fun g0 => ⟨by omega, fun j hj => ⟨by simp at hj; omega, fun w hw => ⟨fun g30 R n6 c7 p8 e9 hS hR hR2 hR3 => ?_, fun g30 M n25 c26 p27 e28 hS hM hM2 hM3 => ?_⟩⟩⟩, fun g0 R n6 c7 p8 e9 hS hR hR2 hR3 => ?_⟩
  rotate_left
  · have skip : ∀ y : Int, y = IntKind.wrap .i64 (i + 1) → U.wdI y s L k q ∧ 31 - y.toNat < 31 - i.toNat := fun y hy => wd_skip h (by omega) (by rw [hy, w64 _ (by omega)])
    refine ⟨fun _ y hy => ⟨(y, s, L, k, q), E, rfl, ⟨rfl, rfl, rfl⟩, E', rfl, rfl, EW, EG, ⟨rfl, rfl, rfl⟩, (skip y hy).1, (skip y hy).2⟩, fun ge z31 h31 => ⟨fun _ y hy => ⟨(y, s, L, k, q), E, rfl, ⟨rfl, rfl, rfl⟩, E', rfl, rfl, EW, EG, ⟨rfl, rfl, rfl⟩, (skip y hy).1, (skip y hy).2⟩, fun g1 => ⟨⟨by omega, by omega⟩, fun j34 h34 => ⟨by simp at h34; omega, fun t ht => ⟨fun _ y hy => ⟨(y, s, L, k, q), E, rfl, ⟨rfl, rfl, rfl⟩, E', rfl, rfl, EW, EG, ⟨rfl, rfl, rfl⟩, (skip y hy).1, (skip y hy).2⟩, fun gt z38 h38 => ?_⟩⟩⟩⟩⟩
    have ge : e28 = 0 := by simpa using ge
    subst ge
    have gt : t = w := by simpa using gt
    have hj34 : j34 = 0 := by simp at h34; omega
    subst hj34
    have hwM : Reck.U.fs M 0 1 = w := by rw [← gt, ht]
    have hl : w.length ≤ 4096 := by
      rcases Nat.lt_or_ge 4096 w.length with hl | hl
      · have := (hS.long hl).2.2; omega
      · exact hl
    have hsz := h.sz
    have step : ∀ (g b u s' : List Int) (L' : List (List CV)) (n' c' : Nat) (y : Int), U.gap g b → u = w ++ g → s' = s ++ u → L' = List.take k (List.drop (OfNat.ofNat 0) L) ++ [CV.s w] :: Reck.U.nilL → n' = k + 1 → n' ≤ c' → y = IntKind.wrap .i64 (i + 1) → U.wdI y s' L' n' c' ∧ 31 - y.toNat < 31 - i.toNat := by
      intro g b u s' L' n' c' y hg hu hs hL hn hc hy
      rw [hLL] at hL
      exact wd_step h (by omega) (by rw [hy, w64 _ (by omega)]) hS (by omega) hwM hg hu hs hL hn hc
    refine ⟨fun g2 => ⟨⟨by omega, by omega⟩, fun j39 h39 => ⟨by simp at h39; omega, fun z40 h40 z41 h41 => ⟨by rw [h41]; exact and3 z40, ⟨⟨⟨trivial, fun g3 => ?_⟩, fun g3 => ?_⟩, fun g3 => ?_⟩, fun g3 => ?_⟩⟩⟩, fun g2 => ?_⟩
    · refine ⟨by omega, fun u hu => ⟨by rw [hu, List.length_append]; simp; omega, fun s' hs => ⟨⟨by simp; omega, by omega⟩, trivial, by omega, by decide, fun L' n' c' hL hn hc y hy => ?_⟩⟩⟩
      obtain ⟨q1, q2⟩ := step _ _ u s' L' n' c' y gap0 hu hs hL hn hc hy
      exact ⟨(y, s', L', n', c'), E, rfl, ⟨rfl, rfl, rfl⟩, E', rfl, rfl, EW, EG, ⟨rfl, rfl, rfl⟩, q1, q2⟩
    · refine ⟨by omega, fun u hu => ⟨by rw [hu, List.length_append]; simp; omega, fun s' hs => ⟨⟨by simp; omega, by omega⟩, trivial, by omega, by decide, fun L' n' c' hL hn hc y hy => ?_⟩⟩⟩
      obtain ⟨q1, q2⟩ := step _ _ u s' L' n' c' y gap1 hu hs hL hn hc hy
      exact ⟨(y, s', L', n', c'), E, rfl, ⟨rfl, rfl, rfl⟩, E', rfl, rfl, EW, EG, ⟨rfl, rfl, rfl⟩, q1, q2⟩
    · refine ⟨by omega, fun u hu => ⟨by rw [hu, List.length_append]; simp; omega, fun s' hs => ⟨⟨by simp; omega, by omega⟩, trivial, by omega, by decide, fun L' n' c' hL hn hc y hy => ?_⟩⟩⟩
      obtain ⟨q1, q2⟩ := step _ _ u s' L' n' c' y gap2 hu hs hL hn hc hy
      exact ⟨(y, s', L', n', c'), E, rfl, ⟨rfl, rfl, rfl⟩, E', rfl, rfl, EW, EG, ⟨rfl, rfl, rfl⟩, q1, q2⟩
    · refine ⟨by omega, fun u hu => ⟨by rw [hu, List.length_append]; simp; omega, fun s' hs => ⟨⟨by simp; omega, by omega⟩, trivial, by omega, by decide, fun L' n' c' hL hn hc y hy => ?_⟩⟩⟩
      obtain ⟨q1, q2⟩ := step _ _ u s' L' n' c' y gap3 hu hs hL hn hc hy
      exact ⟨(y, s', L', n', c'), E, rfl, ⟨rfl, rfl, rfl⟩, E', rfl, rfl, EW, EG, ⟨rfl, rfl, rfl⟩, q1, q2⟩
    · refine ⟨by omega, fun u hu => ⟨by rw [hu, List.length_append]; simp; omega, fun s' hs => ⟨⟨by simp; omega, by omega⟩, trivial, by omega, by decide, fun L' n' c' hL hn hc y hy => ?_⟩⟩⟩
      obtain ⟨q1, q2⟩ := step _ _ u s' L' n' c' y gap0 hu hs hL hn hc hy
      exact ⟨(y, s', L', n', c'), E, rfl, ⟨rfl, rfl, rfl⟩, E', rfl, rfl, EW, EG, ⟨rfl, rfl, rfl⟩, q1, q2⟩
  all_goals
    obtain ⟨f1, f2, f3⟩ := fin R n6 c7 p8 e9 hS hR hR2 hR3
    refine ⟨fun h => absurd f1 h, fun _ z10 h10 z11 h11 => ⟨fun h => absurd (by omega) h, fun _ z12 h12 => ⟨⟨0, ⟨rfl, rfl, rfl⟩, ⟨rfl, rfl, rfl⟩, rfl, rfl, EW, EG, ⟨rfl, rfl, rfl⟩, ⟨rfl, rfl, rfl⟩, ⟨by omega⟩⟩, fun x hx => ⟨fun g => ?_, fun _ => trivial⟩⟩⟩⟩
    have hx0 := hx.lo
    refine ⟨by omega, fun j15 h15 => ⟨by simp at h15; omega, fun z16 h16 z17 h17 z18 h18 z19 h19 => ⟨by omega, fun j20 h20 => ⟨by simp at h20; omega, fun z21 h21 => ⟨fun hne => ?_, fun _ y hy => ?_⟩⟩⟩⟩⟩
    · have e1 : j20 = j15 := by simp at h15 h20; omega
      subst e1
      exact absurd (by rw [h17, h21]; exact f3 j20 (by simp at h20; omega)) hne
    · rw [w64 _ (by omega)] at hy
      exact ⟨y, ⟨rfl, rfl, rfl⟩, ⟨rfl, rfl, rfl⟩, rfl, rfl, EW, EG, ⟨rfl, rfl, rfl⟩, ⟨rfl, rfl, rfl⟩, ⟨by omega⟩, by omega⟩
theorem tLW_ok : TblOk Tryd.prog tLW := tblOr_ok (tblIf_ok pSplit_ok) (tblOr_ok (tblIf_ok pRSplit_ok) (tblIf_ok pAwake_ok))
theorem lexWords_walk (A : Option Addr) (len cap : Nat) (ss : List ByteArray) (B : Option Addr) (len' cap' : Nat) (zs : List Int) (w : World) (h : CameS w A len cap ss) (h' : Came2 .i64 w B len' cap' zs) :
    Calls Tryd.prog 5 #[.slice A len cap, .slice B len' cap'] w fun en w' => en = .returned (.bool true) ∧ Only (fun _ => False) w w' := by
  obtain ⟨q1, v1, k1⟩ := h.base 9
  obtain ⟨q2, v2, k2⟩ := h'.base 3
  have hl : ss.length = len := h.1
  have hl' : zs.length = len' := h'.1
  refine call_true (R := orcR invLW (fun _ _ _ => none) tLW) (n := 3000) noOv names (conOk_ofR tLW_ok) (lexWords_run (strRows ss) len cap zs len' cap' (by simp [strRows, hl]) hl') (e := arE [q1, q2]) (ok_arrs w (l := [_, _]) (bs := [q1, q2]) rfl (by simp) (fun i x q hi hq => ?_)) (vs := [.slice A len cap, .slice B len' cap']) ?_
  · match i, hi, hq with
    | 0, hi, hq => simp at hi hq; subst hi; subst hq; exact k1 _ rfl
    | 1, hi, hq => simp at hi hq; subst hi; subst hq; exact k2 _ rfl
  · simp only [List.map_cons, List.map_nil, v1 (arE [q1, q2]) 0 rfl, v2 (arE [q1, q2]) 1 rfl]
end Go.Proofs.YtdlmiebiineabaaDoor
end
