/- Parts of a proof, one behind the other: SN5 SW0 SN6 SN7. No condition. -/
import Derived.Test.YtjhmlagkjpcjnaaGE
import Derived.Test.YtjhmlagkjpcjnaaGA
import Derived.Test.YtjhmlagkjpcjnaaRkV
section
namespace Go.Proofs.Ytjhmlagkjpcjnaa
open Go Reck Ost
set_option linter.unusedVariables false
set_option maxRecDepth 100000
def shA (σ : St) (i : Nat) : Nat := match σ.heap with
  | some ⟨_, l, _, _, _⟩ :: _ => (match aslX (cell (l.getD i nilC)) with | some a => a.a | none => 0)
  | _ => 0
def shM (σ : St) : Int := match σ.heap with
  | some ⟨_, [_, _, m], _, _, _⟩ :: _ => (match xiX (cell m) with | some (_, m) => m | none => 0)
  | _ => 0
def U.ff (k : Int) : Int := 2 * Int.tmod k 1000
structure U.nxI (i : Int) (n c : Nat) (L : List Int) (d : Nat) (M : List Int) : Prop where
  out : 0 ≤ i ∧ ∃ P, U.shI n c c L d d M P ∧ (n : Int) ≤ i ∧ (0 < i → 0 < n) ∧ ∀ p ∈ P, p.2 = U.ff p.1
structure U.nx2 (A : List Int) (a i : Int) : Prop where
  out : 1 ≤ i ∧ i ≤ A.length ∧ a = U.at A (i - 1)
def nxInv (tm : List AV) (σ : St) : Inv where
  X := Int × (Nat × (Nat × (List Int × (Nat × List Int))))
  tags := [0]
  tag _ _ := 0
  J := [1, 2, 4, 5, 6, 7, 8, 9, 10, 11, 12, 13, 14, 15, 16, 17, 18, 19, 20, 24, 25, 26, 27, 28, 29, 30, 31, 32, 33, 34, 35, 36, 37, 38, 39, 40, 41, 42, 43, 44, 45, 46, 47, 48, 49, 50, 51, 52, 53, 54, 55, 56, 57, 58, 59, 60, 61, 62, 63, 64, 65, 66, 67, 68, 69, 70, 71, 72, 73, 74, 75, 76, 77, 78, 79, 80, 81, 82, 83, 84, 85, 86, 87, 88, 89, 90, 91]
  val _ x := [(23, xi .i64 x.1)]
  st _ x σ' := ⟨shB (aslC ⟨σ.arrs.length, 0, x.2.1, x.2.2.1⟩) (aslC ⟨σ.arrs.length + 1, 0, x.2.1, x.2.2.2.2.1⟩) (shM σ') :: σ'.heap.drop 1, σ'.ints, σ'.opqs, σ'.arrs.dropLast.dropLast ++ [some (ib x.2.2.2.1 x.2.2.1 false), some (ib x.2.2.2.2.2 x.2.2.2.2.1 false)], σ'.junks⟩
  I _ x := U.nxI x.1 x.2.1 x.2.2.1 x.2.2.2.1 x.2.2.2.2.1 x.2.2.2.2.2
  m _ x := ((slotS tm 21).n : Int).toNat - x.1.toNat
  ren tm' σ' := ([], [shA σ' 0, shA σ' 1])
def nx2Inv (tm : List AV) (σ : St) : Inv where
  X := Int × Int
  tags := [0]
  tag _ _ := 0
  J := [0, 1, 2, 4, 5, 9, 10, 11, 12, 13, 14, 15, 16, 17, 18, 19, 20, 21, 22, 23, 24, 25, 26, 27, 28, 29, 30, 31, 32, 33, 34, 35, 36, 37, 38, 39, 40, 41, 42, 43, 44, 45, 46, 47, 48, 49, 50, 51, 52, 53, 54, 55, 56, 57, 58, 59, 60, 61, 62, 63, 64, 65, 66, 67, 68, 69, 70, 71, 72, 73, 74, 75, 76, 77, 78, 79, 80, 81, 82, 83, 84, 85, 86, 87, 88, 89, 90, 91]
  val _ x := [(7, xi .i64 x.1), (8, xi .i64 x.2)]
  st _ _ σ' := σ'
  I _ x := U.nx2 (contS tm σ 6) x.1 x.2
  m _ x := ((slotS tm 6).n : Int).toNat - x.2.toNat
  ren := noRen
def invNX : InvF := fun c tm σ => match tm.length, firstReg c with
  | 92, some 5 => some (nxInv tm σ)
  | 92, some 15 => some (nx2Inv tm σ)
  | _, _ => none
def tAwN : Tbl := fun f args σ => if f == 13 then match args, σ with
    | [], ⟨[], [], 0, [], 0⟩ => some fun K => K (lit (.bool true)) emptySt
    | _, _ => none
  else none
def tSN5 : Tbl := tblOr tAwN tSN4
abbrev runNX (f : Nat) (args : List AV) (σ : St) : Prop := goT Try.prog [] (orcR invNX nmt tSN5) (opMem Try.prog) 3000 (.inr (.inr (.inr (.inr f)))) args σ isTrue
--PLAIN
theorem shelfNext_vc (R : List Int) (n c : Nat) : (runNX 7 [cell (aslC ⟨0, 0, n, c⟩)] ⟨[], [], 0, [some (ib R 0 true)], 0⟩) = (∀ (z0 : Int), z0 = (↑n : Int) → ((40 : Int) < z0 → ((0 : Int) ≤ (40 : Int) ∧ (40 : Int) ≤ (↑c : Int)) ∧ ∀ (n1 : Nat), (↑n1 : Int) = (40 : Int) → ∀ (m'2 : Int), m'2 = (64 : Int) → ∀ (z3 : Int), z3 = (↑n1 : Int) → (∃ (y4 : Int × Nat × Nat × List Int × Nat × List Int), ((0 : Nat) = (0 : Nat) ∧ n1 = n1 ∧ c = c) ∧ ((0 : Nat) = (0 : Nat) ∧ n1 = n1 ∧ c = c) ∧ z3 = z3 ∧ (0 : Int) = Prod.fst y4 ∧ ((0 : Nat) = (0 : Nat) ∧ (0 : Nat) = Prod.fst (Prod.snd y4) ∧ (0 : Nat) = Prod.fst (Prod.snd (Prod.snd y4))) ∧ ((0 : Nat) = (0 : Nat) ∧ (0 : Nat) = Prod.fst (Prod.snd y4) ∧ (0 : Nat) = Prod.fst (Prod.snd (Prod.snd (Prod.snd (Prod.snd y4))))) ∧ m'2 = m'2 ∧ (R = R ∧ (0 : Nat) = (0 : Nat) ∧ true = true) ∧ ([] = Prod.fst (Prod.snd (Prod.snd (Prod.snd y4))) ∧ (0 : Nat) = Prod.fst (Prod.snd (Prod.snd y4)) ∧ false = false) ∧ ([] = Prod.snd (Prod.snd (Prod.snd (Prod.snd (Prod.snd y4)))) ∧ (0 : Nat) = Prod.fst (Prod.snd (Prod.snd (Prod.snd (Prod.snd y4)))) ∧ false = false) ∧ U.nxI (Prod.fst y4) (Prod.fst (Prod.snd y4)) (Prod.fst (Prod.snd (Prod.snd y4))) (Prod.fst (Prod.snd (Prod.snd (Prod.snd y4)))) (Prod.fst (Prod.snd (Prod.snd (Prod.snd (Prod.snd y4))))) (Prod.snd (Prod.snd (Prod.snd (Prod.snd (Prod.snd y4)))))) ∧ ∀ (x5 : Int × Nat × Nat × List Int × Nat × List Int), U.nxI (Prod.fst x5) (Prod.fst (Prod.snd x5)) (Prod.fst (Prod.snd (Prod.snd x5))) (Prod.fst (Prod.snd (Prod.snd (Prod.snd x5)))) (Prod.fst (Prod.snd (Prod.snd (Prod.snd (Prod.snd x5))))) (Prod.snd (Prod.snd (Prod.snd (Prod.snd (Prod.snd x5))))) → (Prod.fst x5 < z3 → ((0 : Int) ≤ Prod.fst x5 ∧ Prod.fst x5 < (↑n1 : Int)) ∧ ∀ (j6 : Nat), (↑j6 : Int) = (↑((0 : Nat)) : Int) + Prod.fst x5 → j6 < List.length R ∧ ∀ (z7 : Int), z7 = List.getD R j6 (0 : Int) → ¬(1000 : Int) = (0 : Int) ∧ ∀ (z8 : Int), z8 = Int.tmod z7 (1000 : Int) → ∀ (z9 : Int), z9 = IntKind.wrap IntKind.i64 ((2 : Int) * z8) → ∃ (y10 : Prs), (Prod.fst (Prod.snd x5) = Prod.fst (Prod.snd x5) ∧ U.shI (Prod.fst (Prod.snd x5)) (Prod.fst (Prod.snd (Prod.snd x5))) (Prod.fst (Prod.snd (Prod.snd x5))) (Prod.fst (Prod.snd (Prod.snd (Prod.snd x5)))) (Prod.fst (Prod.snd (Prod.snd (Prod.snd (Prod.snd x5))))) (Prod.fst (Prod.snd (Prod.snd (Prod.snd (Prod.snd x5))))) (Prod.snd (Prod.snd (Prod.snd (Prod.snd (Prod.snd x5))))) y10 ∧ Prod.fst (Prod.snd x5) ≤ (1000 : Nat) ∧ (↑(Prod.fst (Prod.snd x5)) : Int) < m'2) ∧ (U.HasK y10 z7 → ∀ (M'11 : List Int), U.shI (Prod.fst (Prod.snd x5)) (Prod.fst (Prod.snd (Prod.snd x5))) (Prod.fst (Prod.snd (Prod.snd x5))) (Prod.fst (Prod.snd (Prod.snd (Prod.snd x5)))) (Prod.fst (Prod.snd (Prod.snd (Prod.snd (Prod.snd x5))))) (Prod.fst (Prod.snd (Prod.snd (Prod.snd (Prod.snd x5))))) M'11 (U.put y10 z7 z9) → (¬(0 : Int) = (0 : Int) → Err [(200 : Nat)]) ∧ (¬¬(0 : Int) = (0 : Int) → ∀ (z12 : Int), z12 = IntKind.wrap IntKind.i64 (Prod.fst x5 + (1 : Int)) → ∃ (y13 : Int × Nat × Nat × List Int × Nat × List Int), ((0 : Nat) = (0 : Nat) ∧ n1 = n1 ∧ c = c) ∧ ((0 : Nat) = (0 : Nat) ∧ n1 = n1 ∧ c = c) ∧ z3 = z3 ∧ z12 = Prod.fst y13 ∧ ((0 : Nat) = (0 : Nat) ∧ Prod.fst (Prod.snd x5) = Prod.fst (Prod.snd y13) ∧ Prod.fst (Prod.snd (Prod.snd x5)) = Prod.fst (Prod.snd (Prod.snd y13))) ∧ ((0 : Nat) = (0 : Nat) ∧ Prod.fst (Prod.snd x5) = Prod.fst (Prod.snd y13) ∧ Prod.fst (Prod.snd (Prod.snd (Prod.snd (Prod.snd x5)))) = Prod.fst (Prod.snd (Prod.snd (Prod.snd (Prod.snd y13))))) ∧ m'2 = m'2 ∧ (R = R ∧ (0 : Nat) = (0 : Nat) ∧ true = true) ∧ (Prod.fst (Prod.snd (Prod.snd (Prod.snd x5))) = Prod.fst (Prod.snd (Prod.snd (Prod.snd y13))) ∧ Prod.fst (Prod.snd (Prod.snd x5)) = Prod.fst (Prod.snd (Prod.snd y13)) ∧ false = false) ∧ (M'11 = Prod.snd (Prod.snd (Prod.snd (Prod.snd (Prod.snd y13)))) ∧ Prod.fst (Prod.snd (Prod.snd (Prod.snd (Prod.snd x5)))) = Prod.fst (Prod.snd (Prod.snd (Prod.snd (Prod.snd y13)))) ∧ false = false) ∧ U.nxI (Prod.fst y13) (Prod.fst (Prod.snd y13)) (Prod.fst (Prod.snd (Prod.snd y13))) (Prod.fst (Prod.snd (Prod.snd (Prod.snd y13)))) (Prod.fst (Prod.snd (Prod.snd (Prod.snd (Prod.snd y13))))) (Prod.snd (Prod.snd (Prod.snd (Prod.snd (Prod.snd y13))))) ∧ Int.toNat (↑n1 : Int) - Int.toNat (Prod.fst y13) < Int.toNat (↑n1 : Int) - Int.toNat (Prod.fst x5))) ∧ (¬U.HasK y10 z7 → ∀ (L'14 : List Int) (n'15 c'16 : Nat) (M'17 : List Int) (d'18 : Nat), n'15 = Prod.fst (Prod.snd x5) + (1 : Nat) → U.shI n'15 c'16 c'16 L'14 d'18 d'18 M'17 (U.put y10 z7 z9) → (¬(0 : Int) = (0 : Int) → Err [(200 : Nat)]) ∧ (¬¬(0 : Int) = (0 : Int) → ∀ (z19 : Int), z19 = IntKind.wrap IntKind.i64 (Prod.fst x5 + (1 : Int)) → ∃ (y20 : Int × Nat × Nat × List Int × Nat × List Int), ((0 : Nat) = (0 : Nat) ∧ n1 = n1 ∧ c = c) ∧ ((0 : Nat) = (0 : Nat) ∧ n1 = n1 ∧ c = c) ∧ z3 = z3 ∧ z19 = Prod.fst y20 ∧ ((0 : Nat) = (0 : Nat) ∧ n'15 = Prod.fst (Prod.snd y20) ∧ c'16 = Prod.fst (Prod.snd (Prod.snd y20))) ∧ ((0 : Nat) = (0 : Nat) ∧ n'15 = Prod.fst (Prod.snd y20) ∧ d'18 = Prod.fst (Prod.snd (Prod.snd (Prod.snd (Prod.snd y20))))) ∧ m'2 = m'2 ∧ (R = R ∧ (0 : Nat) = (0 : Nat) ∧ true = true) ∧ (L'14 = Prod.fst (Prod.snd (Prod.snd (Prod.snd y20))) ∧ c'16 = Prod.fst (Prod.snd (Prod.snd y20)) ∧ false = false) ∧ (M'17 = Prod.snd (Prod.snd (Prod.snd (Prod.snd (Prod.snd y20)))) ∧ d'18 = Prod.fst (Prod.snd (Prod.snd (Prod.snd (Prod.snd y20)))) ∧ false = false) ∧ U.nxI (Prod.fst y20) (Prod.fst (Prod.snd y20)) (Prod.fst (Prod.snd (Prod.snd y20))) (Prod.fst (Prod.snd (Prod.snd (Prod.snd y20)))) (Prod.fst (Prod.snd (Prod.snd (Prod.snd (Prod.snd y20))))) (Prod.snd (Prod.snd (Prod.snd (Prod.snd (Prod.snd y20))))) ∧ Int.toNat (↑n1 : Int) - Int.toNat (Prod.fst y20) < Int.toNat (↑n1 : Int) - Int.toNat (Prod.fst x5)))) ∧ (¬Prod.fst x5 < z3 → ∃ (y21 : Prs), (Prod.fst (Prod.snd x5) = Prod.fst (Prod.snd x5) ∧ U.shI (Prod.fst (Prod.snd x5)) (Prod.fst (Prod.snd (Prod.snd x5))) (Prod.fst (Prod.snd (Prod.snd x5))) (Prod.fst (Prod.snd (Prod.snd (Prod.snd x5)))) (Prod.fst (Prod.snd (Prod.snd (Prod.snd (Prod.snd x5))))) (Prod.fst (Prod.snd (Prod.snd (Prod.snd (Prod.snd x5))))) (Prod.snd (Prod.snd (Prod.snd (Prod.snd (Prod.snd x5))))) y21) ∧ ∀ (L'22 : List Int) (n'23 c'24 : Nat), n'23 = Prod.fst (Prod.snd x5) → U.Rg L'22 (0 : Nat) n'23 c'24 c'24 (U.ks y21) → ∀ (z25 : Int), z25 = (↑n'23 : Int) → (z25 = (0 : Int) → ∀ (z26 : Int), z26 = (↑n1 : Int) → (z26 = (0 : Int) → True) ∧ (¬z26 = (0 : Int) → Err [(200 : Nat)])) ∧ (¬z25 = (0 : Int) → ((0 : Int) ≤ (0 : Int) ∧ (0 : Int) < (↑n'23 : Int)) ∧ ∀ (j27 : Nat), (↑j27 : Int) = (↑((0 : Nat)) : Int) + (0 : Int) → j27 < List.length L'22 ∧ ∀ (z28 : Int), z28 = List.getD L'22 j27 (0 : Int) → (∃ (y29 : Int × Int), ((0 : Nat) = (0 : Nat) ∧ n'23 = n'23 ∧ c'24 = c'24) ∧ z28 = Prod.fst y29 ∧ (1 : Int) = Prod.snd y29 ∧ ((0 : Nat) = (0 : Nat) ∧ Prod.fst (Prod.snd x5) = Prod.fst (Prod.snd x5) ∧ Prod.fst (Prod.snd (Prod.snd x5)) = Prod.fst (Prod.snd (Prod.snd x5))) ∧ ((0 : Nat) = (0 : Nat) ∧ Prod.fst (Prod.snd x5) = Prod.fst (Prod.snd x5) ∧ Prod.fst (Prod.snd (Prod.snd (Prod.snd (Prod.snd x5)))) = Prod.fst (Prod.snd (Prod.snd (Prod.snd (Prod.snd x5))))) ∧ m'2 = m'2 ∧ (R = R ∧ (0 : Nat) = (0 : Nat) ∧ true = true) ∧ (Prod.fst (Prod.snd (Prod.snd (Prod.snd x5))) = Prod.fst (Prod.snd (Prod.snd (Prod.snd x5))) ∧ Prod.fst (Prod.snd (Prod.snd x5)) = Prod.fst (Prod.snd (Prod.snd x5)) ∧ false = false) ∧ (Prod.snd (Prod.snd (Prod.snd (Prod.snd (Prod.snd x5)))) = Prod.snd (Prod.snd (Prod.snd (Prod.snd (Prod.snd x5)))) ∧ Prod.fst (Prod.snd (Prod.snd (Prod.snd (Prod.snd x5)))) = Prod.fst (Prod.snd (Prod.snd (Prod.snd (Prod.snd x5)))) ∧ false = false) ∧ (L'22 = L'22 ∧ c'24 = c'24 ∧ false = false) ∧ U.nx2 (List.take n'23 (List.drop ((0 : Nat)) L'22)) (Prod.fst y29) (Prod.snd y29)) ∧ ∀ (x30 : Int × Int), U.nx2 (List.take n'23 (List.drop ((0 : Nat)) L'22)) (Prod.fst x30) (Prod.snd x30) → ∀ (z31 : Int), z31 = (↑n'23 : Int) → (Prod.snd x30 < z31 → ∃ (y32 : Prs), (Prod.fst (Prod.snd x5) = Prod.fst (Prod.snd x5) ∧ U.shI (Prod.fst (Prod.snd x5)) (Prod.fst (Prod.snd (Prod.snd x5))) (Prod.fst (Prod.snd (Prod.snd x5))) (Prod.fst (Prod.snd (Prod.snd (Prod.snd x5)))) (Prod.fst (Prod.snd (Prod.snd (Prod.snd (Prod.snd x5))))) (Prod.fst (Prod.snd (Prod.snd (Prod.snd (Prod.snd x5))))) (Prod.snd (Prod.snd (Prod.snd (Prod.snd (Prod.snd x5))))) y32) ∧ (U.up y32 (Prod.fst x30) < (↑(Prod.fst (Prod.snd x5)) : Int) → ∀ (z33 y34 : Int), z33 = U.at (U.ks y32) (U.up y32 (Prod.fst x30)) → y34 = U.at (U.vs y32) (U.up y32 (Prod.fst x30)) → ((0 : Int) ≤ Prod.snd x30 ∧ Prod.snd x30 < (↑n'23 : Int)) ∧ ∀ (j35 : Nat), (↑j35 : Int) = (↑((0 : Nat)) : Int) + Prod.snd x30 → j35 < List.length L'22 ∧ ∀ (z36 : Int), z36 = List.getD L'22 j35 (0 : Int) → (¬z33 = z36 → Err [(200 : Nat)]) ∧ (¬¬z33 = z36 → ¬(1000 : Int) = (0 : Int) ∧ ∀ (z37 : Int), z37 = Int.tmod z33 (1000 : Int) → ∀ (z38 : Int), z38 = IntKind.wrap IntKind.i64 ((2 : Int) * z37) → (¬y34 = z38 → Err [(200 : Nat)]) ∧ (¬¬y34 = z38 → ∀ (z39 : Int), z39 = IntKind.wrap IntKind.i64 (Prod.snd x30 + (1 : Int)) → ∃ (y40 : Int × Int), ((0 : Nat) = (0 : Nat) ∧ n'23 = n'23 ∧ c'24 = c'24) ∧ z33 = Prod.fst y40 ∧ z39 = Prod.snd y40 ∧ ((0 : Nat) = (0 : Nat) ∧ Prod.fst (Prod.snd x5) = Prod.fst (Prod.snd x5) ∧ Prod.fst (Prod.snd (Prod.snd x5)) = Prod.fst (Prod.snd (Prod.snd x5))) ∧ ((0 : Nat) = (0 : Nat) ∧ Prod.fst (Prod.snd x5) = Prod.fst (Prod.snd x5) ∧ Prod.fst (Prod.snd (Prod.snd (Prod.snd (Prod.snd x5)))) = Prod.fst (Prod.snd (Prod.snd (Prod.snd (Prod.snd x5))))) ∧ m'2 = m'2 ∧ (R = R ∧ (0 : Nat) = (0 : Nat) ∧ true = true) ∧ (Prod.fst (Prod.snd (Prod.snd (Prod.snd x5))) = Prod.fst (Prod.snd (Prod.snd (Prod.snd x5))) ∧ Prod.fst (Prod.snd (Prod.snd x5)) = Prod.fst (Prod.snd (Prod.snd x5)) ∧ false = false) ∧ (Prod.snd (Prod.snd (Prod.snd (Prod.snd (Prod.snd x5)))) = Prod.snd (Prod.snd (Prod.snd (Prod.snd (Prod.snd x5)))) ∧ Prod.fst (Prod.snd (Prod.snd (Prod.snd (Prod.snd x5)))) = Prod.fst (Prod.snd (Prod.snd (Prod.snd (Prod.snd x5)))) ∧ false = false) ∧ (L'22 = L'22 ∧ c'24 = c'24 ∧ false = false) ∧ U.nx2 (List.take n'23 (List.drop ((0 : Nat)) L'22)) (Prod.fst y40) (Prod.snd y40) ∧ Int.toNat (↑n'23 : Int) - Int.toNat (Prod.snd y40) < Int.toNat (↑n'23 : Int) - Int.toNat (Prod.snd x30)))) ∧ (¬U.up y32 (Prod.fst x30) < (↑(Prod.fst (Prod.snd x5)) : Int) → Err [(200 : Nat)])) ∧ (¬Prod.snd x30 < z31 → ∃ (y41 : Prs), (Prod.fst (Prod.snd x5) = Prod.fst (Prod.snd x5) ∧ U.shI (Prod.fst (Prod.snd x5)) (Prod.fst (Prod.snd (Prod.snd x5))) (Prod.fst (Prod.snd (Prod.snd x5))) (Prod.fst (Prod.snd (Prod.snd (Prod.snd x5)))) (Prod.fst (Prod.snd (Prod.snd (Prod.snd (Prod.snd x5))))) (Prod.fst (Prod.snd (Prod.snd (Prod.snd (Prod.snd x5))))) (Prod.snd (Prod.snd (Prod.snd (Prod.snd (Prod.snd x5))))) y41) ∧ (U.up y41 (Prod.fst x30) < (↑(Prod.fst (Prod.snd x5)) : Int) → ∀ (z42 y43 : Int), z42 = U.at (U.ks y41) (U.up y41 (Prod.fst x30)) → y43 = U.at (U.vs y41) (U.up y41 (Prod.fst x30)) → Err [(200 : Nat)]) ∧ (¬U.up y41 (Prod.fst x30) < (↑(Prod.fst (Prod.snd x5)) : Int) → True))))) ∧ (¬(40 : Int) < z0 → ∀ (m'44 : Int), m'44 = (64 : Int) → ∀ (z45 : Int), z45 = (↑n : Int) → (∃ (y46 : Int × Nat × Nat × List Int × Nat × List Int), ((0 : Nat) = (0 : Nat) ∧ n = n ∧ c = c) ∧ ((0 : Nat) = (0 : Nat) ∧ n = n ∧ c = c) ∧ z45 = z45 ∧ (0 : Int) = Prod.fst y46 ∧ ((0 : Nat) = (0 : Nat) ∧ (0 : Nat) = Prod.fst (Prod.snd y46) ∧ (0 : Nat) = Prod.fst (Prod.snd (Prod.snd y46))) ∧ ((0 : Nat) = (0 : Nat) ∧ (0 : Nat) = Prod.fst (Prod.snd y46) ∧ (0 : Nat) = Prod.fst (Prod.snd (Prod.snd (Prod.snd (Prod.snd y46))))) ∧ m'44 = m'44 ∧ (R = R ∧ (0 : Nat) = (0 : Nat) ∧ true = true) ∧ ([] = Prod.fst (Prod.snd (Prod.snd (Prod.snd y46))) ∧ (0 : Nat) = Prod.fst (Prod.snd (Prod.snd y46)) ∧ false = false) ∧ ([] = Prod.snd (Prod.snd (Prod.snd (Prod.snd (Prod.snd y46)))) ∧ (0 : Nat) = Prod.fst (Prod.snd (Prod.snd (Prod.snd (Prod.snd y46)))) ∧ false = false) ∧ U.nxI (Prod.fst y46) (Prod.fst (Prod.snd y46)) (Prod.fst (Prod.snd (Prod.snd y46))) (Prod.fst (Prod.snd (Prod.snd (Prod.snd y46)))) (Prod.fst (Prod.snd (Prod.snd (Prod.snd (Prod.snd y46))))) (Prod.snd (Prod.snd (Prod.snd (Prod.snd (Prod.snd y46)))))) ∧ ∀ (x47 : Int × Nat × Nat × List Int × Nat × List Int), U.nxI (Prod.fst x47) (Prod.fst (Prod.snd x47)) (Prod.fst (Prod.snd (Prod.snd x47))) (Prod.fst (Prod.snd (Prod.snd (Prod.snd x47)))) (Prod.fst (Prod.snd (Prod.snd (Prod.snd (Prod.snd x47))))) (Prod.snd (Prod.snd (Prod.snd (Prod.snd (Prod.snd x47))))) → (Prod.fst x47 < z45 → ((0 : Int) ≤ Prod.fst x47 ∧ Prod.fst x47 < (↑n : Int)) ∧ ∀ (j48 : Nat), (↑j48 : Int) = (↑((0 : Nat)) : Int) + Prod.fst x47 → j48 < List.length R ∧ ∀ (z49 : Int), z49 = List.getD R j48 (0 : Int) → ¬(1000 : Int) = (0 : Int) ∧ ∀ (z50 : Int), z50 = Int.tmod z49 (1000 : Int) → ∀ (z51 : Int), z51 = IntKind.wrap IntKind.i64 ((2 : Int) * z50) → ∃ (y52 : Prs), (Prod.fst (Prod.snd x47) = Prod.fst (Prod.snd x47) ∧ U.shI (Prod.fst (Prod.snd x47)) (Prod.fst (Prod.snd (Prod.snd x47))) (Prod.fst (Prod.snd (Prod.snd x47))) (Prod.fst (Prod.snd (Prod.snd (Prod.snd x47)))) (Prod.fst (Prod.snd (Prod.snd (Prod.snd (Prod.snd x47))))) (Prod.fst (Prod.snd (Prod.snd (Prod.snd (Prod.snd x47))))) (Prod.snd (Prod.snd (Prod.snd (Prod.snd (Prod.snd x47))))) y52 ∧ Prod.fst (Prod.snd x47) ≤ (1000 : Nat) ∧ (↑(Prod.fst (Prod.snd x47)) : Int) < m'44) ∧ (U.HasK y52 z49 → ∀ (M'53 : List Int), U.shI (Prod.fst (Prod.snd x47)) (Prod.fst (Prod.snd (Prod.snd x47))) (Prod.fst (Prod.snd (Prod.snd x47))) (Prod.fst (Prod.snd (Prod.snd (Prod.snd x47)))) (Prod.fst (Prod.snd (Prod.snd (Prod.snd (Prod.snd x47))))) (Prod.fst (Prod.snd (Prod.snd (Prod.snd (Prod.snd x47))))) M'53 (U.put y52 z49 z51) → (¬(0 : Int) = (0 : Int) → Err [(200 : Nat)]) ∧ (¬¬(0 : Int) = (0 : Int) → ∀ (z54 : Int), z54 = IntKind.wrap IntKind.i64 (Prod.fst x47 + (1 : Int)) → ∃ (y55 : Int × Nat × Nat × List Int × Nat × List Int), ((0 : Nat) = (0 : Nat) ∧ n = n ∧ c = c) ∧ ((0 : Nat) = (0 : Nat) ∧ n = n ∧ c = c) ∧ z45 = z45 ∧ z54 = Prod.fst y55 ∧ ((0 : Nat) = (0 : Nat) ∧ Prod.fst (Prod.snd x47) = Prod.fst (Prod.snd y55) ∧ Prod.fst (Prod.snd (Prod.snd x47)) = Prod.fst (Prod.snd (Prod.snd y55))) ∧ ((0 : Nat) = (0 : Nat) ∧ Prod.fst (Prod.snd x47) = Prod.fst (Prod.snd y55) ∧ Prod.fst (Prod.snd (Prod.snd (Prod.snd (Prod.snd x47)))) = Prod.fst (Prod.snd (Prod.snd (Prod.snd (Prod.snd y55))))) ∧ m'44 = m'44 ∧ (R = R ∧ (0 : Nat) = (0 : Nat) ∧ true = true) ∧ (Prod.fst (Prod.snd (Prod.snd (Prod.snd x47))) = Prod.fst (Prod.snd (Prod.snd (Prod.snd y55))) ∧ Prod.fst (Prod.snd (Prod.snd x47)) = Prod.fst (Prod.snd (Prod.snd y55)) ∧ false = false) ∧ (M'53 = Prod.snd (Prod.snd (Prod.snd (Prod.snd (Prod.snd y55)))) ∧ Prod.fst (Prod.snd (Prod.snd (Prod.snd (Prod.snd x47)))) = Prod.fst (Prod.snd (Prod.snd (Prod.snd (Prod.snd y55)))) ∧ false = false) ∧ U.nxI (Prod.fst y55) (Prod.fst (Prod.snd y55)) (Prod.fst (Prod.snd (Prod.snd y55))) (Prod.fst (Prod.snd (Prod.snd (Prod.snd y55)))) (Prod.fst (Prod.snd (Prod.snd (Prod.snd (Prod.snd y55))))) (Prod.snd (Prod.snd (Prod.snd (Prod.snd (Prod.snd y55))))) ∧ Int.toNat (↑n : Int) - Int.toNat (Prod.fst y55) < Int.toNat (↑n : Int) - Int.toNat (Prod.fst x47))) ∧ (¬U.HasK y52 z49 → ∀ (L'56 : List Int) (n'57 c'58 : Nat) (M'59 : List Int) (d'60 : Nat), n'57 = Prod.fst (Prod.snd x47) + (1 : Nat) → U.shI n'57 c'58 c'58 L'56 d'60 d'60 M'59 (U.put y52 z49 z51) → (¬(0 : Int) = (0 : Int) → Err [(200 : Nat)]) ∧ (¬¬(0 : Int) = (0 : Int) → ∀ (z61 : Int), z61 = IntKind.wrap IntKind.i64 (Prod.fst x47 + (1 : Int)) → ∃ (y62 : Int × Nat × Nat × List Int × Nat × List Int), ((0 : Nat) = (0 : Nat) ∧ n = n ∧ c = c) ∧ ((0 : Nat) = (0 : Nat) ∧ n = n ∧ c = c) ∧ z45 = z45 ∧ z61 = Prod.fst y62 ∧ ((0 : Nat) = (0 : Nat) ∧ n'57 = Prod.fst (Prod.snd y62) ∧ c'58 = Prod.fst (Prod.snd (Prod.snd y62))) ∧ ((0 : Nat) = (0 : Nat) ∧ n'57 = Prod.fst (Prod.snd y62) ∧ d'60 = Prod.fst (Prod.snd (Prod.snd (Prod.snd (Prod.snd y62))))) ∧ m'44 = m'44 ∧ (R = R ∧ (0 : Nat) = (0 : Nat) ∧ true = true) ∧ (L'56 = Prod.fst (Prod.snd (Prod.snd (Prod.snd y62))) ∧ c'58 = Prod.fst (Prod.snd (Prod.snd y62)) ∧ false = false) ∧ (M'59 = Prod.snd (Prod.snd (Prod.snd (Prod.snd (Prod.snd y62)))) ∧ d'60 = Prod.fst (Prod.snd (Prod.snd (Prod.snd (Prod.snd y62)))) ∧ false = false) ∧ U.nxI (Prod.fst y62) (Prod.fst (Prod.snd y62)) (Prod.fst (Prod.snd (Prod.snd y62))) (Prod.fst (Prod.snd (Prod.snd (Prod.snd y62)))) (Prod.fst (Prod.snd (Prod.snd (Prod.snd (Prod.snd y62))))) (Prod.snd (Prod.snd (Prod.snd (Prod.snd (Prod.snd y62))))) ∧ Int.toNat (↑n : Int) - Int.toNat (Prod.fst y62) < Int.toNat (↑n : Int) - Int.toNat (Prod.fst x47)))) ∧ (¬Prod.fst x47 < z45 → ∃ (y63 : Prs), (Prod.fst (Prod.snd x47) = Prod.fst (Prod.snd x47) ∧ U.shI (Prod.fst (Prod.snd x47)) (Prod.fst (Prod.snd (Prod.snd x47))) (Prod.fst (Prod.snd (Prod.snd x47))) (Prod.fst (Prod.snd (Prod.snd (Prod.snd x47)))) (Prod.fst (Prod.snd (Prod.snd (Prod.snd (Prod.snd x47))))) (Prod.fst (Prod.snd (Prod.snd (Prod.snd (Prod.snd x47))))) (Prod.snd (Prod.snd (Prod.snd (Prod.snd (Prod.snd x47))))) y63) ∧ ∀ (L'64 : List Int) (n'65 c'66 : Nat), n'65 = Prod.fst (Prod.snd x47) → U.Rg L'64 (0 : Nat) n'65 c'66 c'66 (U.ks y63) → ∀ (z67 : Int), z67 = (↑n'65 : Int) → (z67 = (0 : Int) → ∀ (z68 : Int), z68 = (↑n : Int) → (z68 = (0 : Int) → True) ∧ (¬z68 = (0 : Int) → Err [(200 : Nat)])) ∧ (¬z67 = (0 : Int) → ((0 : Int) ≤ (0 : Int) ∧ (0 : Int) < (↑n'65 : Int)) ∧ ∀ (j69 : Nat), (↑j69 : Int) = (↑((0 : Nat)) : Int) + (0 : Int) → j69 < List.length L'64 ∧ ∀ (z70 : Int), z70 = List.getD L'64 j69 (0 : Int) → (∃ (y71 : Int × Int), ((0 : Nat) = (0 : Nat) ∧ n'65 = n'65 ∧ c'66 = c'66) ∧ z70 = Prod.fst y71 ∧ (1 : Int) = Prod.snd y71 ∧ ((0 : Nat) = (0 : Nat) ∧ Prod.fst (Prod.snd x47) = Prod.fst (Prod.snd x47) ∧ Prod.fst (Prod.snd (Prod.snd x47)) = Prod.fst (Prod.snd (Prod.snd x47))) ∧ ((0 : Nat) = (0 : Nat) ∧ Prod.fst (Prod.snd x47) = Prod.fst (Prod.snd x47) ∧ Prod.fst (Prod.snd (Prod.snd (Prod.snd (Prod.snd x47)))) = Prod.fst (Prod.snd (Prod.snd (Prod.snd (Prod.snd x47))))) ∧ m'44 = m'44 ∧ (R = R ∧ (0 : Nat) = (0 : Nat) ∧ true = true) ∧ (Prod.fst (Prod.snd (Prod.snd (Prod.snd x47))) = Prod.fst (Prod.snd (Prod.snd (Prod.snd x47))) ∧ Prod.fst (Prod.snd (Prod.snd x47)) = Prod.fst (Prod.snd (Prod.snd x47)) ∧ false = false) ∧ (Prod.snd (Prod.snd (Prod.snd (Prod.snd (Prod.snd x47)))) = Prod.snd (Prod.snd (Prod.snd (Prod.snd (Prod.snd x47)))) ∧ Prod.fst (Prod.snd (Prod.snd (Prod.snd (Prod.snd x47)))) = Prod.fst (Prod.snd (Prod.snd (Prod.snd (Prod.snd x47)))) ∧ false = false) ∧ (L'64 = L'64 ∧ c'66 = c'66 ∧ false = false) ∧ U.nx2 (List.take n'65 (List.drop ((0 : Nat)) L'64)) (Prod.fst y71) (Prod.snd y71)) ∧ ∀ (x72 : Int × Int), U.nx2 (List.take n'65 (List.drop ((0 : Nat)) L'64)) (Prod.fst x72) (Prod.snd x72) → ∀ (z73 : Int), z73 = (↑n'65 : Int) → (Prod.snd x72 < z73 → ∃ (y74 : Prs), (Prod.fst (Prod.snd x47) = Prod.fst (Prod.snd x47) ∧ U.shI (Prod.fst (Prod.snd x47)) (Prod.fst (Prod.snd (Prod.snd x47))) (Prod.fst (Prod.snd (Prod.snd x47))) (Prod.fst (Prod.snd (Prod.snd (Prod.snd x47)))) (Prod.fst (Prod.snd (Prod.snd (Prod.snd (Prod.snd x47))))) (Prod.fst (Prod.snd (Prod.snd (Prod.snd (Prod.snd x47))))) (Prod.snd (Prod.snd (Prod.snd (Prod.snd (Prod.snd x47))))) y74) ∧ (U.up y74 (Prod.fst x72) < (↑(Prod.fst (Prod.snd x47)) : Int) → ∀ (z75 y76 : Int), z75 = U.at (U.ks y74) (U.up y74 (Prod.fst x72)) → y76 = U.at (U.vs y74) (U.up y74 (Prod.fst x72)) → ((0 : Int) ≤ Prod.snd x72 ∧ Prod.snd x72 < (↑n'65 : Int)) ∧ ∀ (j77 : Nat), (↑j77 : Int) = (↑((0 : Nat)) : Int) + Prod.snd x72 → j77 < List.length L'64 ∧ ∀ (z78 : Int), z78 = List.getD L'64 j77 (0 : Int) → (¬z75 = z78 → Err [(200 : Nat)]) ∧ (¬¬z75 = z78 → ¬(1000 : Int) = (0 : Int) ∧ ∀ (z79 : Int), z79 = Int.tmod z75 (1000 : Int) → ∀ (z80 : Int), z80 = IntKind.wrap IntKind.i64 ((2 : Int) * z79) → (¬y76 = z80 → Err [(200 : Nat)]) ∧ (¬¬y76 = z80 → ∀ (z81 : Int), z81 = IntKind.wrap IntKind.i64 (Prod.snd x72 + (1 : Int)) → ∃ (y82 : Int × Int), ((0 : Nat) = (0 : Nat) ∧ n'65 = n'65 ∧ c'66 = c'66) ∧ z75 = Prod.fst y82 ∧ z81 = Prod.snd y82 ∧ ((0 : Nat) = (0 : Nat) ∧ Prod.fst (Prod.snd x47) = Prod.fst (Prod.snd x47) ∧ Prod.fst (Prod.snd (Prod.snd x47)) = Prod.fst (Prod.snd (Prod.snd x47))) ∧ ((0 : Nat) = (0 : Nat) ∧ Prod.fst (Prod.snd x47) = Prod.fst (Prod.snd x47) ∧ Prod.fst (Prod.snd (Prod.snd (Prod.snd (Prod.snd x47)))) = Prod.fst (Prod.snd (Prod.snd (Prod.snd (Prod.snd x47))))) ∧ m'44 = m'44 ∧ (R = R ∧ (0 : Nat) = (0 : Nat) ∧ true = true) ∧ (Prod.fst (Prod.snd (Prod.snd (Prod.snd x47))) = Prod.fst (Prod.snd (Prod.snd (Prod.snd x47))) ∧ Prod.fst (Prod.snd (Prod.snd x47)) = Prod.fst (Prod.snd (Prod.snd x47)) ∧ false = false) ∧ (Prod.snd (Prod.snd (Prod.snd (Prod.snd (Prod.snd x47)))) = Prod.snd (Prod.snd (Prod.snd (Prod.snd (Prod.snd x47)))) ∧ Prod.fst (Prod.snd (Prod.snd (Prod.snd (Prod.snd x47)))) = Prod.fst (Prod.snd (Prod.snd (Prod.snd (Prod.snd x47)))) ∧ false = false) ∧ (L'64 = L'64 ∧ c'66 = c'66 ∧ false = false) ∧ U.nx2 (List.take n'65 (List.drop ((0 : Nat)) L'64)) (Prod.fst y82) (Prod.snd y82) ∧ Int.toNat (↑n'65 : Int) - Int.toNat (Prod.snd y82) < Int.toNat (↑n'65 : Int) - Int.toNat (Prod.snd x72)))) ∧ (¬U.up y74 (Prod.fst x72) < (↑(Prod.fst (Prod.snd x47)) : Int) → Err [(200 : Nat)])) ∧ (¬Prod.snd x72 < z73 → ∃ (y83 : Prs), (Prod.fst (Prod.snd x47) = Prod.fst (Prod.snd x47) ∧ U.shI (Prod.fst (Prod.snd x47)) (Prod.fst (Prod.snd (Prod.snd x47))) (Prod.fst (Prod.snd (Prod.snd x47))) (Prod.fst (Prod.snd (Prod.snd (Prod.snd x47)))) (Prod.fst (Prod.snd (Prod.snd (Prod.snd (Prod.snd x47))))) (Prod.fst (Prod.snd (Prod.snd (Prod.snd (Prod.snd x47))))) (Prod.snd (Prod.snd (Prod.snd (Prod.snd (Prod.snd x47))))) y83) ∧ (U.up y83 (Prod.fst x72) < (↑(Prod.fst (Prod.snd x47)) : Int) → ∀ (z84 y85 : Int), z84 = U.at (U.ks y83) (U.up y83 (Prod.fst x72)) → y85 = U.at (U.vs y83) (U.up y83 (Prod.fst x72)) → Err [(200 : Nat)]) ∧ (¬U.up y83 (Prod.fst x72) < (↑(Prod.fst (Prod.snd x47)) : Int) → True)))))) := by kernel_rfl
end Go.Proofs.Ytjhmlagkjpcjnaa
end

section
namespace Go.Proofs.Ytjhmlagkjpcjnaa
open Go Reck
set_option linter.unusedVariables false
set_option maxRecDepth 100000
theorem awake2_vc (K : AV → St → Prop) : (goT Try.prog [60, 62] (orcOf inv0 tbl0) (opCl Try.prog) 3000 (.inr (.inr (.inr (.inr 13)))) [] emptySt (retC emptySt K)) = ((K (Sum.inl (Sum.inl (Sum.inl (Value.bool true)))) { heap := [], ints := [], opqs := (0 : Nat), arrs := [], junks := (0 : Nat) } ∧ K (Sum.inl (Sum.inl (Sum.inl (Value.bool true)))) { heap := [], ints := [], opqs := (0 : Nat), arrs := [], junks := (0 : Nat) }) ∧ K (Sum.inl (Sum.inl (Sum.inl (Value.bool true)))) { heap := [], ints := [], opqs := (0 : Nat), arrs := [], junks := (0 : Nat) } ∧ K (Sum.inl (Sum.inl (Sum.inl (Value.bool true)))) { heap := [], ints := [], opqs := (0 : Nat), arrs := [], junks := (0 : Nat) }) := by kernel_rfl
end Go.Proofs.Ytjhmlagkjpcjnaa
end

section
set_option linter.unusedVariables false
set_option linter.unusedSimpArgs false
namespace Go.Proofs.Ytjhmlagkjpcjnaa
open Go Reck Ost
theorem srt_lt {A : List Int} (hs : U.Srt A) (i j : Nat) (hij : i < j) (hj : j < A.length) : U.at A i < U.at A j := by
  have := List.pairwise_iff_getElem.1 hs.out i j (by omega) hj hij
  unfold U.at
  rw [List.getD_eq_getElem?_getD, List.getD_eq_getElem?_getD, Int.toNat_natCast, Int.toNat_natCast, List.getElem?_eq_getElem (by omega), List.getElem?_eq_getElem hj]
  exact this
theorem at_mem {A : List Int} {i : Int} (hi : 0 ≤ i ∧ i < A.length) : U.at A i ∈ A := by
  unfold U.at
  rw [List.getD_eq_getElem?_getD, List.getElem?_eq_getElem (by omega)]
  exact List.getElem_mem _
theorem lo_at {A : List Int} (hs : U.Srt A) {i : Int} (hi : 0 ≤ i ∧ i < A.length) : U.lo A (U.at A i) = i := by
  obtain ⟨p, rfl⟩ : ∃ p : Nat, i = p := ⟨i.toNat, by omega⟩
  refine lo_of A _ p (by omega) (fun m hm => srt_lt hs m p hm (by omega)) (fun m hm hm2 => ?_)
  by_cases h : m = p
  · rw [h]; omega
  · have := srt_lt hs p m (by omega) hm2; omega
theorem up_at {P : Prs} (hs : U.Srt (U.ks P)) {i : Int} (hi : 0 ≤ i ∧ i < (U.ks P).length) : U.up P (U.at (U.ks P) i) = i + 1 := by
  unfold U.up
  rw [if_pos (at_mem hi), lo_at hs hi]
theorem vs_at {P : Prs} (hf : ∀ p ∈ P, p.2 = U.ff p.1) {i : Int} (hi : 0 ≤ i ∧ i < (U.ks P).length) : U.at (U.vs P) i = U.ff (U.at (U.ks P) i) := by
  have hl : (U.ks P).length = P.length := by simp [U.ks]
  unfold U.at U.vs U.ks
  rw [List.getD_eq_getElem?_getD, List.getD_eq_getElem?_getD, List.getElem?_map, List.getElem?_map, List.getElem?_eq_getElem (by omega)]
  exact hf _ (List.getElem_mem _)
theorem tmod_bd (k : Int) : -1000 < Int.tmod k 1000 ∧ Int.tmod k 1000 < 1000 := by
  rcases Int.le_total 0 k with h | h
  · rw [Int.tmod_eq_emod_of_nonneg h]; omega
  · have e : Int.tmod k 1000 = - Int.tmod (-k) 1000 := by rw [Int.neg_tmod]; omega
    rw [e, Int.tmod_eq_emod_of_nonneg (by omega)]; omega
theorem ff_of {k z8 z9 : Int} (h8 : z8 = Int.tmod k 1000) (h9 : z9 = IntKind.wrap .i64 (2 * z8)) : z9 = U.ff k := by
  have := tmod_bd k
  rw [iw h9 (by omega), h8]; rfl
theorem put_ff {P : Prs} {k v : Int} (hs : U.Srt (U.ks P)) (hf : ∀ p ∈ P, p.2 = U.ff p.1) (hv : v = U.ff k) : ∀ p ∈ U.put P k v, p.2 = U.ff p.1 := by
  rintro ⟨x, y⟩ hp
  rcases (put_mem P k v x y hs).1 hp with ⟨rfl, rfl⟩ | ⟨hp, _⟩
  · exact hv
  · exact hf _ hp
theorem nx_0 : U.nxI 0 0 0 [] 0 [] := by
  refine ⟨Int.le_refl _, [], ⟨U.Rg.all rfl (Nat.le_refl _) (Nat.le_refl _) (by decide), U.Rg.all rfl (Nat.le_refl _) (Nat.le_refl _) (by decide), ⟨List.Pairwise.nil⟩, by decide⟩, by decide, fun h => by omega, by simp⟩
set_option maxHeartbeats 4000000 in
theorem shelfNext_run (R : List Int) (n c : Nat) (hR : n = R.length) (hc : n ≤ c) (hn : n ≤ 9223372036854775807) : runNX 7 [cell (aslC ⟨0, 0, n, c⟩)] ⟨[], [], 0, [some (ib R 0 true)], 0⟩ := by
  rw [shelfNext_vc]
  intro z0 h0
  refine ⟨fun hbig => ⟨by omega, fun n1 hn1 m2 hm2 z3 h3 => ?_⟩, fun hsm m2 hm2 z3 h3 => ?_⟩
  all_goals
    have hz3 : 0 ≤ z3 ∧ z3 ≤ 40 ∧ z3 ≤ R.length := by omega
    constructor
    · refine ⟨(0, 0, 0, [], 0, []), ?_⟩
      repeat' (first | exact rfl | with_reducible apply And.intro)
      exact nx_0
    rintro ⟨x, a, ca, L, d, M⟩ ⟨i0, P, hI, i1, i2, i3⟩
    dsimp only at i0 hI i1 i2 i3 ⊢
    have hPl : (U.ks P).length = a := hI.kr.n
    have hPs := hI.kr.sm
    refine ⟨fun hx => ⟨by omega, fun j6 h6 => ⟨by omega, fun z7 h7 => ⟨by decide, fun z8 h8 z9 h9 => ?_⟩⟩⟩, fun hx => ?_⟩
    · have e9 := ff_of h8 h9
      refine ⟨P, ⟨rfl, hI, by omega, by omega⟩, fun hh M' hI' => ⟨fun h => absurd rfl h, fun _ z12 h12 => ⟨(z12, a, ca, L, d, M'), ?_⟩⟩, fun hh L' n' c' M' d' en hI' => ⟨fun h => absurd rfl h, fun _ z12 h12 => ⟨(z12, n', c', L', d', M'), ?_⟩⟩⟩
      · have e12 := iw h12 (by omega)
        repeat' (first | exact rfl | with_reducible apply And.intro)
        · refine ⟨by dsimp only; omega, U.put P z7 z9, hI', by dsimp only; omega, fun _ => ?_, put_ff hI.srt i3 e9⟩
          have := List.length_pos_of_mem hh.out.out
          dsimp only; omega
        · dsimp only; omega
      · have e12 := iw h12 (by omega)
        repeat' (first | exact rfl | with_reducible apply And.intro)
        · exact ⟨by dsimp only; omega, U.put P z7 z9, hI', by dsimp only; omega, fun _ => by dsimp only; omega, put_ff hI.srt i3 e9⟩
        · dsimp only; omega
    · refine ⟨P, ⟨rfl, hI⟩, fun L2 n2 c2 e1 hL2 z25 h25 => ⟨fun hz z26 h26 => ⟨fun _ => trivial, fun hne => ?_⟩, fun hz => ⟨by omega, fun j27 h27 => ⟨?_, fun z28 h28 => ⟨?_, ?_⟩⟩⟩⟩⟩
      · exfalso
        have : 0 < x := by omega
        have := i2 this
        omega
      · have := hL2.len; omega
      · refine ⟨(z28, 1), ?_⟩
        repeat' (first | exact rfl | with_reducible apply And.intro)
        rw [← hL2.eq]
        exact ⟨Int.le_refl _, by dsimp only; omega, h28.trans (hL2.get (i := 0) (by omega) h27)⟩
      · rw [← hL2.eq]
        rintro ⟨at1, i⟩ ⟨q1, q2, q3⟩ z31 h31
        dsimp only at q1 q2 q3 ⊢
        have hu := up_at hI.srt (i := i - 1) (by omega)
        rw [← q3, show i - 1 + 1 = i by omega] at hu
        refine ⟨fun hi => ⟨P, ⟨rfl, hI⟩, ?_⟩, fun hi => ⟨P, ⟨rfl, hI⟩, ?_⟩⟩
        · rw [hu]
          refine ⟨fun _ z33 y34 h33 h34 => ⟨by omega, fun j35 h35 => ⟨by have := hL2.len; omega, fun z36 h36 => ?_⟩⟩, fun hno => by omega⟩
          have e36 := h36.trans (hL2.get (i := i) (by omega) h35)
          have e34 := h34.trans (vs_at i3 (i := i) (by omega))
          refine ⟨fun hne => absurd (h33.trans e36.symm) hne, fun _ => ⟨by decide, fun z37 h37 z38 h38 => ?_⟩⟩
          have e38 := ff_of h37 h38
          refine ⟨fun hne => absurd (by rw [e34, e38, h33]) hne, fun _ z39 h39 => ⟨(z33, z39), ?_⟩⟩
          have e39 := iw h39 (by omega)
          repeat' (first | exact rfl | with_reducible apply And.intro)
          · refine ⟨by dsimp only; omega, by dsimp only; omega, ?_⟩
            dsimp only
            rw [h33, e39, show i + 1 - 1 = i by omega]
          · dsimp only; omega
        · rw [hu]
          exact ⟨fun hlt => by omega, fun _ => trivial⟩
end Go.Proofs.Ytjhmlagkjpcjnaa
end

section
set_option linter.unusedVariables false
set_option linter.unusedSimpArgs false
set_option maxRecDepth 10000
namespace Go.Proofs.Ytjhmlagkjpcjnaa
open Go Reck Ost
theorem ovsN : ([60, 62] : List FuncId).all (isOverlaps Try.prog) = true := by kernel_rfl
theorem awakeN_run (K : AV → St → Prop) (h : K (lit (.bool true)) emptySt) : goT Try.prog [60, 62] (orcOf inv0 tbl0) (opCl Try.prog) 3000 (.inr (.inr (.inr (.inr 13)))) [] emptySt (retC emptySt K) := by
  rw [awake2_vc]
  repeat' (first | exact h | with_reducible apply And.intro)
theorem tAwN_ok : TblOk Try.prog tAwN := by
  intro f tm σ C h K hK
  unfold tAwN at h
  split at h
  · rename_i hf
    obtain rfl : f = 13 := by simpa using hf
    split at h
    · simp only [Option.some.injEq] at h; subst h
      exact knownD ovsN names (opCl_ok _) (conOk_of tbl0_ok) (awakeN_run K hK)
    · cases h
  · cases h
theorem tSN5_ok : TblOk Try.prog tSN5 := tblOr_ok tAwN_ok tSN4_ok
theorem shelfNext_walk (A : Option Addr) (len cap : Nat) (zs : List Int) (w : World) (hR : Came2 .i64 w A len cap zs) :
    Calls Try.prog 7 #[.slice A len cap] w fun e w' => e = .returned (.bool true) ∧ Only (fun _ => False) w w' := by
  obtain ⟨q, h1, h2⟩ := hR.base 3
  have hl : len ≤ 9223372036854775807 := by
    have a := hR.2.1
    have b := hR.2.2.1
    have : maxLen ≤ 9223372036854775807 := by decide
    omega
  have hok : Ok w (arE [q]) (arS [ib zs 0 true]) w := ok_arrs w (l := [ib zs 0 true]) (bs := [q]) rfl (by simp [ib]) (by
    intro i x q' hx hq
    cases i with
    | zero => simp at hx hq; subst hx; subst hq; exact h2 _ rfl
    | succ i => simp at hx)
  exact call_true noOv names (conOk_ofR tSN5_ok) (shelfNext_run zs len cap hR.1.symm hR.2.1 hl) hok (vs := [.slice A len cap]) (by
    have := h1 (arE [q]) 0 rfl
    simp only [List.map_cons, List.map_nil]
    exact congrArg (fun x => [x]) this)
end Go.Proofs.Ytjhmlagkjpcjnaa
end
