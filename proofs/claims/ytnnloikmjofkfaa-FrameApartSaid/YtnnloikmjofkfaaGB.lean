/- Parts of a proof, one behind the other: B5 B6 B7 B8 B9. No condition. -/
import Derived.Test.YtnnloikmjofkfaaGA
section
namespace Go.Proofs.Ytnnloikmjofkfaa
open Go Reck
set_option linter.unusedVariables false
def tB4 : Tbl := tblOr tB2 (tblOr tAdd (tblOr tClone tNew0))
theorem tB4_ok : TblOk Try.prog tB4 := tblOr_ok tB2_ok (tblOr_ok tAdd_ok (tblOr_ok tClone_ok tNew0_ok))
def inSt (L : List Int) (m c cap : Nat) (a e : Int) : St := st1 (fun s => inB s a e) L m c cap
structure U.bytI (L0 : List Int) (N0 : Int) (B : List Int) (o n : Nat) (k : Int) (L : List Int) (c cap : Nat) (N : Int) : Prop where
  out : ∃ (l0 : List Bool) (j : Nat), k = j ∧ j ≤ n ∧ U.Out L0 N0 l0 ∧ U.Out L N (l0 ++ nums 8 ((((B.drop o).take n).take j).map Int.toNat)) ∧ c ≤ cap ∧ L.length ≤ c ∧ N = N0 + 8 * k
/-- The bytes of a part are appended to an Out that is in slot 0. -/
def bytesInv (c : Code) (tm : List AV) (σ : St) : Inv where
  X := Int × List Int × Nat × Nat × Int
  tags := [0]
  tag _ _ := 0
  J := wrBut [40] c
  val _ x := [(40, xi .i64 x.1)]
  st _ x σ' := ⟨setCells σ' (ptrB 0 tm) [aslC ⟨σ.arrs.length, 0, x.2.1.length, x.2.2.1⟩, xintC .i64 x.2.2.2.2], σ'.ints, σ'.opqs, σ'.arrs.take σ.arrs.length ++ [some ⟨5, .n .u8, x.2.1, x.2.2.2.1, false⟩], σ'.junks⟩
  I _ x := U.bytI (cellL (cellAt 0 0 tm σ) σ) (cellI (cellAt 0 1 tm σ)) (slotA tm 38 σ) (slotS tm 38).o (slotS tm 38).n x.1 x.2.1 x.2.2.1 x.2.2.2.1 x.2.2.2.2
  m _ x := ((slotS tm 38).n - x.1).toNat
  ren tm' σ' := ([], cellA (cellAt 0 0 tm' σ'))
structure U.never : Prop where
  out : False
/-- A loop that is never come to. -/
def neverInv (c : Code) (tm : List AV) : Inv where
  X := Nat
  tags := [0]
  tag _ _ := 0
  J := wrBut [] c
  val _ _ := []
  st _ _ σ' := σ'
  I _ _ := U.never
  m _ _ := 0
  ren := noRen
def invB5 : InvF := fun c tm σ => match tm.length, firstReg c with
  | 50, some 15 => if isAsl (tm.getD 38 (lit undef)) then some (bytesInv c tm σ) else none
  | 65, some 7 => some (neverInv c tm)
  | _, _ => invB3 c tm σ
set_option maxRecDepth 100000
theorem inBits_vc (K : AV → St → Prop) (L : List Int) (m c cap : Nat) (a e n : Int) : (runI invB5 tB4 54 [ptr 0 0, xi .i64 n] (inSt L m c cap a e) K) = (((1 : Int) ≤ n → (n ≤ (64 : Int) → (¬e = (0 : Int) → K (Sum.inl (Sum.inl (Sum.inr (Sum.inr (Sum.inr (Sum.inr (Sum.inr (Sum.inr (Sum.inl (IntKind.u64, (0 : Int))))))))))) { heap := [some { elem := (118 : Nat), cells := [Sum.inr (Sum.inr (Sum.inr (Sum.inr (Sum.inr (Sum.inr (Sum.inr (Sum.inl { a := (0 : Nat), o := (0 : Nat), n := m, c := c }))))))), Sum.inr (Sum.inr (Sum.inr (Sum.inr (Sum.inr (Sum.inr (Sum.inl (IntKind.i64, a))))))), Sum.inr (Sum.inr (Sum.inr (Sum.inr (Sum.inr (Sum.inr (Sum.inl (IntKind.i64, e)))))))], j := none, c := (3 : Nat), z := false }], ints := [], opqs := (0 : Nat), arrs := [some { elem := OfNat.ofNat (5 : Nat), k := AK.n IntKind.u8, l := L, cap := cap, ro := false }], junks := (0 : Nat) }) ∧ (¬¬e = (0 : Int) → (¬e = (0 : Int) → ((0 : Int) < n → K (Sum.inl (Sum.inl (Sum.inr (Sum.inr (Sum.inr (Sum.inr (Sum.inr (Sum.inr (Sum.inl (IntKind.u64, (0 : Int))))))))))) { heap := [some { elem := (118 : Nat), cells := [Sum.inr (Sum.inr (Sum.inr (Sum.inr (Sum.inr (Sum.inr (Sum.inr (Sum.inl { a := (0 : Nat), o := (0 : Nat), n := m, c := c }))))))), Sum.inr (Sum.inr (Sum.inr (Sum.inr (Sum.inr (Sum.inr (Sum.inl (IntKind.i64, a))))))), Sum.inl (Value.int IntKind.i64 (7 : Int))], j := none, c := (3 : Nat), z := false }], ints := [], opqs := (0 : Nat), arrs := [some { elem := OfNat.ofNat (5 : Nat), k := AK.n IntKind.u8, l := L, cap := cap, ro := false }], junks := (0 : Nat) }) ∧ (¬(0 : Int) < n → (e = (0 : Int) → (U.By L ∧ m = List.length L ∧ List.length L ≤ (140737488355328 : Nat) ∧ (0 : Int) ≤ a ∧ (0 : Int) ≤ n ∧ n ≤ (64 : Int) ∧ a + n ≤ (8 : Int) * (↑(List.length L) : Int)) ∧ ∀ (z0 : Int), z0 = U.loa L a n → a = a ∧ (OfNat.ofNat (0 : Nat) = OfNat.ofNat (0 : Nat) ∧ m = m ∧ c = c) ∧ ∀ (z1 : Int), z1 = IntKind.wrap IntKind.i64 (a + n) → K (Sum.inl (Sum.inl (Sum.inr (Sum.inr (Sum.inr (Sum.inr (Sum.inr (Sum.inr (Sum.inl (IntKind.u64, z0)))))))))) { heap := [some { elem := (118 : Nat), cells := [Sum.inr (Sum.inr (Sum.inr (Sum.inr (Sum.inr (Sum.inr (Sum.inr (Sum.inl { a := (0 : Nat), o := (0 : Nat), n := m, c := c }))))))), Sum.inr (Sum.inr (Sum.inr (Sum.inr (Sum.inr (Sum.inr (Sum.inl (IntKind.i64, z1))))))), Sum.inr (Sum.inr (Sum.inr (Sum.inr (Sum.inr (Sum.inr (Sum.inl (IntKind.i64, e)))))))], j := none, c := (3 : Nat), z := false }], ints := [], opqs := (0 : Nat), arrs := [some { elem := OfNat.ofNat (5 : Nat), k := AK.n IntKind.u8, l := L, cap := cap, ro := false }], junks := (0 : Nat) }) ∧ (¬e = (0 : Int) → K (Sum.inl (Sum.inl (Sum.inr (Sum.inr (Sum.inr (Sum.inr (Sum.inr (Sum.inr (Sum.inl (IntKind.u64, (0 : Int))))))))))) { heap := [some { elem := (118 : Nat), cells := [Sum.inr (Sum.inr (Sum.inr (Sum.inr (Sum.inr (Sum.inr (Sum.inr (Sum.inl { a := (0 : Nat), o := (0 : Nat), n := m, c := c }))))))), Sum.inr (Sum.inr (Sum.inr (Sum.inr (Sum.inr (Sum.inr (Sum.inl (IntKind.i64, a))))))), Sum.inr (Sum.inr (Sum.inr (Sum.inr (Sum.inr (Sum.inr (Sum.inl (IntKind.i64, e)))))))], j := none, c := (3 : Nat), z := false }], ints := [], opqs := (0 : Nat), arrs := [some { elem := OfNat.ofNat (5 : Nat), k := AK.n IntKind.u8, l := L, cap := cap, ro := false }], junks := (0 : Nat) }))) ∧ (¬¬e = (0 : Int) → ∀ (z2 : Int), z2 = (↑m : Int) → ∀ (z3 : Int), z3 = IntKind.wrap IntKind.i64 ((8 : Int) * z2) → ∀ (z4 : Int), z4 = IntKind.wrap IntKind.i64 (z3 - a) → ¬(1 : Int) = (0 : Int) ∧ ∀ (z5 : Int), z5 = IntKind.wrap IntKind.i64 (Int.tdiv z4 (1 : Int)) → (z5 < n → K (Sum.inl (Sum.inl (Sum.inr (Sum.inr (Sum.inr (Sum.inr (Sum.inr (Sum.inr (Sum.inl (IntKind.u64, (0 : Int))))))))))) { heap := [some { elem := (118 : Nat), cells := [Sum.inr (Sum.inr (Sum.inr (Sum.inr (Sum.inr (Sum.inr (Sum.inr (Sum.inl { a := (0 : Nat), o := (0 : Nat), n := m, c := c }))))))), Sum.inr (Sum.inr (Sum.inr (Sum.inr (Sum.inr (Sum.inr (Sum.inl (IntKind.i64, a))))))), Sum.inl (Value.int IntKind.i64 (7 : Int))], j := none, c := (3 : Nat), z := false }], ints := [], opqs := (0 : Nat), arrs := [some { elem := OfNat.ofNat (5 : Nat), k := AK.n IntKind.u8, l := L, cap := cap, ro := false }], junks := (0 : Nat) }) ∧ (¬z5 < n → (e = (0 : Int) → (U.By L ∧ m = List.length L ∧ List.length L ≤ (140737488355328 : Nat) ∧ (0 : Int) ≤ a ∧ (0 : Int) ≤ n ∧ n ≤ (64 : Int) ∧ a + n ≤ (8 : Int) * (↑(List.length L) : Int)) ∧ ∀ (z6 : Int), z6 = U.loa L a n → a = a ∧ (OfNat.ofNat (0 : Nat) = OfNat.ofNat (0 : Nat) ∧ m = m ∧ c = c) ∧ ∀ (z7 : Int), z7 = IntKind.wrap IntKind.i64 (a + n) → K (Sum.inl (Sum.inl (Sum.inr (Sum.inr (Sum.inr (Sum.inr (Sum.inr (Sum.inr (Sum.inl (IntKind.u64, z6)))))))))) { heap := [some { elem := (118 : Nat), cells := [Sum.inr (Sum.inr (Sum.inr (Sum.inr (Sum.inr (Sum.inr (Sum.inr (Sum.inl { a := (0 : Nat), o := (0 : Nat), n := m, c := c }))))))), Sum.inr (Sum.inr (Sum.inr (Sum.inr (Sum.inr (Sum.inr (Sum.inl (IntKind.i64, z7))))))), Sum.inr (Sum.inr (Sum.inr (Sum.inr (Sum.inr (Sum.inr (Sum.inl (IntKind.i64, e)))))))], j := none, c := (3 : Nat), z := false }], ints := [], opqs := (0 : Nat), arrs := [some { elem := OfNat.ofNat (5 : Nat), k := AK.n IntKind.u8, l := L, cap := cap, ro := false }], junks := (0 : Nat) }) ∧ (¬e = (0 : Int) → K (Sum.inl (Sum.inl (Sum.inr (Sum.inr (Sum.inr (Sum.inr (Sum.inr (Sum.inr (Sum.inl (IntKind.u64, (0 : Int))))))))))) { heap := [some { elem := (118 : Nat), cells := [Sum.inr (Sum.inr (Sum.inr (Sum.inr (Sum.inr (Sum.inr (Sum.inr (Sum.inl { a := (0 : Nat), o := (0 : Nat), n := m, c := c }))))))), Sum.inr (Sum.inr (Sum.inr (Sum.inr (Sum.inr (Sum.inr (Sum.inl (IntKind.i64, a))))))), Sum.inr (Sum.inr (Sum.inr (Sum.inr (Sum.inr (Sum.inr (Sum.inl (IntKind.i64, e)))))))], j := none, c := (3 : Nat), z := false }], ints := [], opqs := (0 : Nat), arrs := [some { elem := OfNat.ofNat (5 : Nat), k := AK.n IntKind.u8, l := L, cap := cap, ro := false }], junks := (0 : Nat) }))))) ∧ (¬n ≤ (64 : Int) → (¬e = (0 : Int) → K (Sum.inl (Sum.inl (Sum.inr (Sum.inr (Sum.inr (Sum.inr (Sum.inr (Sum.inr (Sum.inl (IntKind.u64, (0 : Int))))))))))) { heap := [some { elem := (118 : Nat), cells := [Sum.inr (Sum.inr (Sum.inr (Sum.inr (Sum.inr (Sum.inr (Sum.inr (Sum.inl { a := (0 : Nat), o := (0 : Nat), n := m, c := c }))))))), Sum.inr (Sum.inr (Sum.inr (Sum.inr (Sum.inr (Sum.inr (Sum.inl (IntKind.i64, a))))))), Sum.inr (Sum.inr (Sum.inr (Sum.inr (Sum.inr (Sum.inr (Sum.inl (IntKind.i64, e)))))))], j := none, c := (3 : Nat), z := false }], ints := [], opqs := (0 : Nat), arrs := [some { elem := OfNat.ofNat (5 : Nat), k := AK.n IntKind.u8, l := L, cap := cap, ro := false }], junks := (0 : Nat) }) ∧ (¬¬e = (0 : Int) → K (Sum.inl (Sum.inl (Sum.inr (Sum.inr (Sum.inr (Sum.inr (Sum.inr (Sum.inr (Sum.inl (IntKind.u64, (0 : Int))))))))))) { heap := [some { elem := (118 : Nat), cells := [Sum.inr (Sum.inr (Sum.inr (Sum.inr (Sum.inr (Sum.inr (Sum.inr (Sum.inl { a := (0 : Nat), o := (0 : Nat), n := m, c := c }))))))), Sum.inr (Sum.inr (Sum.inr (Sum.inr (Sum.inr (Sum.inr (Sum.inl (IntKind.i64, a))))))), Sum.inl (Value.int IntKind.i64 (1 : Int))], j := none, c := (3 : Nat), z := false }], ints := [], opqs := (0 : Nat), arrs := [some { elem := OfNat.ofNat (5 : Nat), k := AK.n IntKind.u8, l := L, cap := cap, ro := false }], junks := (0 : Nat) }))) ∧ (¬(1 : Int) ≤ n → (¬e = (0 : Int) → K (Sum.inl (Sum.inl (Sum.inr (Sum.inr (Sum.inr (Sum.inr (Sum.inr (Sum.inr (Sum.inl (IntKind.u64, (0 : Int))))))))))) { heap := [some { elem := (118 : Nat), cells := [Sum.inr (Sum.inr (Sum.inr (Sum.inr (Sum.inr (Sum.inr (Sum.inr (Sum.inl { a := (0 : Nat), o := (0 : Nat), n := m, c := c }))))))), Sum.inr (Sum.inr (Sum.inr (Sum.inr (Sum.inr (Sum.inr (Sum.inl (IntKind.i64, a))))))), Sum.inr (Sum.inr (Sum.inr (Sum.inr (Sum.inr (Sum.inr (Sum.inl (IntKind.i64, e)))))))], j := none, c := (3 : Nat), z := false }], ints := [], opqs := (0 : Nat), arrs := [some { elem := OfNat.ofNat (5 : Nat), k := AK.n IntKind.u8, l := L, cap := cap, ro := false }], junks := (0 : Nat) }) ∧ (¬¬e = (0 : Int) → K (Sum.inl (Sum.inl (Sum.inr (Sum.inr (Sum.inr (Sum.inr (Sum.inr (Sum.inr (Sum.inl (IntKind.u64, (0 : Int))))))))))) { heap := [some { elem := (118 : Nat), cells := [Sum.inr (Sum.inr (Sum.inr (Sum.inr (Sum.inr (Sum.inr (Sum.inr (Sum.inl { a := (0 : Nat), o := (0 : Nat), n := m, c := c }))))))), Sum.inr (Sum.inr (Sum.inr (Sum.inr (Sum.inr (Sum.inr (Sum.inl (IntKind.i64, a))))))), Sum.inl (Value.int IntKind.i64 (1 : Int))], j := none, c := (3 : Nat), z := false }], ints := [], opqs := (0 : Nat), arrs := [some { elem := OfNat.ofNat (5 : Nat), k := AK.n IntKind.u8, l := L, cap := cap, ro := false }], junks := (0 : Nat) }))) := by kernel_rfl
theorem inSkip_vc (K : AV → St → Prop) (L : List Int) (m c cap : Nat) (a e n : Int) : (runI invB5 tB4 71 [ptr 0 0, xi .i64 n] (inSt L m c cap a e) K) = (((0 : Int) ≤ n → (¬e = (0 : Int) → K (Sum.inr []) { heap := [some { elem := (118 : Nat), cells := [Sum.inr (Sum.inr (Sum.inr (Sum.inr (Sum.inr (Sum.inr (Sum.inr (Sum.inl { a := (0 : Nat), o := (0 : Nat), n := m, c := c }))))))), Sum.inr (Sum.inr (Sum.inr (Sum.inr (Sum.inr (Sum.inr (Sum.inl (IntKind.i64, a))))))), Sum.inr (Sum.inr (Sum.inr (Sum.inr (Sum.inr (Sum.inr (Sum.inl (IntKind.i64, e)))))))], j := none, c := (3 : Nat), z := false }], ints := [], opqs := (0 : Nat), arrs := [some { elem := OfNat.ofNat (5 : Nat), k := AK.n IntKind.u8, l := L, cap := cap, ro := false }], junks := (0 : Nat) }) ∧ (¬¬e = (0 : Int) → (¬e = (0 : Int) → ((0 : Int) < n → K (Sum.inr []) { heap := [some { elem := (118 : Nat), cells := [Sum.inr (Sum.inr (Sum.inr (Sum.inr (Sum.inr (Sum.inr (Sum.inr (Sum.inl { a := (0 : Nat), o := (0 : Nat), n := m, c := c }))))))), Sum.inr (Sum.inr (Sum.inr (Sum.inr (Sum.inr (Sum.inr (Sum.inl (IntKind.i64, a))))))), Sum.inl (Value.int IntKind.i64 (7 : Int))], j := none, c := (3 : Nat), z := false }], ints := [], opqs := (0 : Nat), arrs := [some { elem := OfNat.ofNat (5 : Nat), k := AK.n IntKind.u8, l := L, cap := cap, ro := false }], junks := (0 : Nat) }) ∧ (¬(0 : Int) < n → (e = (0 : Int) → ∀ (z0 : Int), z0 = IntKind.wrap IntKind.i64 (a + n) → K (Sum.inr []) { heap := [some { elem := (118 : Nat), cells := [Sum.inr (Sum.inr (Sum.inr (Sum.inr (Sum.inr (Sum.inr (Sum.inr (Sum.inl { a := (0 : Nat), o := (0 : Nat), n := m, c := c }))))))), Sum.inr (Sum.inr (Sum.inr (Sum.inr (Sum.inr (Sum.inr (Sum.inl (IntKind.i64, z0))))))), Sum.inr (Sum.inr (Sum.inr (Sum.inr (Sum.inr (Sum.inr (Sum.inl (IntKind.i64, e)))))))], j := none, c := (3 : Nat), z := false }], ints := [], opqs := (0 : Nat), arrs := [some { elem := OfNat.ofNat (5 : Nat), k := AK.n IntKind.u8, l := L, cap := cap, ro := false }], junks := (0 : Nat) }) ∧ (¬e = (0 : Int) → K (Sum.inr []) { heap := [some { elem := (118 : Nat), cells := [Sum.inr (Sum.inr (Sum.inr (Sum.inr (Sum.inr (Sum.inr (Sum.inr (Sum.inl { a := (0 : Nat), o := (0 : Nat), n := m, c := c }))))))), Sum.inr (Sum.inr (Sum.inr (Sum.inr (Sum.inr (Sum.inr (Sum.inl (IntKind.i64, a))))))), Sum.inr (Sum.inr (Sum.inr (Sum.inr (Sum.inr (Sum.inr (Sum.inl (IntKind.i64, e)))))))], j := none, c := (3 : Nat), z := false }], ints := [], opqs := (0 : Nat), arrs := [some { elem := OfNat.ofNat (5 : Nat), k := AK.n IntKind.u8, l := L, cap := cap, ro := false }], junks := (0 : Nat) }))) ∧ (¬¬e = (0 : Int) → ∀ (z1 : Int), z1 = (↑m : Int) → ∀ (z2 : Int), z2 = IntKind.wrap IntKind.i64 ((8 : Int) * z1) → ∀ (z3 : Int), z3 = IntKind.wrap IntKind.i64 (z2 - a) → ¬(1 : Int) = (0 : Int) ∧ ∀ (z4 : Int), z4 = IntKind.wrap IntKind.i64 (Int.tdiv z3 (1 : Int)) → (z4 < n → K (Sum.inr []) { heap := [some { elem := (118 : Nat), cells := [Sum.inr (Sum.inr (Sum.inr (Sum.inr (Sum.inr (Sum.inr (Sum.inr (Sum.inl { a := (0 : Nat), o := (0 : Nat), n := m, c := c }))))))), Sum.inr (Sum.inr (Sum.inr (Sum.inr (Sum.inr (Sum.inr (Sum.inl (IntKind.i64, a))))))), Sum.inl (Value.int IntKind.i64 (7 : Int))], j := none, c := (3 : Nat), z := false }], ints := [], opqs := (0 : Nat), arrs := [some { elem := OfNat.ofNat (5 : Nat), k := AK.n IntKind.u8, l := L, cap := cap, ro := false }], junks := (0 : Nat) }) ∧ (¬z4 < n → (e = (0 : Int) → ∀ (z5 : Int), z5 = IntKind.wrap IntKind.i64 (a + n) → K (Sum.inr []) { heap := [some { elem := (118 : Nat), cells := [Sum.inr (Sum.inr (Sum.inr (Sum.inr (Sum.inr (Sum.inr (Sum.inr (Sum.inl { a := (0 : Nat), o := (0 : Nat), n := m, c := c }))))))), Sum.inr (Sum.inr (Sum.inr (Sum.inr (Sum.inr (Sum.inr (Sum.inl (IntKind.i64, z5))))))), Sum.inr (Sum.inr (Sum.inr (Sum.inr (Sum.inr (Sum.inr (Sum.inl (IntKind.i64, e)))))))], j := none, c := (3 : Nat), z := false }], ints := [], opqs := (0 : Nat), arrs := [some { elem := OfNat.ofNat (5 : Nat), k := AK.n IntKind.u8, l := L, cap := cap, ro := false }], junks := (0 : Nat) }) ∧ (¬e = (0 : Int) → K (Sum.inr []) { heap := [some { elem := (118 : Nat), cells := [Sum.inr (Sum.inr (Sum.inr (Sum.inr (Sum.inr (Sum.inr (Sum.inr (Sum.inl { a := (0 : Nat), o := (0 : Nat), n := m, c := c }))))))), Sum.inr (Sum.inr (Sum.inr (Sum.inr (Sum.inr (Sum.inr (Sum.inl (IntKind.i64, a))))))), Sum.inr (Sum.inr (Sum.inr (Sum.inr (Sum.inr (Sum.inr (Sum.inl (IntKind.i64, e)))))))], j := none, c := (3 : Nat), z := false }], ints := [], opqs := (0 : Nat), arrs := [some { elem := OfNat.ofNat (5 : Nat), k := AK.n IntKind.u8, l := L, cap := cap, ro := false }], junks := (0 : Nat) }))))) ∧ (¬(0 : Int) ≤ n → (¬e = (0 : Int) → K (Sum.inr []) { heap := [some { elem := (118 : Nat), cells := [Sum.inr (Sum.inr (Sum.inr (Sum.inr (Sum.inr (Sum.inr (Sum.inr (Sum.inl { a := (0 : Nat), o := (0 : Nat), n := m, c := c }))))))), Sum.inr (Sum.inr (Sum.inr (Sum.inr (Sum.inr (Sum.inr (Sum.inl (IntKind.i64, a))))))), Sum.inr (Sum.inr (Sum.inr (Sum.inr (Sum.inr (Sum.inr (Sum.inl (IntKind.i64, e)))))))], j := none, c := (3 : Nat), z := false }], ints := [], opqs := (0 : Nat), arrs := [some { elem := OfNat.ofNat (5 : Nat), k := AK.n IntKind.u8, l := L, cap := cap, ro := false }], junks := (0 : Nat) }) ∧ (¬¬e = (0 : Int) → K (Sum.inr []) { heap := [some { elem := (118 : Nat), cells := [Sum.inr (Sum.inr (Sum.inr (Sum.inr (Sum.inr (Sum.inr (Sum.inr (Sum.inl { a := (0 : Nat), o := (0 : Nat), n := m, c := c }))))))), Sum.inr (Sum.inr (Sum.inr (Sum.inr (Sum.inr (Sum.inr (Sum.inl (IntKind.i64, a))))))), Sum.inl (Value.int IntKind.i64 (1 : Int))], j := none, c := (3 : Nat), z := false }], ints := [], opqs := (0 : Nat), arrs := [some { elem := OfNat.ofNat (5 : Nat), k := AK.n IntKind.u8, l := L, cap := cap, ro := false }], junks := (0 : Nat) }))) := by kernel_rfl
theorem inBytes_vc (K : AV → St → Prop) (L : List Int) (m c cap : Nat) (a e n : Int) : (runI invB5 tB4 73 [ptr 0 0, xi .i64 n] (inSt L m c cap a e) K) = (((0 : Int) ≤ n → (¬e = (0 : Int) → K (Sum.inl (Sum.inl (Sum.inl (Value.slice none (0 : Nat) (0 : Nat))))) { heap := [some { elem := (118 : Nat), cells := [Sum.inr (Sum.inr (Sum.inr (Sum.inr (Sum.inr (Sum.inr (Sum.inr (Sum.inl { a := (0 : Nat), o := (0 : Nat), n := m, c := c }))))))), Sum.inr (Sum.inr (Sum.inr (Sum.inr (Sum.inr (Sum.inr (Sum.inl (IntKind.i64, a))))))), Sum.inr (Sum.inr (Sum.inr (Sum.inr (Sum.inr (Sum.inr (Sum.inl (IntKind.i64, e)))))))], j := none, c := (3 : Nat), z := false }], ints := [], opqs := (0 : Nat), arrs := [some { elem := OfNat.ofNat (5 : Nat), k := AK.n IntKind.u8, l := L, cap := cap, ro := false }], junks := (0 : Nat) }) ∧ (¬¬e = (0 : Int) → (¬e = (0 : Int) → ((0 : Int) < n → K (Sum.inl (Sum.inl (Sum.inl (Value.slice none (0 : Nat) (0 : Nat))))) { heap := [some { elem := (118 : Nat), cells := [Sum.inr (Sum.inr (Sum.inr (Sum.inr (Sum.inr (Sum.inr (Sum.inr (Sum.inl { a := (0 : Nat), o := (0 : Nat), n := m, c := c }))))))), Sum.inr (Sum.inr (Sum.inr (Sum.inr (Sum.inr (Sum.inr (Sum.inl (IntKind.i64, a))))))), Sum.inl (Value.int IntKind.i64 (7 : Int))], j := none, c := (3 : Nat), z := false }], ints := [], opqs := (0 : Nat), arrs := [some { elem := OfNat.ofNat (5 : Nat), k := AK.n IntKind.u8, l := L, cap := cap, ro := false }], junks := (0 : Nat) }) ∧ (¬(0 : Int) < n → (e = (0 : Int) → ((0 : Int) ≤ n ∧ n ≤ n ∧ n ≤ (16777216 : Int)) ∧ ∀ (n0 m1 : Nat) (l'2 : List Int), (↑n0 : Int) = n → (↑m1 : Int) = n → l'2 = List.replicate m1 (0 : Int) → ¬(8 : Int) = (0 : Int) ∧ ∀ (z3 : Int), z3 = Int.tmod a (8 : Int) → (z3 = (0 : Int) → ¬(8 : Int) = (0 : Int) ∧ ∀ (z4 : Int), z4 = IntKind.wrap IntKind.i64 (Int.tdiv a (8 : Int)) → ((0 : Int) ≤ z4 ∧ z4 ≤ (↑m : Int)) ∧ ∀ (o5 n6 c7 : Nat), ((↑o5 : Int) = if (↑(ASl.c { a := (0 : Nat), o := (0 : Nat), n := m, c := c }) : Int) = z4 then (↑(OfNat.ofNat (0 : Nat)) : Int) else (↑(OfNat.ofNat (0 : Nat)) : Int) + z4) → (↑n6 : Int) = (↑m : Int) - z4 → (↑c7 : Int) = (↑c : Int) - z4 → (OfNat.ofNat (0 : Nat) + n0 ≤ List.length l'2 ∧ Nat.le (o5 + n6) (List.length L)) ∧ ∀ (n8 : Nat) (l'9 : List Int), n8 = min n6 n0 → l'9 = List.take (OfNat.ofNat (0 : Nat)) l'2 ++ List.take n8 (List.take n6 (List.drop o5 L)) ++ List.drop (OfNat.ofNat (0 : Nat) + n8) l'2 → a = a ∧ (OfNat.ofNat (0 : Nat) = OfNat.ofNat (0 : Nat) ∧ m = m ∧ c = c) ∧ ∀ (z10 : Int), z10 = IntKind.wrap IntKind.i64 ((8 : Int) * n) → ∀ (z11 : Int), z11 = IntKind.wrap IntKind.i64 (a + z10) → K (Sum.inl (Sum.inl (Sum.inr (Sum.inr (Sum.inr (Sum.inr (Sum.inr (Sum.inr (Sum.inr (Sum.inl { a := (1 : Nat), o := OfNat.ofNat (0 : Nat), n := n0, c := m1 })))))))))) { heap := [some { elem := (118 : Nat), cells := [Sum.inr (Sum.inr (Sum.inr (Sum.inr (Sum.inr (Sum.inr (Sum.inr (Sum.inl { a := (0 : Nat), o := (0 : Nat), n := m, c := c }))))))), Sum.inr (Sum.inr (Sum.inr (Sum.inr (Sum.inr (Sum.inr (Sum.inl (IntKind.i64, z11))))))), Sum.inr (Sum.inr (Sum.inr (Sum.inr (Sum.inr (Sum.inr (Sum.inl (IntKind.i64, e)))))))], j := none, c := (3 : Nat), z := false }], ints := [], opqs := (0 : Nat), arrs := [some { elem := OfNat.ofNat (5 : Nat), k := AK.n IntKind.u8, l := L, cap := cap, ro := false }, some { elem := (5 : Nat), k := AK.n IntKind.u8, l := l'9, cap := m1, ro := false }], junks := (0 : Nat) }) ∧ (¬z3 = (0 : Int) → ∀ (z12 : Int), z12 = (↑n0 : Int) → (∃ (y13 : Nat), n = n ∧ (OfNat.ofNat (0 : Nat) = OfNat.ofNat (0 : Nat) ∧ n0 = n0 ∧ m1 = m1) ∧ n = n ∧ n = n ∧ n = n ∧ (OfNat.ofNat (0 : Nat) = OfNat.ofNat (0 : Nat) ∧ n0 = n0 ∧ m1 = m1) ∧ a = a ∧ z3 = z3 ∧ (OfNat.ofNat (0 : Nat) = OfNat.ofNat (0 : Nat) ∧ n0 = n0 ∧ m1 = m1) ∧ z12 = z12 ∧ (OfNat.ofNat (0 : Nat) = OfNat.ofNat (0 : Nat) ∧ m = m ∧ c = c) ∧ a = a ∧ e = e ∧ (L = L ∧ cap = cap ∧ false = false) ∧ (l'2 = l'2 ∧ m1 = m1 ∧ false = false) ∧ U.never) ∧ ∀ (x14 : Nat), U.never → Err [(113 : Nat), (0 : Nat), (52 : Nat)])) ∧ (¬e = (0 : Int) → K (Sum.inl (Sum.inl (Sum.inl (Value.slice none (0 : Nat) (0 : Nat))))) { heap := [some { elem := (118 : Nat), cells := [Sum.inr (Sum.inr (Sum.inr (Sum.inr (Sum.inr (Sum.inr (Sum.inr (Sum.inl { a := (0 : Nat), o := (0 : Nat), n := m, c := c }))))))), Sum.inr (Sum.inr (Sum.inr (Sum.inr (Sum.inr (Sum.inr (Sum.inl (IntKind.i64, a))))))), Sum.inr (Sum.inr (Sum.inr (Sum.inr (Sum.inr (Sum.inr (Sum.inl (IntKind.i64, e)))))))], j := none, c := (3 : Nat), z := false }], ints := [], opqs := (0 : Nat), arrs := [some { elem := OfNat.ofNat (5 : Nat), k := AK.n IntKind.u8, l := L, cap := cap, ro := false }], junks := (0 : Nat) }))) ∧ (¬¬e = (0 : Int) → ∀ (z15 : Int), z15 = (↑m : Int) → ∀ (z16 : Int), z16 = IntKind.wrap IntKind.i64 ((8 : Int) * z15) → ∀ (z17 : Int), z17 = IntKind.wrap IntKind.i64 (z16 - a) → ¬(8 : Int) = (0 : Int) ∧ ∀ (z18 : Int), z18 = IntKind.wrap IntKind.i64 (Int.tdiv z17 (8 : Int)) → (z18 < n → K (Sum.inl (Sum.inl (Sum.inl (Value.slice none (0 : Nat) (0 : Nat))))) { heap := [some { elem := (118 : Nat), cells := [Sum.inr (Sum.inr (Sum.inr (Sum.inr (Sum.inr (Sum.inr (Sum.inr (Sum.inl { a := (0 : Nat), o := (0 : Nat), n := m, c := c }))))))), Sum.inr (Sum.inr (Sum.inr (Sum.inr (Sum.inr (Sum.inr (Sum.inl (IntKind.i64, a))))))), Sum.inl (Value.int IntKind.i64 (7 : Int))], j := none, c := (3 : Nat), z := false }], ints := [], opqs := (0 : Nat), arrs := [some { elem := OfNat.ofNat (5 : Nat), k := AK.n IntKind.u8, l := L, cap := cap, ro := false }], junks := (0 : Nat) }) ∧ (¬z18 < n → (e = (0 : Int) → ((0 : Int) ≤ n ∧ n ≤ n ∧ n ≤ (16777216 : Int)) ∧ ∀ (n19 m20 : Nat) (l'21 : List Int), (↑n19 : Int) = n → (↑m20 : Int) = n → l'21 = List.replicate m20 (0 : Int) → ¬(8 : Int) = (0 : Int) ∧ ∀ (z22 : Int), z22 = Int.tmod a (8 : Int) → (z22 = (0 : Int) → ¬(8 : Int) = (0 : Int) ∧ ∀ (z23 : Int), z23 = IntKind.wrap IntKind.i64 (Int.tdiv a (8 : Int)) → ((0 : Int) ≤ z23 ∧ z23 ≤ (↑m : Int)) ∧ ∀ (o24 n25 c26 : Nat), ((↑o24 : Int) = if (↑(ASl.c { a := (0 : Nat), o := (0 : Nat), n := m, c := c }) : Int) = z23 then (↑(OfNat.ofNat (0 : Nat)) : Int) else (↑(OfNat.ofNat (0 : Nat)) : Int) + z23) → (↑n25 : Int) = (↑m : Int) - z23 → (↑c26 : Int) = (↑c : Int) - z23 → (OfNat.ofNat (0 : Nat) + n19 ≤ List.length l'21 ∧ Nat.le (o24 + n25) (List.length L)) ∧ ∀ (n27 : Nat) (l'28 : List Int), n27 = min n25 n19 → l'28 = List.take (OfNat.ofNat (0 : Nat)) l'21 ++ List.take n27 (List.take n25 (List.drop o24 L)) ++ List.drop (OfNat.ofNat (0 : Nat) + n27) l'21 → a = a ∧ (OfNat.ofNat (0 : Nat) = OfNat.ofNat (0 : Nat) ∧ m = m ∧ c = c) ∧ ∀ (z29 : Int), z29 = IntKind.wrap IntKind.i64 ((8 : Int) * n) → ∀ (z30 : Int), z30 = IntKind.wrap IntKind.i64 (a + z29) → K (Sum.inl (Sum.inl (Sum.inr (Sum.inr (Sum.inr (Sum.inr (Sum.inr (Sum.inr (Sum.inr (Sum.inl { a := (1 : Nat), o := OfNat.ofNat (0 : Nat), n := n19, c := m20 })))))))))) { heap := [some { elem := (118 : Nat), cells := [Sum.inr (Sum.inr (Sum.inr (Sum.inr (Sum.inr (Sum.inr (Sum.inr (Sum.inl { a := (0 : Nat), o := (0 : Nat), n := m, c := c }))))))), Sum.inr (Sum.inr (Sum.inr (Sum.inr (Sum.inr (Sum.inr (Sum.inl (IntKind.i64, z30))))))), Sum.inr (Sum.inr (Sum.inr (Sum.inr (Sum.inr (Sum.inr (Sum.inl (IntKind.i64, e)))))))], j := none, c := (3 : Nat), z := false }], ints := [], opqs := (0 : Nat), arrs := [some { elem := OfNat.ofNat (5 : Nat), k := AK.n IntKind.u8, l := L, cap := cap, ro := false }, some { elem := (5 : Nat), k := AK.n IntKind.u8, l := l'28, cap := m20, ro := false }], junks := (0 : Nat) }) ∧ (¬z22 = (0 : Int) → ∀ (z31 : Int), z31 = (↑n19 : Int) → (∃ (y32 : Nat), n = n ∧ (OfNat.ofNat (0 : Nat) = OfNat.ofNat (0 : Nat) ∧ n19 = n19 ∧ m20 = m20) ∧ n = n ∧ n = n ∧ n = n ∧ (OfNat.ofNat (0 : Nat) = OfNat.ofNat (0 : Nat) ∧ n19 = n19 ∧ m20 = m20) ∧ a = a ∧ z22 = z22 ∧ (OfNat.ofNat (0 : Nat) = OfNat.ofNat (0 : Nat) ∧ n19 = n19 ∧ m20 = m20) ∧ z31 = z31 ∧ (OfNat.ofNat (0 : Nat) = OfNat.ofNat (0 : Nat) ∧ m = m ∧ c = c) ∧ a = a ∧ e = e ∧ (L = L ∧ cap = cap ∧ false = false) ∧ (l'21 = l'21 ∧ m20 = m20 ∧ false = false) ∧ U.never) ∧ ∀ (x33 : Nat), U.never → Err [(113 : Nat), (0 : Nat), (52 : Nat)])) ∧ (¬e = (0 : Int) → K (Sum.inl (Sum.inl (Sum.inl (Value.slice none (0 : Nat) (0 : Nat))))) { heap := [some { elem := (118 : Nat), cells := [Sum.inr (Sum.inr (Sum.inr (Sum.inr (Sum.inr (Sum.inr (Sum.inr (Sum.inl { a := (0 : Nat), o := (0 : Nat), n := m, c := c }))))))), Sum.inr (Sum.inr (Sum.inr (Sum.inr (Sum.inr (Sum.inr (Sum.inl (IntKind.i64, a))))))), Sum.inr (Sum.inr (Sum.inr (Sum.inr (Sum.inr (Sum.inr (Sum.inl (IntKind.i64, e)))))))], j := none, c := (3 : Nat), z := false }], ints := [], opqs := (0 : Nat), arrs := [some { elem := OfNat.ofNat (5 : Nat), k := AK.n IntKind.u8, l := L, cap := cap, ro := false }], junks := (0 : Nat) }))))) ∧ (¬(0 : Int) ≤ n → (¬e = (0 : Int) → K (Sum.inl (Sum.inl (Sum.inl (Value.slice none (0 : Nat) (0 : Nat))))) { heap := [some { elem := (118 : Nat), cells := [Sum.inr (Sum.inr (Sum.inr (Sum.inr (Sum.inr (Sum.inr (Sum.inr (Sum.inl { a := (0 : Nat), o := (0 : Nat), n := m, c := c }))))))), Sum.inr (Sum.inr (Sum.inr (Sum.inr (Sum.inr (Sum.inr (Sum.inl (IntKind.i64, a))))))), Sum.inr (Sum.inr (Sum.inr (Sum.inr (Sum.inr (Sum.inr (Sum.inl (IntKind.i64, e)))))))], j := none, c := (3 : Nat), z := false }], ints := [], opqs := (0 : Nat), arrs := [some { elem := OfNat.ofNat (5 : Nat), k := AK.n IntKind.u8, l := L, cap := cap, ro := false }], junks := (0 : Nat) }) ∧ (¬¬e = (0 : Int) → K (Sum.inl (Sum.inl (Sum.inl (Value.slice none (0 : Nat) (0 : Nat))))) { heap := [some { elem := (118 : Nat), cells := [Sum.inr (Sum.inr (Sum.inr (Sum.inr (Sum.inr (Sum.inr (Sum.inr (Sum.inl { a := (0 : Nat), o := (0 : Nat), n := m, c := c }))))))), Sum.inr (Sum.inr (Sum.inr (Sum.inr (Sum.inr (Sum.inr (Sum.inl (IntKind.i64, a))))))), Sum.inl (Value.int IntKind.i64 (1 : Int))], j := none, c := (3 : Nat), z := false }], ints := [], opqs := (0 : Nat), arrs := [some { elem := OfNat.ofNat (5 : Nat), k := AK.n IntKind.u8, l := L, cap := cap, ro := false }], junks := (0 : Nat) }))) := by kernel_rfl
theorem outSet_vc (K : AV → St → Prop) (L : List Int) (m c cap : Nat) (N a n v : Int) : (runI invB5 tB4 67 [ptr 0 0, xi .i64 a, xi .i64 n, xi .u64 v] (outSt L m c cap N) K) = (((1 : Int) ≤ n → (n ≤ (64 : Int) → (a < (0 : Int) → K (Sum.inl (Sum.inl (Sum.inr (Sum.inr (Sum.inr (Sum.inr (Sum.inr (Sum.inr (Sum.inl (IntKind.i64, (7 : Int))))))))))) { heap := [some { elem := (108 : Nat), cells := [Sum.inr (Sum.inr (Sum.inr (Sum.inr (Sum.inr (Sum.inr (Sum.inr (Sum.inl { a := (0 : Nat), o := (0 : Nat), n := m, c := c }))))))), Sum.inr (Sum.inr (Sum.inr (Sum.inr (Sum.inr (Sum.inr (Sum.inl (IntKind.i64, N)))))))], j := none, c := (2 : Nat), z := false }], ints := [], opqs := (0 : Nat), arrs := [some { elem := OfNat.ofNat (5 : Nat), k := AK.n IntKind.u8, l := L, cap := cap, ro := false }], junks := (0 : Nat) }) ∧ (¬a < (0 : Int) → ∀ (z0 : Int), z0 = IntKind.wrap IntKind.i64 (N - n) → (z0 < a → K (Sum.inl (Sum.inl (Sum.inr (Sum.inr (Sum.inr (Sum.inr (Sum.inr (Sum.inr (Sum.inl (IntKind.i64, (7 : Int))))))))))) { heap := [some { elem := (108 : Nat), cells := [Sum.inr (Sum.inr (Sum.inr (Sum.inr (Sum.inr (Sum.inr (Sum.inr (Sum.inl { a := (0 : Nat), o := (0 : Nat), n := m, c := c }))))))), Sum.inr (Sum.inr (Sum.inr (Sum.inr (Sum.inr (Sum.inr (Sum.inl (IntKind.i64, N)))))))], j := none, c := (2 : Nat), z := false }], ints := [], opqs := (0 : Nat), arrs := [some { elem := OfNat.ofNat (5 : Nat), k := AK.n IntKind.u8, l := L, cap := cap, ro := false }], junks := (0 : Nat) }) ∧ (¬z0 < a → (U.By L ∧ m = List.length L ∧ List.length L ≤ (65536 : Nat) ∧ (0 : Int) ≤ a ∧ (0 : Int) ≤ n ∧ n ≤ (64 : Int) ∧ a + n ≤ (8 : Int) * (↑(List.length L) : Int) ∧ (0 : Int) ≤ v ∧ v ≤ (18446744073709551615 : Int)) ∧ ∀ (L'1 : List Int), U.Sto L a n v L'1 → K (Sum.inl (Sum.inl (Sum.inr (Sum.inr (Sum.inr (Sum.inr (Sum.inr (Sum.inr (Sum.inl (IntKind.i64, (0 : Int))))))))))) { heap := [some { elem := (108 : Nat), cells := [Sum.inr (Sum.inr (Sum.inr (Sum.inr (Sum.inr (Sum.inr (Sum.inr (Sum.inl { a := (0 : Nat), o := (0 : Nat), n := m, c := c }))))))), Sum.inr (Sum.inr (Sum.inr (Sum.inr (Sum.inr (Sum.inr (Sum.inl (IntKind.i64, N)))))))], j := none, c := (2 : Nat), z := false }], ints := [], opqs := (0 : Nat), arrs := [some { elem := OfNat.ofNat (5 : Nat), k := AK.n IntKind.u8, l := L'1, cap := cap, ro := false }], junks := (0 : Nat) }))) ∧ (¬n ≤ (64 : Int) → K (Sum.inl (Sum.inl (Sum.inr (Sum.inr (Sum.inr (Sum.inr (Sum.inr (Sum.inr (Sum.inl (IntKind.i64, (1 : Int))))))))))) { heap := [some { elem := (108 : Nat), cells := [Sum.inr (Sum.inr (Sum.inr (Sum.inr (Sum.inr (Sum.inr (Sum.inr (Sum.inl { a := (0 : Nat), o := (0 : Nat), n := m, c := c }))))))), Sum.inr (Sum.inr (Sum.inr (Sum.inr (Sum.inr (Sum.inr (Sum.inl (IntKind.i64, N)))))))], j := none, c := (2 : Nat), z := false }], ints := [], opqs := (0 : Nat), arrs := [some { elem := OfNat.ofNat (5 : Nat), k := AK.n IntKind.u8, l := L, cap := cap, ro := false }], junks := (0 : Nat) })) ∧ (¬(1 : Int) ≤ n → K (Sum.inl (Sum.inl (Sum.inr (Sum.inr (Sum.inr (Sum.inr (Sum.inr (Sum.inr (Sum.inl (IntKind.i64, (1 : Int))))))))))) { heap := [some { elem := (108 : Nat), cells := [Sum.inr (Sum.inr (Sum.inr (Sum.inr (Sum.inr (Sum.inr (Sum.inr (Sum.inl { a := (0 : Nat), o := (0 : Nat), n := m, c := c }))))))), Sum.inr (Sum.inr (Sum.inr (Sum.inr (Sum.inr (Sum.inr (Sum.inl (IntKind.i64, N)))))))], j := none, c := (2 : Nat), z := false }], ints := [], opqs := (0 : Nat), arrs := [some { elem := OfNat.ofNat (5 : Nat), k := AK.n IntKind.u8, l := L, cap := cap, ro := false }], junks := (0 : Nat) })) := by kernel_rfl
theorem done_vc (K : AV → St → Prop) (L : List Int) (m c cap : Nat) (N : Int) : (runI invB5 tB4 51 [ptr 0 0] (outSt L m c cap N) K) = ((OfNat.ofNat (0 : Nat) + m ≤ List.length L ∧ m ≤ (16777216 : Nat)) ∧ ∀ (L'0 : List Int) (c'1 cap'2 : Nat), L'0 = List.take m (List.drop (OfNat.ofNat (0 : Nat)) L) → m ≤ c'1 → c'1 ≤ cap'2 → K (Sum.inl (Sum.inl (Sum.inr (Sum.inr (Sum.inr (Sum.inr (Sum.inr (Sum.inr (Sum.inr (Sum.inl { a := (1 : Nat), o := OfNat.ofNat (0 : Nat), n := m, c := c'1 })))))))))) { heap := [some { elem := (108 : Nat), cells := [Sum.inr (Sum.inr (Sum.inr (Sum.inr (Sum.inr (Sum.inr (Sum.inr (Sum.inl { a := (0 : Nat), o := (0 : Nat), n := m, c := c }))))))), Sum.inr (Sum.inr (Sum.inr (Sum.inr (Sum.inr (Sum.inr (Sum.inl (IntKind.i64, N)))))))], j := none, c := (2 : Nat), z := false }], ints := [], opqs := (0 : Nat), arrs := [some { elem := OfNat.ofNat (5 : Nat), k := AK.n IntKind.u8, l := L, cap := cap, ro := false }, some { elem := OfNat.ofNat (5 : Nat), k := AK.n IntKind.u8, l := L'0, cap := cap'2, ro := false }], junks := (0 : Nat) }) := by kernel_rfl
theorem of_vc (K : AV → St → Prop) (L : List Int) (o m c cap : Nat) (ro : Bool) : (runI invB5 tB4 52 [cell (aslC ⟨0, o, m, c⟩)] (ar [bs L cap ro]) K) = ((o + m ≤ List.length L ∧ m ≤ (16777216 : Nat)) ∧ ∀ (L'0 : List Int) (c'1 cap'2 : Nat), L'0 = List.take m (List.drop o L) → m ≤ c'1 → c'1 ≤ cap'2 → K (Sum.inl (Sum.inl (Sum.inr (Sum.inl ((0 : Nat), OfNat.ofNat (0 : Nat)))))) { heap := [some { elem := (118 : Nat), cells := [Sum.inr (Sum.inr (Sum.inr (Sum.inr (Sum.inr (Sum.inr (Sum.inr (Sum.inl { a := (1 : Nat), o := (0 : Nat), n := m, c := c'1 }))))))), Sum.inl (Value.int IntKind.i64 (0 : Int)), Sum.inl (Value.int IntKind.i64 (0 : Int))], j := none, c := (3 : Nat), z := false }], ints := [], opqs := (0 : Nat), arrs := [Decidable.rec (fun (h : ¬isRo (some { elem := OfNat.ofNat (5 : Nat), k := AK.n IntKind.u8, l := L, cap := cap, ro := ro }) = true) => (fun (x : ¬isRo (some { elem := OfNat.ofNat (5 : Nat), k := AK.n IntKind.u8, l := L, cap := cap, ro := ro }) = true) => backA (List.getD (St.arrs { heap := [], ints := [], opqs := (0 : Nat), arrs := [some { elem := OfNat.ofNat (5 : Nat), k := AK.n IntKind.u8, l := L, cap := cap, ro := ro }, some { elem := OfNat.ofNat (5 : Nat), k := AK.n IntKind.u8, l := L'0, cap := cap'2, ro := false }], junks := (0 : Nat) }) (0 : Nat) none)) h) (fun (h : isRo (some { elem := OfNat.ofNat (5 : Nat), k := AK.n IntKind.u8, l := L, cap := cap, ro := ro }) = true) => (fun (x : isRo (some { elem := OfNat.ofNat (5 : Nat), k := AK.n IntKind.u8, l := L, cap := cap, ro := ro }) = true) => some { elem := OfNat.ofNat (5 : Nat), k := AK.n IntKind.u8, l := L, cap := cap, ro := ro }) h) (instDecidableEqBool (isRo (some { elem := OfNat.ofNat (5 : Nat), k := AK.n IntKind.u8, l := L, cap := cap, ro := ro })) true), some { elem := OfNat.ofNat (5 : Nat), k := AK.n IntKind.u8, l := L'0, cap := cap'2, ro := false }], junks := (0 : Nat) }) := by kernel_rfl
theorem bits1_vc (K : AV → St → Prop) (L : List Int) (m c cap : Nat) (N n u : Int) : (runI invB5 tB4 45 [ptr 0 0, xi .i64 n, sl ⟨1, 0, 1, none, 1⟩] ⟨[outB (aslC ⟨0, 0, m, c⟩) N, some ⟨22, [xintC .u64 u], none, 1, false⟩], [], 0, [some (bs L cap false)], 0⟩ K) = (((1 : Int) ≤ n → (n ≤ (64 : Int) → ∀ (z0 : Int), z0 = IntKind.wrap IntKind.i64 ((524288 : Int) - N) → ¬n = (0 : Int) ∧ ∀ (z1 : Int), z1 = IntKind.wrap IntKind.i64 (Int.tdiv z0 n) → (z1 < (1 : Int) → K (Sum.inl (Sum.inl (Sum.inr (Sum.inr (Sum.inr (Sum.inr (Sum.inr (Sum.inr (Sum.inl (IntKind.i64, (4 : Int))))))))))) { heap := [some { elem := (108 : Nat), cells := [Sum.inr (Sum.inr (Sum.inr (Sum.inr (Sum.inr (Sum.inr (Sum.inr (Sum.inl { a := (0 : Nat), o := (0 : Nat), n := m, c := c }))))))), Sum.inr (Sum.inr (Sum.inr (Sum.inr (Sum.inr (Sum.inr (Sum.inl (IntKind.i64, N)))))))], j := none, c := (2 : Nat), z := false }, some { elem := (22 : Nat), cells := [Sum.inr (Sum.inr (Sum.inr (Sum.inr (Sum.inr (Sum.inr (Sum.inl (IntKind.u64, u)))))))], j := none, c := (1 : Nat), z := false }], ints := [], opqs := (0 : Nat), arrs := [some { elem := OfNat.ofNat (5 : Nat), k := AK.n IntKind.u8, l := L, cap := cap, ro := false }], junks := (0 : Nat) }) ∧ (¬z1 < (1 : Int) → ∃ (y2 : List Bool), (U.Out L N y2 ∧ m = List.length L ∧ c ≤ cap ∧ m ≤ c ∧ ((1 : Int) ≤ n ∧ n ≤ (64 : Int)) ∧ N + n ≤ (524288 : Int) ∧ (0 : Int) ≤ u ∧ u ≤ (18446744073709551615 : Int)) ∧ ∀ (L'3 : List Int) (m'4 c'5 cap'6 : Nat) (N'7 : Int), U.Out L'3 N'7 (U.app y2 n u) → N'7 = N + n → m'4 = List.length L'3 → c'5 ≤ cap'6 → m'4 ≤ c'5 → K (Sum.inl (Sum.inl (Sum.inr (Sum.inr (Sum.inr (Sum.inr (Sum.inr (Sum.inr (Sum.inl (IntKind.i64, (0 : Int))))))))))) { heap := [some { elem := (108 : Nat), cells := [Sum.inr (Sum.inr (Sum.inr (Sum.inr (Sum.inr (Sum.inr (Sum.inr (Sum.inl { a := (1 : Nat), o := (0 : Nat), n := m'4, c := c'5 }))))))), Sum.inr (Sum.inr (Sum.inr (Sum.inr (Sum.inr (Sum.inr (Sum.inl (IntKind.i64, N'7)))))))], j := none, c := (2 : Nat), z := false }, some { elem := (22 : Nat), cells := [Sum.inr (Sum.inr (Sum.inr (Sum.inr (Sum.inr (Sum.inr (Sum.inl (IntKind.u64, u)))))))], j := none, c := (1 : Nat), z := false }], ints := [], opqs := (0 : Nat), arrs := [none, some { elem := OfNat.ofNat (5 : Nat), k := AK.n IntKind.u8, l := L'3, cap := cap'6, ro := false }], junks := (0 : Nat) })) ∧ (¬n ≤ (64 : Int) → K (Sum.inl (Sum.inl (Sum.inr (Sum.inr (Sum.inr (Sum.inr (Sum.inr (Sum.inr (Sum.inl (IntKind.i64, (1 : Int))))))))))) { heap := [some { elem := (108 : Nat), cells := [Sum.inr (Sum.inr (Sum.inr (Sum.inr (Sum.inr (Sum.inr (Sum.inr (Sum.inl { a := (0 : Nat), o := (0 : Nat), n := m, c := c }))))))), Sum.inr (Sum.inr (Sum.inr (Sum.inr (Sum.inr (Sum.inr (Sum.inl (IntKind.i64, N)))))))], j := none, c := (2 : Nat), z := false }, some { elem := (22 : Nat), cells := [Sum.inr (Sum.inr (Sum.inr (Sum.inr (Sum.inr (Sum.inr (Sum.inl (IntKind.u64, u)))))))], j := none, c := (1 : Nat), z := false }], ints := [], opqs := (0 : Nat), arrs := [some { elem := OfNat.ofNat (5 : Nat), k := AK.n IntKind.u8, l := L, cap := cap, ro := false }], junks := (0 : Nat) })) ∧ (¬(1 : Int) ≤ n → K (Sum.inl (Sum.inl (Sum.inr (Sum.inr (Sum.inr (Sum.inr (Sum.inr (Sum.inr (Sum.inl (IntKind.i64, (1 : Int))))))))))) { heap := [some { elem := (108 : Nat), cells := [Sum.inr (Sum.inr (Sum.inr (Sum.inr (Sum.inr (Sum.inr (Sum.inr (Sum.inl { a := (0 : Nat), o := (0 : Nat), n := m, c := c }))))))), Sum.inr (Sum.inr (Sum.inr (Sum.inr (Sum.inr (Sum.inr (Sum.inl (IntKind.i64, N)))))))], j := none, c := (2 : Nat), z := false }, some { elem := (22 : Nat), cells := [Sum.inr (Sum.inr (Sum.inr (Sum.inr (Sum.inr (Sum.inr (Sum.inl (IntKind.u64, u)))))))], j := none, c := (1 : Nat), z := false }], ints := [], opqs := (0 : Nat), arrs := [some { elem := OfNat.ofNat (5 : Nat), k := AK.n IntKind.u8, l := L, cap := cap, ro := false }], junks := (0 : Nat) })) := by kernel_rfl
theorem bits2_vc (K : AV → St → Prop) (L : List Int) (m c cap : Nat) (N n u v : Int) : (runI invB5 tB4 45 [ptr 0 0, xi .i64 n, sl ⟨1, 0, 2, none, 2⟩] ⟨[outB (aslC ⟨0, 0, m, c⟩) N, some ⟨22, [xintC .u64 u, xintC .u64 v], none, 2, false⟩], [], 0, [some (bs L cap false)], 0⟩ K) = (((1 : Int) ≤ n → (n ≤ (64 : Int) → ∀ (z0 : Int), z0 = IntKind.wrap IntKind.i64 ((524288 : Int) - N) → ¬n = (0 : Int) ∧ ∀ (z1 : Int), z1 = IntKind.wrap IntKind.i64 (Int.tdiv z0 n) → (z1 < (2 : Int) → K (Sum.inl (Sum.inl (Sum.inr (Sum.inr (Sum.inr (Sum.inr (Sum.inr (Sum.inr (Sum.inl (IntKind.i64, (4 : Int))))))))))) { heap := [some { elem := (108 : Nat), cells := [Sum.inr (Sum.inr (Sum.inr (Sum.inr (Sum.inr (Sum.inr (Sum.inr (Sum.inl { a := (0 : Nat), o := (0 : Nat), n := m, c := c }))))))), Sum.inr (Sum.inr (Sum.inr (Sum.inr (Sum.inr (Sum.inr (Sum.inl (IntKind.i64, N)))))))], j := none, c := (2 : Nat), z := false }, some { elem := (22 : Nat), cells := [Sum.inr (Sum.inr (Sum.inr (Sum.inr (Sum.inr (Sum.inr (Sum.inl (IntKind.u64, u))))))), Sum.inr (Sum.inr (Sum.inr (Sum.inr (Sum.inr (Sum.inr (Sum.inl (IntKind.u64, v)))))))], j := none, c := (2 : Nat), z := false }], ints := [], opqs := (0 : Nat), arrs := [some { elem := OfNat.ofNat (5 : Nat), k := AK.n IntKind.u8, l := L, cap := cap, ro := false }], junks := (0 : Nat) }) ∧ (¬z1 < (2 : Int) → ∃ (y2 : List Bool), (U.Out L N y2 ∧ m = List.length L ∧ c ≤ cap ∧ m ≤ c ∧ ((1 : Int) ≤ n ∧ n ≤ (64 : Int)) ∧ N + n ≤ (524288 : Int) ∧ (0 : Int) ≤ u ∧ u ≤ (18446744073709551615 : Int)) ∧ ∀ (L'3 : List Int) (m'4 c'5 cap'6 : Nat) (N'7 : Int), U.Out L'3 N'7 (U.app y2 n u) → N'7 = N + n → m'4 = List.length L'3 → c'5 ≤ cap'6 → m'4 ≤ c'5 → ∃ (y8 : List Bool), (U.Out L'3 N'7 y8 ∧ m'4 = List.length L'3 ∧ c'5 ≤ cap'6 ∧ m'4 ≤ c'5 ∧ ((1 : Int) ≤ n ∧ n ≤ (64 : Int)) ∧ N'7 + n ≤ (524288 : Int) ∧ (0 : Int) ≤ v ∧ v ≤ (18446744073709551615 : Int)) ∧ ∀ (L'9 : List Int) (m'10 c'11 cap'12 : Nat) (N'13 : Int), U.Out L'9 N'13 (U.app y8 n v) → N'13 = N'7 + n → m'10 = List.length L'9 → c'11 ≤ cap'12 → m'10 ≤ c'11 → K (Sum.inl (Sum.inl (Sum.inr (Sum.inr (Sum.inr (Sum.inr (Sum.inr (Sum.inr (Sum.inl (IntKind.i64, (0 : Int))))))))))) { heap := [some { elem := (108 : Nat), cells := [Sum.inr (Sum.inr (Sum.inr (Sum.inr (Sum.inr (Sum.inr (Sum.inr (Sum.inl { a := (1 : Nat), o := (0 : Nat), n := m'10, c := c'11 }))))))), Sum.inr (Sum.inr (Sum.inr (Sum.inr (Sum.inr (Sum.inr (Sum.inl (IntKind.i64, N'13)))))))], j := none, c := (2 : Nat), z := false }, some { elem := (22 : Nat), cells := [Sum.inr (Sum.inr (Sum.inr (Sum.inr (Sum.inr (Sum.inr (Sum.inl (IntKind.u64, u))))))), Sum.inr (Sum.inr (Sum.inr (Sum.inr (Sum.inr (Sum.inr (Sum.inl (IntKind.u64, v)))))))], j := none, c := (2 : Nat), z := false }], ints := [], opqs := (0 : Nat), arrs := [none, some { elem := OfNat.ofNat (5 : Nat), k := AK.n IntKind.u8, l := L'9, cap := cap'12, ro := false }], junks := (0 : Nat) })) ∧ (¬n ≤ (64 : Int) → K (Sum.inl (Sum.inl (Sum.inr (Sum.inr (Sum.inr (Sum.inr (Sum.inr (Sum.inr (Sum.inl (IntKind.i64, (1 : Int))))))))))) { heap := [some { elem := (108 : Nat), cells := [Sum.inr (Sum.inr (Sum.inr (Sum.inr (Sum.inr (Sum.inr (Sum.inr (Sum.inl { a := (0 : Nat), o := (0 : Nat), n := m, c := c }))))))), Sum.inr (Sum.inr (Sum.inr (Sum.inr (Sum.inr (Sum.inr (Sum.inl (IntKind.i64, N)))))))], j := none, c := (2 : Nat), z := false }, some { elem := (22 : Nat), cells := [Sum.inr (Sum.inr (Sum.inr (Sum.inr (Sum.inr (Sum.inr (Sum.inl (IntKind.u64, u))))))), Sum.inr (Sum.inr (Sum.inr (Sum.inr (Sum.inr (Sum.inr (Sum.inl (IntKind.u64, v)))))))], j := none, c := (2 : Nat), z := false }], ints := [], opqs := (0 : Nat), arrs := [some { elem := OfNat.ofNat (5 : Nat), k := AK.n IntKind.u8, l := L, cap := cap, ro := false }], junks := (0 : Nat) })) ∧ (¬(1 : Int) ≤ n → K (Sum.inl (Sum.inl (Sum.inr (Sum.inr (Sum.inr (Sum.inr (Sum.inr (Sum.inr (Sum.inl (IntKind.i64, (1 : Int))))))))))) { heap := [some { elem := (108 : Nat), cells := [Sum.inr (Sum.inr (Sum.inr (Sum.inr (Sum.inr (Sum.inr (Sum.inr (Sum.inl { a := (0 : Nat), o := (0 : Nat), n := m, c := c }))))))), Sum.inr (Sum.inr (Sum.inr (Sum.inr (Sum.inr (Sum.inr (Sum.inl (IntKind.i64, N)))))))], j := none, c := (2 : Nat), z := false }, some { elem := (22 : Nat), cells := [Sum.inr (Sum.inr (Sum.inr (Sum.inr (Sum.inr (Sum.inr (Sum.inl (IntKind.u64, u))))))), Sum.inr (Sum.inr (Sum.inr (Sum.inr (Sum.inr (Sum.inr (Sum.inl (IntKind.u64, v)))))))], j := none, c := (2 : Nat), z := false }], ints := [], opqs := (0 : Nat), arrs := [some { elem := OfNat.ofNat (5 : Nat), k := AK.n IntKind.u8, l := L, cap := cap, ro := false }], junks := (0 : Nat) })) := by kernel_rfl
theorem bits3_vc (K : AV → St → Prop) (L : List Int) (m c cap : Nat) (N n u v x : Int) : (runI invB5 tB4 45 [ptr 0 0, xi .i64 n, sl ⟨1, 0, 3, none, 3⟩] ⟨[outB (aslC ⟨0, 0, m, c⟩) N, some ⟨22, [xintC .u64 u, xintC .u64 v, xintC .u64 x], none, 3, false⟩], [], 0, [some (bs L cap false)], 0⟩ K) = (((1 : Int) ≤ n → (n ≤ (64 : Int) → ∀ (z0 : Int), z0 = IntKind.wrap IntKind.i64 ((524288 : Int) - N) → ¬n = (0 : Int) ∧ ∀ (z1 : Int), z1 = IntKind.wrap IntKind.i64 (Int.tdiv z0 n) → (z1 < (3 : Int) → K (Sum.inl (Sum.inl (Sum.inr (Sum.inr (Sum.inr (Sum.inr (Sum.inr (Sum.inr (Sum.inl (IntKind.i64, (4 : Int))))))))))) { heap := [some { elem := (108 : Nat), cells := [Sum.inr (Sum.inr (Sum.inr (Sum.inr (Sum.inr (Sum.inr (Sum.inr (Sum.inl { a := (0 : Nat), o := (0 : Nat), n := m, c := c }))))))), Sum.inr (Sum.inr (Sum.inr (Sum.inr (Sum.inr (Sum.inr (Sum.inl (IntKind.i64, N)))))))], j := none, c := (2 : Nat), z := false }, some { elem := (22 : Nat), cells := [Sum.inr (Sum.inr (Sum.inr (Sum.inr (Sum.inr (Sum.inr (Sum.inl (IntKind.u64, u))))))), Sum.inr (Sum.inr (Sum.inr (Sum.inr (Sum.inr (Sum.inr (Sum.inl (IntKind.u64, v))))))), Sum.inr (Sum.inr (Sum.inr (Sum.inr (Sum.inr (Sum.inr (Sum.inl (IntKind.u64, x)))))))], j := none, c := (3 : Nat), z := false }], ints := [], opqs := (0 : Nat), arrs := [some { elem := OfNat.ofNat (5 : Nat), k := AK.n IntKind.u8, l := L, cap := cap, ro := false }], junks := (0 : Nat) }) ∧ (¬z1 < (3 : Int) → ∃ (y2 : List Bool), (U.Out L N y2 ∧ m = List.length L ∧ c ≤ cap ∧ m ≤ c ∧ ((1 : Int) ≤ n ∧ n ≤ (64 : Int)) ∧ N + n ≤ (524288 : Int) ∧ (0 : Int) ≤ u ∧ u ≤ (18446744073709551615 : Int)) ∧ ∀ (L'3 : List Int) (m'4 c'5 cap'6 : Nat) (N'7 : Int), U.Out L'3 N'7 (U.app y2 n u) → N'7 = N + n → m'4 = List.length L'3 → c'5 ≤ cap'6 → m'4 ≤ c'5 → ∃ (y8 : List Bool), (U.Out L'3 N'7 y8 ∧ m'4 = List.length L'3 ∧ c'5 ≤ cap'6 ∧ m'4 ≤ c'5 ∧ ((1 : Int) ≤ n ∧ n ≤ (64 : Int)) ∧ N'7 + n ≤ (524288 : Int) ∧ (0 : Int) ≤ v ∧ v ≤ (18446744073709551615 : Int)) ∧ ∀ (L'9 : List Int) (m'10 c'11 cap'12 : Nat) (N'13 : Int), U.Out L'9 N'13 (U.app y8 n v) → N'13 = N'7 + n → m'10 = List.length L'9 → c'11 ≤ cap'12 → m'10 ≤ c'11 → ∃ (y14 : List Bool), (U.Out L'9 N'13 y14 ∧ m'10 = List.length L'9 ∧ c'11 ≤ cap'12 ∧ m'10 ≤ c'11 ∧ ((1 : Int) ≤ n ∧ n ≤ (64 : Int)) ∧ N'13 + n ≤ (524288 : Int) ∧ (0 : Int) ≤ x ∧ x ≤ (18446744073709551615 : Int)) ∧ ∀ (L'15 : List Int) (m'16 c'17 cap'18 : Nat) (N'19 : Int), U.Out L'15 N'19 (U.app y14 n x) → N'19 = N'13 + n → m'16 = List.length L'15 → c'17 ≤ cap'18 → m'16 ≤ c'17 → K (Sum.inl (Sum.inl (Sum.inr (Sum.inr (Sum.inr (Sum.inr (Sum.inr (Sum.inr (Sum.inl (IntKind.i64, (0 : Int))))))))))) { heap := [some { elem := (108 : Nat), cells := [Sum.inr (Sum.inr (Sum.inr (Sum.inr (Sum.inr (Sum.inr (Sum.inr (Sum.inl { a := (1 : Nat), o := (0 : Nat), n := m'16, c := c'17 }))))))), Sum.inr (Sum.inr (Sum.inr (Sum.inr (Sum.inr (Sum.inr (Sum.inl (IntKind.i64, N'19)))))))], j := none, c := (2 : Nat), z := false }, some { elem := (22 : Nat), cells := [Sum.inr (Sum.inr (Sum.inr (Sum.inr (Sum.inr (Sum.inr (Sum.inl (IntKind.u64, u))))))), Sum.inr (Sum.inr (Sum.inr (Sum.inr (Sum.inr (Sum.inr (Sum.inl (IntKind.u64, v))))))), Sum.inr (Sum.inr (Sum.inr (Sum.inr (Sum.inr (Sum.inr (Sum.inl (IntKind.u64, x)))))))], j := none, c := (3 : Nat), z := false }], ints := [], opqs := (0 : Nat), arrs := [none, some { elem := OfNat.ofNat (5 : Nat), k := AK.n IntKind.u8, l := L'15, cap := cap'18, ro := false }], junks := (0 : Nat) })) ∧ (¬n ≤ (64 : Int) → K (Sum.inl (Sum.inl (Sum.inr (Sum.inr (Sum.inr (Sum.inr (Sum.inr (Sum.inr (Sum.inl (IntKind.i64, (1 : Int))))))))))) { heap := [some { elem := (108 : Nat), cells := [Sum.inr (Sum.inr (Sum.inr (Sum.inr (Sum.inr (Sum.inr (Sum.inr (Sum.inl { a := (0 : Nat), o := (0 : Nat), n := m, c := c }))))))), Sum.inr (Sum.inr (Sum.inr (Sum.inr (Sum.inr (Sum.inr (Sum.inl (IntKind.i64, N)))))))], j := none, c := (2 : Nat), z := false }, some { elem := (22 : Nat), cells := [Sum.inr (Sum.inr (Sum.inr (Sum.inr (Sum.inr (Sum.inr (Sum.inl (IntKind.u64, u))))))), Sum.inr (Sum.inr (Sum.inr (Sum.inr (Sum.inr (Sum.inr (Sum.inl (IntKind.u64, v))))))), Sum.inr (Sum.inr (Sum.inr (Sum.inr (Sum.inr (Sum.inr (Sum.inl (IntKind.u64, x)))))))], j := none, c := (3 : Nat), z := false }], ints := [], opqs := (0 : Nat), arrs := [some { elem := OfNat.ofNat (5 : Nat), k := AK.n IntKind.u8, l := L, cap := cap, ro := false }], junks := (0 : Nat) })) ∧ (¬(1 : Int) ≤ n → K (Sum.inl (Sum.inl (Sum.inr (Sum.inr (Sum.inr (Sum.inr (Sum.inr (Sum.inr (Sum.inl (IntKind.i64, (1 : Int))))))))))) { heap := [some { elem := (108 : Nat), cells := [Sum.inr (Sum.inr (Sum.inr (Sum.inr (Sum.inr (Sum.inr (Sum.inr (Sum.inl { a := (0 : Nat), o := (0 : Nat), n := m, c := c }))))))), Sum.inr (Sum.inr (Sum.inr (Sum.inr (Sum.inr (Sum.inr (Sum.inl (IntKind.i64, N)))))))], j := none, c := (2 : Nat), z := false }, some { elem := (22 : Nat), cells := [Sum.inr (Sum.inr (Sum.inr (Sum.inr (Sum.inr (Sum.inr (Sum.inl (IntKind.u64, u))))))), Sum.inr (Sum.inr (Sum.inr (Sum.inr (Sum.inr (Sum.inr (Sum.inl (IntKind.u64, v))))))), Sum.inr (Sum.inr (Sum.inr (Sum.inr (Sum.inr (Sum.inr (Sum.inl (IntKind.u64, x)))))))], j := none, c := (3 : Nat), z := false }], ints := [], opqs := (0 : Nat), arrs := [some { elem := OfNat.ofNat (5 : Nat), k := AK.n IntKind.u8, l := L, cap := cap, ro := false }], junks := (0 : Nat) })) := by kernel_rfl
theorem bits4_vc (K : AV → St → Prop) (L : List Int) (m c cap : Nat) (N n u v x y : Int) : (runI invB5 tB4 45 [ptr 0 0, xi .i64 n, sl ⟨1, 0, 4, none, 4⟩] ⟨[outB (aslC ⟨0, 0, m, c⟩) N, some ⟨22, [xintC .u64 u, xintC .u64 v, xintC .u64 x, xintC .u64 y], none, 4, false⟩], [], 0, [some (bs L cap false)], 0⟩ K) = (((1 : Int) ≤ n → (n ≤ (64 : Int) → ∀ (z0 : Int), z0 = IntKind.wrap IntKind.i64 ((524288 : Int) - N) → ¬n = (0 : Int) ∧ ∀ (z1 : Int), z1 = IntKind.wrap IntKind.i64 (Int.tdiv z0 n) → (z1 < (4 : Int) → K (Sum.inl (Sum.inl (Sum.inr (Sum.inr (Sum.inr (Sum.inr (Sum.inr (Sum.inr (Sum.inl (IntKind.i64, (4 : Int))))))))))) { heap := [some { elem := (108 : Nat), cells := [Sum.inr (Sum.inr (Sum.inr (Sum.inr (Sum.inr (Sum.inr (Sum.inr (Sum.inl { a := (0 : Nat), o := (0 : Nat), n := m, c := c }))))))), Sum.inr (Sum.inr (Sum.inr (Sum.inr (Sum.inr (Sum.inr (Sum.inl (IntKind.i64, N)))))))], j := none, c := (2 : Nat), z := false }, some { elem := (22 : Nat), cells := [Sum.inr (Sum.inr (Sum.inr (Sum.inr (Sum.inr (Sum.inr (Sum.inl (IntKind.u64, u))))))), Sum.inr (Sum.inr (Sum.inr (Sum.inr (Sum.inr (Sum.inr (Sum.inl (IntKind.u64, v))))))), Sum.inr (Sum.inr (Sum.inr (Sum.inr (Sum.inr (Sum.inr (Sum.inl (IntKind.u64, x))))))), Sum.inr (Sum.inr (Sum.inr (Sum.inr (Sum.inr (Sum.inr (Sum.inl (IntKind.u64, y)))))))], j := none, c := (4 : Nat), z := false }], ints := [], opqs := (0 : Nat), arrs := [some { elem := OfNat.ofNat (5 : Nat), k := AK.n IntKind.u8, l := L, cap := cap, ro := false }], junks := (0 : Nat) }) ∧ (¬z1 < (4 : Int) → ∃ (y2 : List Bool), (U.Out L N y2 ∧ m = List.length L ∧ c ≤ cap ∧ m ≤ c ∧ ((1 : Int) ≤ n ∧ n ≤ (64 : Int)) ∧ N + n ≤ (524288 : Int) ∧ (0 : Int) ≤ u ∧ u ≤ (18446744073709551615 : Int)) ∧ ∀ (L'3 : List Int) (m'4 c'5 cap'6 : Nat) (N'7 : Int), U.Out L'3 N'7 (U.app y2 n u) → N'7 = N + n → m'4 = List.length L'3 → c'5 ≤ cap'6 → m'4 ≤ c'5 → ∃ (y8 : List Bool), (U.Out L'3 N'7 y8 ∧ m'4 = List.length L'3 ∧ c'5 ≤ cap'6 ∧ m'4 ≤ c'5 ∧ ((1 : Int) ≤ n ∧ n ≤ (64 : Int)) ∧ N'7 + n ≤ (524288 : Int) ∧ (0 : Int) ≤ v ∧ v ≤ (18446744073709551615 : Int)) ∧ ∀ (L'9 : List Int) (m'10 c'11 cap'12 : Nat) (N'13 : Int), U.Out L'9 N'13 (U.app y8 n v) → N'13 = N'7 + n → m'10 = List.length L'9 → c'11 ≤ cap'12 → m'10 ≤ c'11 → ∃ (y14 : List Bool), (U.Out L'9 N'13 y14 ∧ m'10 = List.length L'9 ∧ c'11 ≤ cap'12 ∧ m'10 ≤ c'11 ∧ ((1 : Int) ≤ n ∧ n ≤ (64 : Int)) ∧ N'13 + n ≤ (524288 : Int) ∧ (0 : Int) ≤ x ∧ x ≤ (18446744073709551615 : Int)) ∧ ∀ (L'15 : List Int) (m'16 c'17 cap'18 : Nat) (N'19 : Int), U.Out L'15 N'19 (U.app y14 n x) → N'19 = N'13 + n → m'16 = List.length L'15 → c'17 ≤ cap'18 → m'16 ≤ c'17 → ∃ (y20 : List Bool), (U.Out L'15 N'19 y20 ∧ m'16 = List.length L'15 ∧ c'17 ≤ cap'18 ∧ m'16 ≤ c'17 ∧ ((1 : Int) ≤ n ∧ n ≤ (64 : Int)) ∧ N'19 + n ≤ (524288 : Int) ∧ (0 : Int) ≤ y ∧ y ≤ (18446744073709551615 : Int)) ∧ ∀ (L'21 : List Int) (m'22 c'23 cap'24 : Nat) (N'25 : Int), U.Out L'21 N'25 (U.app y20 n y) → N'25 = N'19 + n → m'22 = List.length L'21 → c'23 ≤ cap'24 → m'22 ≤ c'23 → K (Sum.inl (Sum.inl (Sum.inr (Sum.inr (Sum.inr (Sum.inr (Sum.inr (Sum.inr (Sum.inl (IntKind.i64, (0 : Int))))))))))) { heap := [some { elem := (108 : Nat), cells := [Sum.inr (Sum.inr (Sum.inr (Sum.inr (Sum.inr (Sum.inr (Sum.inr (Sum.inl { a := (1 : Nat), o := (0 : Nat), n := m'22, c := c'23 }))))))), Sum.inr (Sum.inr (Sum.inr (Sum.inr (Sum.inr (Sum.inr (Sum.inl (IntKind.i64, N'25)))))))], j := none, c := (2 : Nat), z := false }, some { elem := (22 : Nat), cells := [Sum.inr (Sum.inr (Sum.inr (Sum.inr (Sum.inr (Sum.inr (Sum.inl (IntKind.u64, u))))))), Sum.inr (Sum.inr (Sum.inr (Sum.inr (Sum.inr (Sum.inr (Sum.inl (IntKind.u64, v))))))), Sum.inr (Sum.inr (Sum.inr (Sum.inr (Sum.inr (Sum.inr (Sum.inl (IntKind.u64, x))))))), Sum.inr (Sum.inr (Sum.inr (Sum.inr (Sum.inr (Sum.inr (Sum.inl (IntKind.u64, y)))))))], j := none, c := (4 : Nat), z := false }], ints := [], opqs := (0 : Nat), arrs := [none, some { elem := OfNat.ofNat (5 : Nat), k := AK.n IntKind.u8, l := L'21, cap := cap'24, ro := false }], junks := (0 : Nat) })) ∧ (¬n ≤ (64 : Int) → K (Sum.inl (Sum.inl (Sum.inr (Sum.inr (Sum.inr (Sum.inr (Sum.inr (Sum.inr (Sum.inl (IntKind.i64, (1 : Int))))))))))) { heap := [some { elem := (108 : Nat), cells := [Sum.inr (Sum.inr (Sum.inr (Sum.inr (Sum.inr (Sum.inr (Sum.inr (Sum.inl { a := (0 : Nat), o := (0 : Nat), n := m, c := c }))))))), Sum.inr (Sum.inr (Sum.inr (Sum.inr (Sum.inr (Sum.inr (Sum.inl (IntKind.i64, N)))))))], j := none, c := (2 : Nat), z := false }, some { elem := (22 : Nat), cells := [Sum.inr (Sum.inr (Sum.inr (Sum.inr (Sum.inr (Sum.inr (Sum.inl (IntKind.u64, u))))))), Sum.inr (Sum.inr (Sum.inr (Sum.inr (Sum.inr (Sum.inr (Sum.inl (IntKind.u64, v))))))), Sum.inr (Sum.inr (Sum.inr (Sum.inr (Sum.inr (Sum.inr (Sum.inl (IntKind.u64, x))))))), Sum.inr (Sum.inr (Sum.inr (Sum.inr (Sum.inr (Sum.inr (Sum.inl (IntKind.u64, y)))))))], j := none, c := (4 : Nat), z := false }], ints := [], opqs := (0 : Nat), arrs := [some { elem := OfNat.ofNat (5 : Nat), k := AK.n IntKind.u8, l := L, cap := cap, ro := false }], junks := (0 : Nat) })) ∧ (¬(1 : Int) ≤ n → K (Sum.inl (Sum.inl (Sum.inr (Sum.inr (Sum.inr (Sum.inr (Sum.inr (Sum.inr (Sum.inl (IntKind.i64, (1 : Int))))))))))) { heap := [some { elem := (108 : Nat), cells := [Sum.inr (Sum.inr (Sum.inr (Sum.inr (Sum.inr (Sum.inr (Sum.inr (Sum.inl { a := (0 : Nat), o := (0 : Nat), n := m, c := c }))))))), Sum.inr (Sum.inr (Sum.inr (Sum.inr (Sum.inr (Sum.inr (Sum.inl (IntKind.i64, N)))))))], j := none, c := (2 : Nat), z := false }, some { elem := (22 : Nat), cells := [Sum.inr (Sum.inr (Sum.inr (Sum.inr (Sum.inr (Sum.inr (Sum.inl (IntKind.u64, u))))))), Sum.inr (Sum.inr (Sum.inr (Sum.inr (Sum.inr (Sum.inr (Sum.inl (IntKind.u64, v))))))), Sum.inr (Sum.inr (Sum.inr (Sum.inr (Sum.inr (Sum.inr (Sum.inl (IntKind.u64, x))))))), Sum.inr (Sum.inr (Sum.inr (Sum.inr (Sum.inr (Sum.inr (Sum.inl (IntKind.u64, y)))))))], j := none, c := (4 : Nat), z := false }], ints := [], opqs := (0 : Nat), arrs := [some { elem := OfNat.ofNat (5 : Nat), k := AK.n IntKind.u8, l := L, cap := cap, ro := false }], junks := (0 : Nat) })) := by kernel_rfl
theorem outBytes_vc (K : AV → St → Prop) (L B : List Int) (m c cap o bm bc bcap : Nat) (ro : Bool) (N : Int) : (runI invB5 tB4 49 [ptr 0 0, sl ⟨1, 0, 1, none, 1⟩] ⟨[outB (aslC ⟨0, 0, m, c⟩) N, some ⟨24, [aslC ⟨1, o, bm, bc⟩], none, 1, false⟩], [], 0, [some (bs L cap false), some (bs B bcap ro)], 0⟩ K) = (∀ (z0 : Int), z0 = IntKind.wrap IntKind.i64 ((524288 : Int) - N) → ¬(8 : Int) = (0 : Int) ∧ ∀ (z1 : Int), z1 = IntKind.wrap IntKind.i64 (Int.tdiv z0 (8 : Int)) → ∀ (z2 : Int), z2 = (↑bm : Int) → (z1 < z2 → K (Sum.inl (Sum.inl (Sum.inr (Sum.inr (Sum.inr (Sum.inr (Sum.inr (Sum.inr (Sum.inl (IntKind.i64, (4 : Int))))))))))) { heap := [some { elem := (108 : Nat), cells := [Sum.inr (Sum.inr (Sum.inr (Sum.inr (Sum.inr (Sum.inr (Sum.inr (Sum.inl { a := (0 : Nat), o := (0 : Nat), n := m, c := c }))))))), Sum.inr (Sum.inr (Sum.inr (Sum.inr (Sum.inr (Sum.inr (Sum.inl (IntKind.i64, N)))))))], j := none, c := (2 : Nat), z := false }, some { elem := (24 : Nat), cells := [Sum.inr (Sum.inr (Sum.inr (Sum.inr (Sum.inr (Sum.inr (Sum.inr (Sum.inl { a := (1 : Nat), o := o, n := bm, c := bc })))))))], j := none, c := (1 : Nat), z := false }], ints := [], opqs := (0 : Nat), arrs := [some { elem := OfNat.ofNat (5 : Nat), k := AK.n IntKind.u8, l := L, cap := cap, ro := false }, some { elem := OfNat.ofNat (5 : Nat), k := AK.n IntKind.u8, l := B, cap := bcap, ro := ro }], junks := (0 : Nat) }) ∧ (¬z1 < z2 → ∀ (z3 : Int), z3 = (↑bm : Int) → ∀ (z4 : Int), z4 = IntKind.wrap IntKind.i64 (z1 - z3) → ∀ (z5 : Int), z5 = (↑bm : Int) → (∃ (y6 : Int × List Int × Nat × Nat × Int), z4 = z4 ∧ (o = o ∧ bm = bm ∧ bc = bc) ∧ (o = o ∧ bm = bm ∧ bc = bc) ∧ z0 = z0 ∧ z1 = z1 ∧ (o = o ∧ bm = bm ∧ bc = bc) ∧ (o = o ∧ bm = bm ∧ bc = bc) ∧ z2 = z2 ∧ z1 = z1 ∧ z1 = z1 ∧ (o = o ∧ bm = bm ∧ bc = bc) ∧ z3 = z3 ∧ z4 = z4 ∧ (o = o ∧ bm = bm ∧ bc = bc) ∧ (o = o ∧ bm = bm ∧ bc = bc) ∧ z5 = z5 ∧ (0 : Int) = Prod.fst y6 ∧ (OfNat.ofNat (0 : Nat) = OfNat.ofNat (0 : Nat) ∧ m = List.length (Prod.fst (Prod.snd y6)) ∧ c = Prod.fst (Prod.snd (Prod.snd y6))) ∧ N = Prod.snd (Prod.snd (Prod.snd (Prod.snd y6))) ∧ (o = o ∧ bm = bm ∧ bc = bc) ∧ (B = B ∧ bcap = bcap ∧ ro = ro) ∧ (L = Prod.fst (Prod.snd y6) ∧ cap = Prod.fst (Prod.snd (Prod.snd (Prod.snd y6))) ∧ false = false) ∧ U.bytI L N B o bm (Prod.fst y6) (Prod.fst (Prod.snd y6)) (Prod.fst (Prod.snd (Prod.snd y6))) (Prod.fst (Prod.snd (Prod.snd (Prod.snd y6)))) (Prod.snd (Prod.snd (Prod.snd (Prod.snd y6))))) ∧ ∀ (x7 : Int × List Int × Nat × Nat × Int), U.bytI L N B o bm (Prod.fst x7) (Prod.fst (Prod.snd x7)) (Prod.fst (Prod.snd (Prod.snd x7))) (Prod.fst (Prod.snd (Prod.snd (Prod.snd x7)))) (Prod.snd (Prod.snd (Prod.snd (Prod.snd x7)))) → (Prod.fst x7 < z5 → ((0 : Int) ≤ Prod.fst x7 ∧ Prod.fst x7 < (↑bm : Int)) ∧ ∀ (j8 : Nat), (↑j8 : Int) = (↑o : Int) + Prod.fst x7 → j8 < List.length B ∧ ∀ (z9 : Int), z9 = List.getD B j8 (0 : Int) → ∀ (z10 : Int), z10 = IntKind.wrap IntKind.u64 z9 → ∃ (y11 : List Bool), (U.Out (Prod.fst (Prod.snd x7)) (Prod.snd (Prod.snd (Prod.snd (Prod.snd x7)))) y11 ∧ List.length (Prod.fst (Prod.snd x7)) = List.length (Prod.fst (Prod.snd x7)) ∧ Prod.fst (Prod.snd (Prod.snd x7)) ≤ Prod.fst (Prod.snd (Prod.snd (Prod.snd x7))) ∧ List.length (Prod.fst (Prod.snd x7)) ≤ Prod.fst (Prod.snd (Prod.snd x7)) ∧ ((1 : Int) ≤ (8 : Int) ∧ (8 : Int) ≤ (64 : Int)) ∧ Prod.snd (Prod.snd (Prod.snd (Prod.snd x7))) + (8 : Int) ≤ (524288 : Int) ∧ (0 : Int) ≤ z10 ∧ z10 ≤ (18446744073709551615 : Int)) ∧ ∀ (L'12 : List Int) (m'13 c'14 cap'15 : Nat) (N'16 : Int), U.Out L'12 N'16 (U.app y11 (8 : Int) z10) → N'16 = Prod.snd (Prod.snd (Prod.snd (Prod.snd x7))) + (8 : Int) → m'13 = List.length L'12 → c'14 ≤ cap'15 → m'13 ≤ c'14 → ∀ (z17 : Int), z17 = IntKind.wrap IntKind.i64 (Prod.fst x7 + (1 : Int)) → ∃ (y18 : Int × List Int × Nat × Nat × Int), z4 = z4 ∧ (o = o ∧ bm = bm ∧ bc = bc) ∧ (o = o ∧ bm = bm ∧ bc = bc) ∧ z0 = z0 ∧ z1 = z1 ∧ (o = o ∧ bm = bm ∧ bc = bc) ∧ (o = o ∧ bm = bm ∧ bc = bc) ∧ z2 = z2 ∧ z1 = z1 ∧ z1 = z1 ∧ (o = o ∧ bm = bm ∧ bc = bc) ∧ z3 = z3 ∧ z4 = z4 ∧ (o = o ∧ bm = bm ∧ bc = bc) ∧ (o = o ∧ bm = bm ∧ bc = bc) ∧ z5 = z5 ∧ z17 = Prod.fst y18 ∧ (OfNat.ofNat (0 : Nat) = OfNat.ofNat (0 : Nat) ∧ m'13 = List.length (Prod.fst (Prod.snd y18)) ∧ c'14 = Prod.fst (Prod.snd (Prod.snd y18))) ∧ N'16 = Prod.snd (Prod.snd (Prod.snd (Prod.snd y18))) ∧ (o = o ∧ bm = bm ∧ bc = bc) ∧ (B = B ∧ bcap = bcap ∧ ro = ro) ∧ (L'12 = Prod.fst (Prod.snd y18) ∧ cap'15 = Prod.fst (Prod.snd (Prod.snd (Prod.snd y18))) ∧ false = false) ∧ U.bytI L N B o bm (Prod.fst y18) (Prod.fst (Prod.snd y18)) (Prod.fst (Prod.snd (Prod.snd y18))) (Prod.fst (Prod.snd (Prod.snd (Prod.snd y18)))) (Prod.snd (Prod.snd (Prod.snd (Prod.snd y18)))) ∧ Int.toNat ((↑bm : Int) - Prod.fst y18) < Int.toNat ((↑bm : Int) - Prod.fst x7)) ∧ (¬Prod.fst x7 < z5 → K (Sum.inl (Sum.inl (Sum.inr (Sum.inr (Sum.inr (Sum.inr (Sum.inr (Sum.inr (Sum.inl (IntKind.i64, (0 : Int))))))))))) { heap := [some { elem := (108 : Nat), cells := [Sum.inr (Sum.inr (Sum.inr (Sum.inr (Sum.inr (Sum.inr (Sum.inr (Sum.inl { a := (2 : Nat), o := (0 : Nat), n := List.length (Prod.fst (Prod.snd x7)), c := Prod.fst (Prod.snd (Prod.snd x7)) }))))))), Sum.inr (Sum.inr (Sum.inr (Sum.inr (Sum.inr (Sum.inr (Sum.inl (IntKind.i64, Prod.snd (Prod.snd (Prod.snd (Prod.snd x7))))))))))], j := none, c := (2 : Nat), z := false }, some { elem := (24 : Nat), cells := [Sum.inr (Sum.inr (Sum.inr (Sum.inr (Sum.inr (Sum.inr (Sum.inr (Sum.inl { a := (1 : Nat), o := o, n := bm, c := bc })))))))], j := none, c := (1 : Nat), z := false }], ints := [], opqs := (0 : Nat), arrs := [none, some { elem := OfNat.ofNat (5 : Nat), k := AK.n IntKind.u8, l := B, cap := bcap, ro := ro }, some { elem := OfNat.ofNat (5 : Nat), k := AK.n IntKind.u8, l := Prod.fst (Prod.snd x7), cap := Prod.fst (Prod.snd (Prod.snd (Prod.snd x7))), ro := false }], junks := (0 : Nat) }))) := by kernel_rfl
end Go.Proofs.Ytnnloikmjofkfaa
end

section
set_option linter.unusedVariables false
set_option linter.unusedSimpArgs false
namespace Go.Proofs.Ytnnloikmjofkfaa
open Go Reck

theorem calls_open {P : Program} {f : FuncId} {vs : Array Value} {w0 w : World} {e : Env} {K : AV → St → Prop}
    (h : Calls P f vs w fun en w' => ∃ x σ' e' v, en = .returned v ∧ e.le e' ∧ Reck.av e' x = some v ∧ Ok w0 e' σ' w' ∧ K (openV x) (openSt σ')) :
    Calls P f vs w fun en w' => ∃ x σ' e' v, en = .returned v ∧ e.le e' ∧ Reck.av e' x = some v ∧ Ok w0 e' σ' w' ∧ K x σ' := by
  refine h.mono ?_
  rintro en w' ⟨x, σ', e', v, h1, h2, h3, h4, h5⟩
  exact ⟨_, _, e', v, h1, h2, by rw [openV_av]; exact h3, openSt_ok h4, h5⟩
def opn (K : AV → St → Prop) : AV → St → Prop := fun x σ => K (openV x) (openSt σ)

def U.inV (L : List Int) (a e n : Int) : Int := if e = 0 ∧ a + n ≤ 8 * L.length then U.loa L a n else 0
def U.inA (L : List Int) (a e n : Int) : Int := if e = 0 ∧ a + n ≤ 8 * L.length then a + n else a
def U.inE (L : List Int) (a e n : Int) : Int := if e = 0 then (if a + n ≤ 8 * L.length then 0 else 7) else e

theorem inBits_run (K : AV → St → Prop) (L : List Int) (m c cap : Nat) (a e n : Int) (hb : U.By L) (hm : m = L.length) (hl : L.length ≤ 16777216) (ha : 0 ≤ a ∧ a ≤ 8 * L.length) (hn : 1 ≤ n ∧ n ≤ 64)
    (h : K (xi .u64 (U.inV L a e n)) (inSt L m c cap (U.inA L a e n) (U.inE L a e n))) : runI invB5 tB4 54 [ptr 0 0, xi .i64 n] (inSt L m c cap a e) (opn K) := by
  rw [inBits_vc]
  unfold U.inV U.inA U.inE at h
  by_cases he : e = 0
  · subst he
    refine ⟨fun h1 => ⟨fun h2 => ⟨fun h3 => absurd rfl h3, fun _ => ⟨fun h3 => absurd rfl h3, fun _ z2 hz2 z3 hz3 z4 hz4 => ⟨by decide, fun z5 hz5 => ⟨fun h6 => ?_, fun h6 => ⟨fun _ => ?_, fun h7 => absurd rfl h7⟩⟩⟩⟩⟩, fun h2 => by omega⟩, fun h1 => by omega⟩
    all_goals
      have e3 := w64 hz3 (by omega)
      have e4 := w64 hz4 (by omega)
      have e5 := w64 hz5 (by rw [Int.tdiv_one]; omega)
      rw [Int.tdiv_one] at e5
    · have hf : ¬ (a + n ≤ 8 * (L.length : Int)) := by omega
      simp only [hf, and_false, if_false, if_true] at h
      exact h
    · have hf : a + n ≤ 8 * (L.length : Int) := by omega
      simp only [hf, and_self, if_true] at h
      refine ⟨⟨hb, hm, by omega, ha.1, by omega, hn.2, hf⟩, fun z6 hz6 => ⟨rfl, ⟨rfl, rfl, rfl⟩, fun z7 hz7 => ?_⟩⟩
      have e7 := w64 hz7 (by omega)
      subst hz6; subst e7
      exact h
  · simp only [he, false_and, if_false] at h
    refine ⟨fun h1 => ⟨fun h2 => ⟨fun _ => h, fun h3 => absurd he h3⟩, fun h2 => by omega⟩, fun h1 => by omega⟩
theorem inSkip_run (K : AV → St → Prop) (L : List Int) (m c cap : Nat) (a e n : Int) (hm : m = L.length) (hl : L.length ≤ 16777216) (ha : 0 ≤ a ∧ a ≤ 8 * L.length) (hn : 0 ≤ n ∧ n ≤ 9223372036854775807)
    (h : K (.inr []) (inSt L m c cap (U.inA L a e n) (U.inE L a e n))) : runI invB5 tB4 71 [ptr 0 0, xi .i64 n] (inSt L m c cap a e) (opn K) := by
  rw [inSkip_vc]
  unfold U.inA U.inE at h
  by_cases he : e = 0
  · subst he
    refine ⟨fun h1 => ⟨fun h3 => absurd rfl h3, fun _ => ⟨fun h3 => absurd rfl h3, fun _ z2 hz2 z3 hz3 z4 hz4 => ⟨by decide, fun z5 hz5 => ⟨fun h6 => ?_, fun h6 => ⟨fun _ => ?_, fun h7 => absurd rfl h7⟩⟩⟩⟩⟩, fun h1 => by omega⟩
    all_goals
      have e3 := w64 hz3 (by omega)
      have e4 := w64 hz4 (by omega)
      have e5 := w64 hz5 (by rw [Int.tdiv_one]; omega)
      rw [Int.tdiv_one] at e5
    · have hf : ¬ (a + n ≤ 8 * (L.length : Int)) := by omega
      simp only [hf, and_false, if_false, if_true] at h
      exact h
    · have hf : a + n ≤ 8 * (L.length : Int) := by omega
      simp only [hf, and_self, if_true] at h
      intro z7 hz7
      have e7 := w64 hz7 (by omega)
      subst e7
      exact h
  · simp only [he, false_and, if_false] at h
    refine ⟨fun h1 => ⟨fun _ => h, fun h3 => absurd he h3⟩, fun h1 => by omega⟩
end Go.Proofs.Ytnnloikmjofkfaa
end

section
set_option linter.unusedVariables false
set_option linter.unusedSimpArgs false
namespace Go.Proofs.Ytnnloikmjofkfaa
open Go Reck

def U.inB (L : List Int) (a e n : Int) : List Int := if e = 0 ∧ a + 8 * n ≤ 8 * L.length then (L.drop (a.toNat / 8)).take n.toNat else []
theorem inBytes_run (K : AV → St → Prop) (L : List Int) (m c cap : Nat) (a e n : Int) (hm : m = L.length) (hmc : m ≤ c) (hl : L.length ≤ 16777216) (ha : 0 ≤ a ∧ a ≤ 8 * L.length) (ha8 : e = 0 → a % 8 = 0) (hn : 0 ≤ n ∧ n ≤ 1152921504606846975)
    (h : ∀ (B : List Int) (k c' cap' : Nat), B = U.inB L a e n → k = B.length → k ≤ c' → c' ≤ cap' → K (cell (aslC ⟨1, 0, k, c'⟩)) ⟨[inB (aslC ⟨0, 0, m, c⟩) (U.inA L a e (8 * n)) (U.inE L a e (8 * n))], [], 0, [some (bs L cap false), some (bs B cap' false)], 0⟩) :
    runI invB5 tB4 73 [ptr 0 0, xi .i64 n] (inSt L m c cap a e) (opn fun x σ => (x = cell nilC ∧ K (cell (aslC ⟨σ.arrs.length, 0, 0, 0⟩)) (addArr σ ⟨5, .n .u8, [], 0, false⟩)) ∨ K x σ) := by
  rw [inBytes_vc]
  unfold U.inA U.inE U.inB at h
  by_cases he : e = 0
  · subst he
    have ha8 := ha8 rfl
    obtain ⟨q, hq⟩ : ∃ q : Nat, a = 8 * q := ⟨(a / 8).toNat, by omega⟩
    have hqd : a.toNat / 8 = q := by omega
    refine ⟨fun h1 => ⟨fun h3 => absurd rfl h3, fun _ => ⟨fun h3 => absurd rfl h3, fun _ z2 hz2 z3 hz3 z4 hz4 => ⟨by decide, fun z5 hz5 => ⟨fun h6 => ?_, fun h6 => ⟨fun _ => ?_, fun h7 => absurd rfl h7⟩⟩⟩⟩⟩, fun h1 => by omega⟩
    all_goals
      have e3 := w64 hz3 (by omega)
      have e4 := w64 hz4 (by omega)
      have e5 := w64 hz5 (by rw [Int.tdiv_eq_ediv_of_nonneg (by omega)]; omega)
      rw [Int.tdiv_eq_ediv_of_nonneg (by omega)] at e5
    · have hf : ¬ (a + 8 * n ≤ 8 * (L.length : Int)) := by omega
      simp only [hf, and_false, if_false, if_true] at h
      exact .inl ⟨rfl, h [] 0 0 0 rfl rfl (Nat.le_refl _) (Nat.le_refl _)⟩
    · have hf : a + 8 * n ≤ 8 * (L.length : Int) := by omega
      simp only [hf, and_self, if_true] at h
      refine ⟨⟨hn.1, Int.le_refl _, by omega⟩, fun n0 m1 l2 hn0 hm1 hl2 => ⟨by decide, fun z6 hz6 => ⟨fun _ => ⟨by decide, fun z7 hz7 => ?_⟩, fun hne => ?_⟩⟩⟩
      · have e7 := w64 hz7 (by rw [Int.tdiv_eq_ediv_of_nonneg (by omega)]; omega)
        rw [Int.tdiv_eq_ediv_of_nonneg (by omega)] at e7
        have e7' : z7 = (q : Int) := by omega
        refine ⟨⟨by omega, by omega⟩, fun o5 n6 c7 ho5 hn6 hc7 => ?_⟩
        have ho : o5 = if c = q then 0 else q := by
          dsimp only at ho5
          rw [e7'] at ho5
          split at ho5
          · rw [if_pos (by omega)]
            have : (o5 : Int) = 0 := ho5
            omega
          · rw [if_neg (by omega)]
            have : (o5 : Int) = 0 + (q : Int) := ho5
            omega
        have hn6' : n6 = m - q := by omega
        refine ⟨⟨by rw [hl2, List.length_replicate]; show 0 + n0 ≤ m1; omega, by show o5 + n6 ≤ L.length; split at ho <;> omega⟩, fun n8 l9 hn8 hl9 => ⟨rfl, ⟨rfl, rfl, rfl⟩, fun z10 hz10 z11 hz11 => ?_⟩⟩
        have e10 := w64 hz10 (by omega)
        have e11 := w64 hz11 (by omega)
        have hn0' : n0 = n.toNat := by omega
        have hn8' : n8 = n.toNat := by omega
        have hB : l9 = (L.drop (a.toNat / 8)).take n.toNat := by
          rw [hl9, hqd, hl2, hn8']
          have d1 : (List.replicate m1 (0 : Int)).drop (OfNat.ofNat 0 + n.toNat) = [] := by
            rw [List.drop_eq_nil_of_le]
            rw [List.length_replicate]; show m1 ≤ 0 + n.toNat; omega
          rw [d1, List.append_nil]
          show [] ++ List.take n.toNat (List.take n6 (List.drop o5 L)) = _
          rw [List.nil_append, List.take_take, Nat.min_eq_left (by omega)]
          by_cases hcq : c = q
          · have : n.toNat = 0 := by omega
            simp [this]
          · rw [if_neg hcq] at ho; rw [ho]
        have hBl : l9.length = n0 := by rw [hB, List.length_take, List.length_drop]; omega
        subst e10; subst e11
        exact .inr (h l9 n0 m1 m1 hB hBl.symm (by omega) (Nat.le_refl _))
      · exact absurd (by rw [hz6, Int.tmod_eq_emod_of_nonneg (by omega)]; exact ha8) hne
  · simp only [he, false_and, if_false] at h
    refine ⟨fun h1 => ⟨fun _ => .inl ⟨rfl, h [] 0 0 0 rfl rfl (Nat.le_refl _) (Nat.le_refl _)⟩, fun h3 => absurd he h3⟩, fun h1 => by omega⟩

theorem done_run (K : AV → St → Prop) (L : List Int) (m c cap : Nat) (N : Int) (hm : m = L.length) (hl : m ≤ 16777216)
    (h : ∀ (L' : List Int) (c' cap' : Nat), L' = L → m ≤ c' → c' ≤ cap' → K (cell (aslC ⟨1, 0, m, c'⟩)) ⟨[outB (aslC ⟨0, 0, m, c⟩) N], [], 0, [some (bs L cap false), some (bs L' cap' false)], 0⟩) : runI invB5 tB4 51 [ptr 0 0] (outSt L m c cap N) K := by
  rw [done_vc]
  refine ⟨⟨by show 0 + m ≤ L.length; omega, hl⟩, fun L' c' cap' h1 h2 h3 => h L' c' cap' ?_ h2 h3⟩
  rw [h1, hm]
  show List.take L.length (List.drop 0 L) = L
  simp
theorem of_run (K : AV → St → Prop) (L : List Int) (o m c cap : Nat) (ro : Bool) (hm : o + m ≤ L.length) (hl : m ≤ 16777216)
    (h : ∀ (L' : List Int) (c' cap' : Nat), L' = (L.drop o).take m → m ≤ c' → c' ≤ cap' → K (ptr 0 0) ⟨[inB (aslC ⟨1, 0, m, c'⟩) 0 0], [], 0, [some (bs L cap ro), some (bs L' cap' false)], 0⟩) : runI invB5 tB4 52 [cell (aslC ⟨0, o, m, c⟩)] (ar [bs L cap ro]) (opn K) := by
  rw [of_vc]
  cases ro <;> exact ⟨⟨hm, hl⟩, fun L' c' cap' h1 h2 h3 => h L' c' cap' h1 h2 h3⟩
theorem outSet_run (K : AV → St → Prop) (L : List Int) (m c cap : Nat) (N a n v : Int) (hb : U.By L) (hm : m = L.length) (hl : L.length ≤ 65536) (hN : N ≤ 8 * L.length) (ha : 0 ≤ a ∧ a + n ≤ N) (hn : 1 ≤ n ∧ n ≤ 64) (hv : 0 ≤ v ∧ v ≤ 18446744073709551615)
    (h : ∀ L' : List Int, U.Sto L a n v L' → K (xi .i64 0) (outSt L' m c cap N)) : runI invB5 tB4 67 [ptr 0 0, xi .i64 a, xi .i64 n, xi .u64 v] (outSt L m c cap N) (opn K) := by
  rw [outSet_vc]
  refine ⟨fun _ => ⟨fun _ => ⟨fun h1 => by omega, fun _ z0 hz0 => ?_⟩, fun h1 => by omega⟩, fun h1 => by omega⟩
  have e0 := w64 hz0 (by omega)
  exact ⟨fun h1 => by omega, fun _ => ⟨⟨hb, hm, hl, ha.1, by omega, hn.2, by omega, hv.1, hv.2⟩, fun L' hL => h L' hL⟩⟩
end Go.Proofs.Ytnnloikmjofkfaa
end

section
set_option linter.unusedVariables false
set_option linter.unusedSimpArgs false
namespace Go.Proofs.Ytnnloikmjofkfaa
open Go Reck

def U.apps (l : List Bool) (n : Int) (vs : List Int) : List Bool := vs.foldl (fun l v => U.app l n v) l
def vB (vs : List Int) : Option Blk := some ⟨22, vs.map (xintC .u64), none, vs.length, false⟩
def bitsPre (L : List Int) (N : Int) (m c cap : Nat) (l : List Bool) (n : Int) (vs : List Int) : Prop := U.Out L N l ∧ m = L.length ∧ c ≤ cap ∧ m ≤ c ∧ (1 ≤ n ∧ n ≤ 64) ∧ N + vs.length * n ≤ 524288 ∧ ∀ v ∈ vs, 0 ≤ v ∧ v ≤ 18446744073709551615
def bitsPost (K : AV → St → Prop) (N : Int) (l : List Bool) (n : Int) (vs : List Int) : Prop := ∀ (L' : List Int) (m' c' cap' : Nat) (N' : Int), U.Out L' N' (U.apps l n vs) → N' = N + vs.length * n → m' = L'.length → c' ≤ cap' → m' ≤ c' → K (xi .i64 0) ⟨[outB (aslC ⟨1, 0, m', c'⟩) N', vB vs], [], 0, [none, some (bs L' cap' false)], 0⟩
def bitsSt (L : List Int) (m c cap : Nat) (N : Int) (vs : List Int) : St := ⟨[outB (aslC ⟨0, 0, m, c⟩) N, vB vs], [], 0, [some (bs L cap false)], 0⟩

theorem room_ok {N n z0 z1 : Int} {k : Nat} (hN : 0 ≤ N) (hn : 1 ≤ n ∧ n ≤ 64) (hr : N + k * n ≤ 524288) (h0 : z0 = IntKind.wrap .i64 (524288 - N)) (h1 : z1 = IntKind.wrap .i64 (Int.tdiv z0 n)) : ¬ z1 < k := by
  have hkn : 0 ≤ (k : Int) * n := Int.mul_nonneg (by omega) (by omega)
  have e0 := w64 h0 (by omega)
  have hd : Int.tdiv z0 n = z0 / n := Int.tdiv_eq_ediv_of_nonneg (by omega)
  have hd0 : 0 ≤ z0 / n := Int.ediv_nonneg (by omega) (by omega)
  have hd1 : z0 / n ≤ z0 := Int.ediv_le_self _ (by omega)
  have e1 := w64 h1 (by rw [hd]; omega)
  rw [hd] at e1
  have : (k : Int) ≤ z0 / n := (Int.le_ediv_iff_mul_le (by omega)).2 (by omega)
  omega
theorem out_nonneg {L : List Int} {N : Int} {l : List Bool} (h : U.Out L N l) : 0 ≤ N := by
  obtain ⟨cs, _, _, h, _⟩ := h; omega

theorem bits1_run (K : AV → St → Prop) (L : List Int) (l : List Bool) (m c cap : Nat) (N n u : Int) (h : bitsPre L N m c cap l n [u]) (hk : bitsPost K N l n [u]) :
    runI invB5 tB4 45 [ptr 0 0, xi .i64 n, sl ⟨1, 0, 1, none, 1⟩] (bitsSt L m c cap N [u]) (opn K) := by
  obtain ⟨h1, h2, h3, h4, h5, h6, h7⟩ := h
  unfold bitsSt
  show runI invB5 tB4 45 [ptr 0 0, xi .i64 n, sl ⟨1, 0, 1, none, 1⟩] ⟨[outB (aslC ⟨0, 0, m, c⟩) N, some ⟨22, [xintC .u64 u], none, 1, false⟩], [], 0, [some (bs L cap false)], 0⟩ _
  rw [bits1_vc]
  have hN := out_nonneg h1
  simp only [List.length_cons, List.length_nil, Nat.zero_add] at h6
  refine ⟨fun _ => ⟨fun _ z0 hz0 => ⟨by omega, fun z1 hz1 => ⟨fun hlt => absurd hlt (room_ok hN h5 h6 hz0 hz1), fun _ => ⟨l, ⟨h1, h2, h3, h4, h5, by simpa using h6, h7 u (by simp)⟩, fun La ma ca pa Na ka1 ka2 ka3 ka4 ka5 => ?_⟩⟩⟩, fun hh => by omega⟩, fun hh => by omega⟩
  exact hk La ma ca pa Na ka1 (by simp; omega) ka3 ka4 ka5
theorem bits2_run (K : AV → St → Prop) (L : List Int) (l : List Bool) (m c cap : Nat) (N n u v : Int) (h : bitsPre L N m c cap l n [u, v]) (hk : bitsPost K N l n [u, v]) :
    runI invB5 tB4 45 [ptr 0 0, xi .i64 n, sl ⟨1, 0, 2, none, 2⟩] (bitsSt L m c cap N [u, v]) (opn K) := by
  obtain ⟨h1, h2, h3, h4, h5, h6, h7⟩ := h
  unfold bitsSt
  show runI invB5 tB4 45 [ptr 0 0, xi .i64 n, sl ⟨1, 0, 2, none, 2⟩] ⟨[outB (aslC ⟨0, 0, m, c⟩) N, some ⟨22, [xintC .u64 u, xintC .u64 v], none, 2, false⟩], [], 0, [some (bs L cap false)], 0⟩ _
  rw [bits2_vc]
  have hN := out_nonneg h1
  simp only [List.length_cons, List.length_nil, Nat.zero_add] at h6
  refine ⟨fun _ => ⟨fun _ z0 hz0 => ⟨by omega, fun z1 hz1 => ⟨fun hlt => absurd hlt (room_ok hN h5 h6 hz0 hz1), fun _ => ⟨l, ⟨h1, h2, h3, h4, h5, by omega, h7 u (by simp)⟩, fun La ma ca pa Na ka1 ka2 ka3 ka4 ka5 =>
    ⟨_, ⟨ka1, ka3, ka4, ka5, h5, by omega, h7 v (by simp)⟩, fun Lb mb cb pb Nb kb1 kb2 kb3 kb4 kb5 => ?_⟩⟩⟩⟩, fun hh => by omega⟩, fun hh => by omega⟩
  exact hk Lb mb cb pb Nb kb1 (by simp only [List.length_cons, List.length_nil]; omega) kb3 kb4 kb5
theorem bits3_run (K : AV → St → Prop) (L : List Int) (l : List Bool) (m c cap : Nat) (N n u v x : Int) (h : bitsPre L N m c cap l n [u, v, x]) (hk : bitsPost K N l n [u, v, x]) :
    runI invB5 tB4 45 [ptr 0 0, xi .i64 n, sl ⟨1, 0, 3, none, 3⟩] (bitsSt L m c cap N [u, v, x]) (opn K) := by
  obtain ⟨h1, h2, h3, h4, h5, h6, h7⟩ := h
  unfold bitsSt
  show runI invB5 tB4 45 [ptr 0 0, xi .i64 n, sl ⟨1, 0, 3, none, 3⟩] ⟨[outB (aslC ⟨0, 0, m, c⟩) N, some ⟨22, [xintC .u64 u, xintC .u64 v, xintC .u64 x], none, 3, false⟩], [], 0, [some (bs L cap false)], 0⟩ _
  rw [bits3_vc]
  have hN := out_nonneg h1
  simp only [List.length_cons, List.length_nil, Nat.zero_add] at h6
  refine ⟨fun _ => ⟨fun _ z0 hz0 => ⟨by omega, fun z1 hz1 => ⟨fun hlt => absurd hlt (room_ok hN h5 h6 hz0 hz1), fun _ => ⟨l, ⟨h1, h2, h3, h4, h5, by omega, h7 u (by simp)⟩, fun La ma ca pa Na ka1 ka2 ka3 ka4 ka5 =>
    ⟨_, ⟨ka1, ka3, ka4, ka5, h5, by omega, h7 v (by simp)⟩, fun Lb mb cb pb Nb kb1 kb2 kb3 kb4 kb5 => ⟨_, ⟨kb1, kb3, kb4, kb5, h5, by omega, h7 x (by simp)⟩, fun Lc mc cc pc Nc kc1 kc2 kc3 kc4 kc5 => ?_⟩⟩⟩⟩⟩, fun hh => by omega⟩, fun hh => by omega⟩
  exact hk Lc mc cc pc Nc kc1 (by simp only [List.length_cons, List.length_nil]; omega) kc3 kc4 kc5
theorem bits4_run (K : AV → St → Prop) (L : List Int) (l : List Bool) (m c cap : Nat) (N n u v x y : Int) (h : bitsPre L N m c cap l n [u, v, x, y]) (hk : bitsPost K N l n [u, v, x, y]) :
    runI invB5 tB4 45 [ptr 0 0, xi .i64 n, sl ⟨1, 0, 4, none, 4⟩] (bitsSt L m c cap N [u, v, x, y]) (opn K) := by
  obtain ⟨h1, h2, h3, h4, h5, h6, h7⟩ := h
  unfold bitsSt
  show runI invB5 tB4 45 [ptr 0 0, xi .i64 n, sl ⟨1, 0, 4, none, 4⟩] ⟨[outB (aslC ⟨0, 0, m, c⟩) N, some ⟨22, [xintC .u64 u, xintC .u64 v, xintC .u64 x, xintC .u64 y], none, 4, false⟩], [], 0, [some (bs L cap false)], 0⟩ _
  rw [bits4_vc]
  have hN := out_nonneg h1
  simp only [List.length_cons, List.length_nil, Nat.zero_add] at h6
  refine ⟨fun _ => ⟨fun _ z0 hz0 => ⟨by omega, fun z1 hz1 => ⟨fun hlt => absurd hlt (room_ok hN h5 h6 hz0 hz1), fun _ => ⟨l, ⟨h1, h2, h3, h4, h5, by omega, h7 u (by simp)⟩, fun La ma ca pa Na ka1 ka2 ka3 ka4 ka5 =>
    ⟨_, ⟨ka1, ka3, ka4, ka5, h5, by omega, h7 v (by simp)⟩, fun Lb mb cb pb Nb kb1 kb2 kb3 kb4 kb5 => ⟨_, ⟨kb1, kb3, kb4, kb5, h5, by omega, h7 x (by simp)⟩, fun Lc mc cc pc Nc kc1 kc2 kc3 kc4 kc5 => ⟨_, ⟨kc1, kc3, kc4, kc5, h5, by omega, h7 y (by simp)⟩, fun Ld md cd pd Nd kd1 kd2 kd3 kd4 kd5 => ?_⟩⟩⟩⟩⟩⟩, fun hh => by omega⟩, fun hh => by omega⟩
  exact hk Ld md cd pd Nd kd1 (by simp only [List.length_cons, List.length_nil]; omega) kd3 kd4 kd5

theorem packs_uniq {cs : List Nat} {l l' : List Bool} (h : Packs cs l) (h' : Packs cs l') (hl : l.length = l'.length) : l = l' := by
  apply List.ext_getElem hl
  intro i h1 h2
  have := (h.2.2 i).symm.trans (h'.2.2 i)
  simpa [List.getD_eq_getElem?_getD, h1, h2] using this
theorem out_uniq {L : List Int} {N : Int} {l l' : List Bool} (h : U.Out L N l) (h' : U.Out L N l') : l = l' := by
  obtain ⟨cs, e1, p1, n1, _⟩ := h
  obtain ⟨cs', e2, p2, n2, _⟩ := h'
  have := nz_inj (e1.symm.trans e2)
  subst this
  exact packs_uniq p1 p2 (by omega)

theorem outBytes_run (K : AV → St → Prop) (L B : List Int) (l : List Bool) (m c cap o bm bc bcap : Nat) (ro : Bool) (N : Int) (h1 : U.Out L N l) (h2 : m = L.length) (h3 : c ≤ cap) (h4 : m ≤ c) (hB : U.By B) (hbm : o + bm ≤ B.length) (hr : N + 8 * bm ≤ 524288)
    (hk : ∀ (L' : List Int) (m' c' cap' : Nat) (N' : Int), U.Out L' N' (l ++ nums 8 (((B.drop o).take bm).map Int.toNat)) → N' = N + 8 * bm → m' = L'.length → c' ≤ cap' → m' ≤ c' →
      K (xi .i64 0) ⟨[outB (aslC ⟨2, 0, m', c'⟩) N', some ⟨24, [aslC ⟨1, o, bm, bc⟩], none, 1, false⟩], [], 0, [none, some (bs B bcap ro), some (bs L' cap' false)], 0⟩) :
    runI invB5 tB4 49 [ptr 0 0, sl ⟨1, 0, 1, none, 1⟩] ⟨[outB (aslC ⟨0, 0, m, c⟩) N, some ⟨24, [aslC ⟨1, o, bm, bc⟩], none, 1, false⟩], [], 0, [some (bs L cap false), some (bs B bcap ro)], 0⟩ (opn K) := by
  rw [outBytes_vc]
  have hN := out_nonneg h1
  intro z0 hz0
  have e0 := w64 hz0 (by omega)
  refine ⟨by decide, fun z1 hz1 z2 hz2 => ?_⟩
  have hd : Int.tdiv z0 8 = z0 / 8 := Int.tdiv_eq_ediv_of_nonneg (by omega)
  have e1 := w64 hz1 (by rw [hd]; omega)
  rw [hd] at e1
  refine ⟨fun hlt => by omega, fun _ z3 hz3 z4 hz4 z5 hz5 => ⟨⟨(0, L, c, cap, N), ?_⟩, ?_⟩⟩
  · refine ⟨rfl, ⟨rfl, rfl, rfl⟩, ⟨rfl, rfl, rfl⟩, rfl, rfl, ⟨rfl, rfl, rfl⟩, ⟨rfl, rfl, rfl⟩, rfl, rfl, rfl, ⟨rfl, rfl, rfl⟩, rfl, rfl, ⟨rfl, rfl, rfl⟩, ⟨rfl, rfl, rfl⟩, rfl, rfl, ⟨rfl, h2, rfl⟩, rfl, ⟨rfl, rfl, rfl⟩, ⟨rfl, rfl, rfl⟩, ⟨rfl, rfl, rfl⟩, ?_⟩
    exact ⟨l, 0, rfl, Nat.zero_le _, h1, by simpa [nums] using h1, h3, by dsimp only; omega, by dsimp only; omega⟩
  · rintro ⟨k, L2, c2, cap2, N2⟩ ⟨l0, j, g1, g2, g3, g4, g5, g6, g7⟩
    have := out_uniq h1 g3
    subst this
    dsimp only at g1 g7 g6 g5 g4 ⊢
    refine ⟨fun hlt => ⟨⟨by omega, by omega⟩, fun j8 hj8 => ?_⟩, fun hge => ?_⟩
    · have hj8' : j8 = o + j := by omega
      obtain ⟨cs, hcs, hcb⟩ := hB
      refine ⟨by omega, fun z9 hz9 z10 hz10 => ?_⟩
      have hv : z9 = ((cs.getD (o + j) 0 : Nat) : Int) := by rw [hz9, hcs, nz_getD, hj8']
      have hlt2 : o + j < cs.length := by rw [hcs, nz_length] at hbm; omega
      have hc : cs.getD (o + j) 0 < 256 := by
        rw [List.getD_eq_getElem?_getD, List.getElem?_eq_getElem hlt2]; exact hcb _ (List.getElem_mem _)
      have e10 : z10 = ((cs.getD (o + j) 0 : Nat) : Int) := by rw [hz10, wrapU64, hv]; omega
      refine ⟨_, ⟨g4, rfl, g5, g6, by decide, by omega, by omega, by omega⟩, fun L9 m9 c9 p9 N9 k1 k2 k3 k4 k5 z17 hz17 => ?_⟩
      have e17 := w64 hz17 (by omega)
      refine ⟨(z17, L9, c9, p9, N9), rfl, ⟨rfl, rfl, rfl⟩, ⟨rfl, rfl, rfl⟩, rfl, rfl, ⟨rfl, rfl, rfl⟩, ⟨rfl, rfl, rfl⟩, rfl, rfl, rfl, ⟨rfl, rfl, rfl⟩, rfl, rfl, ⟨rfl, rfl, rfl⟩, ⟨rfl, rfl, rfl⟩, rfl, rfl, ⟨rfl, k3, rfl⟩, rfl, ⟨rfl, rfl, rfl⟩, ⟨rfl, rfl, rfl⟩, ⟨rfl, rfl, rfl⟩, ⟨l, j + 1, by dsimp only; omega, by omega, h1, ?_, k4, by dsimp only; omega, by dsimp only; omega⟩, by dsimp only; omega⟩
      dsimp only
      have hsub : (((B.drop o).take bm).take (j + 1)).map Int.toNat = (((B.drop o).take bm).take j).map Int.toNat ++ [cs.getD (o + j) 0] := by
        have hlen : j < ((B.drop o).take bm).length := by rw [List.length_take, List.length_drop]; omega
        rw [List.take_succ_eq_append_getElem hlen, List.map_append, List.map_cons, List.map_nil]
        congr 2
        rw [List.getElem_take, List.getElem_drop]
        have : B[o + j]'(by omega) = z9 := by
          have hz9' : z9 = B.getD (o + j) 0 := hj8' ▸ hz9
          rw [hz9', List.getD_eq_getElem?_getD, List.getElem?_eq_getElem (by omega)]; rfl
        rw [this, hv]; simp
      have e : U.app (l ++ nums 8 ((((B.drop o).take bm).take j).map Int.toNat)) 8 z10 = l ++ nums 8 ((((B.drop o).take bm).take (j + 1)).map Int.toNat) := by
        rw [hsub]
        simp only [U.app, nums, List.map_append, List.flatten_append, List.map_cons, List.map_nil, List.flatten_cons, List.flatten_nil, List.append_nil, List.append_assoc]
        rw [e10]; simp
      rw [e] at k1; exact k1
    · have hj : j = bm := by omega
      subst hj
      rw [List.take_of_length_le (l := (B.drop o).take j) (by rw [List.length_take]; omega)] at g4
      exact hk L2 L2.length c2 cap2 N2 g4 (by omega) rfl g5 g6

/-! ### Tables -/
def tInBits : Tbl := fun f args σ => if f == 54 then match args, σ with
    | [.inl (.inl (.inr (.inl (0, 0)))), n], ⟨[some ⟨118, [s, a, e], none, 3, false⟩], [], 0, [some ⟨5, .n .u8, L, cap, false⟩], 0⟩ => match aslX (cell s), xiX n, xiX (cell a), xiX (cell e) with
      | some ⟨0, 0, m, c⟩, some (.i64, n), some (.i64, a), some (.i64, e) => some fun K => (U.By L ∧ m = L.length ∧ L.length ≤ 16777216 ∧ (0 ≤ a ∧ a ≤ 8 * L.length) ∧ (1 ≤ n ∧ n ≤ 64)) ∧
          ∀ z a' e' : Int, z = U.inV L a e n → a' = U.inA L a e n → e' = U.inE L a e n → K (xi .u64 z) (inSt L m c cap a' e')
      | _, _, _, _ => none
    | _, _ => none
  else none
def tInSkip : Tbl := fun f args σ => if f == 71 then match args, σ with
    | [.inl (.inl (.inr (.inl (0, 0)))), n], ⟨[some ⟨118, [s, a, e], none, 3, false⟩], [], 0, [some ⟨5, .n .u8, L, cap, false⟩], 0⟩ => match aslX (cell s), xiX n, xiX (cell a), xiX (cell e) with
      | some ⟨0, 0, m, c⟩, some (.i64, n), some (.i64, a), some (.i64, e) => some fun K => (m = L.length ∧ L.length ≤ 16777216 ∧ (0 ≤ a ∧ a ≤ 8 * L.length) ∧ (0 ≤ n ∧ n ≤ 9223372036854775807)) ∧
          ∀ a' e' : Int, a' = U.inA L a e n → e' = U.inE L a e n → K (.inr []) (inSt L m c cap a' e')
      | _, _, _, _ => none
    | _, _ => none
  else none
def tInBytes : Tbl := fun f args σ => if f == 73 then match args, σ with
    | [.inl (.inl (.inr (.inl (0, 0)))), n], ⟨[some ⟨118, [s, a, e], none, 3, false⟩], [], 0, [some ⟨5, .n .u8, L, cap, false⟩], 0⟩ => match aslX (cell s), xiX n, xiX (cell a), xiX (cell e) with
      | some ⟨0, 0, m, c⟩, some (.i64, n), some (.i64, a), some (.i64, e) => some fun K => (m = L.length ∧ m ≤ c ∧ L.length ≤ 16777216 ∧ (0 ≤ a ∧ a ≤ 8 * L.length) ∧ (e = 0 → a % 8 = 0) ∧ (0 ≤ n ∧ n ≤ 1152921504606846975)) ∧
          ∀ (B : List Int) (k c' cap' : Nat) (a' e' : Int), B = U.inB L a e n → k = B.length → k ≤ c' → c' ≤ cap' → a' = U.inA L a e (8 * n) → e' = U.inE L a e (8 * n) →
            K (cell (aslC ⟨1, 0, k, c'⟩)) ⟨[inB (aslC ⟨0, 0, m, c⟩) a' e'], [], 0, [some (bs L cap false), some (bs B cap' false)], 0⟩
      | _, _, _, _ => none
    | _, _ => none
  else none
def tOf : Tbl := fun f args σ => if f == 52 then match args, σ with
    | [s], ⟨[], [], 0, [some ⟨5, .n .u8, L, cap, ro⟩], 0⟩ => match aslX s with
      | some ⟨0, o, m, c⟩ => some fun K => (o + m ≤ L.length ∧ m ≤ 16777216) ∧ ∀ (L' : List Int) (c' cap' : Nat), L' = (L.drop o).take m → m ≤ c' → c' ≤ cap' → K (ptr 0 0) ⟨[inB (aslC ⟨1, 0, m, c'⟩) 0 0], [], 0, [some (bs L cap ro), some (bs L' cap' false)], 0⟩
      | _ => none
    | _, _ => none
  else none
def tDone : Tbl := fun f args σ => if f == 51 then match args, σ with
    | [.inl (.inl (.inr (.inl (0, 0))))], ⟨[some ⟨108, [s, N], none, 2, false⟩], [], 0, [some ⟨5, .n .u8, L, cap, false⟩], 0⟩ => match aslX (cell s), xiX (cell N) with
      | some ⟨0, 0, m, c⟩, some (.i64, N) => some fun K => (m = L.length ∧ m ≤ 16777216) ∧ ∀ (L' : List Int) (c' cap' : Nat), L' = L → m ≤ c' → c' ≤ cap' → K (cell (aslC ⟨1, 0, m, c'⟩)) ⟨[outB (aslC ⟨0, 0, m, c⟩) N], [], 0, [some (bs L cap false), some (bs L' cap' false)], 0⟩
      | _, _ => none
    | _, _ => none
  else none
def tSet : Tbl := fun f args σ => if f == 67 then match args, σ with
    | [.inl (.inl (.inr (.inl (0, 0)))), a, n, v], ⟨[some ⟨108, [s, N], none, 2, false⟩], [], 0, [some ⟨5, .n .u8, L, cap, false⟩], 0⟩ => match aslX (cell s), xiX a, xiX n, xiX v, xiX (cell N) with
      | some ⟨0, 0, m, c⟩, some (.i64, a), some (.i64, n), some (.u64, v), some (.i64, N) => some fun K => (U.By L ∧ m = L.length ∧ L.length ≤ 65536 ∧ N ≤ 8 * L.length ∧ (0 ≤ a ∧ a + n ≤ N) ∧ (1 ≤ n ∧ n ≤ 64) ∧ (0 ≤ v ∧ v ≤ 18446744073709551615)) ∧ ∀ L' : List Int, U.Sto L a n v L' → K (xi .i64 0) (outSt L' m c cap N)
      | _, _, _, _, _ => none
    | _, _ => none
  else none
def intsX : List Cell → Option (List Int)
  | [] => some []
  | c :: l => match xiX (cell c), intsX l with
    | some (.u64, v), some vs => some (v :: vs)
    | _, _ => none
theorem intsX_eq : ∀ {l : List Cell} {vs : List Int}, intsX l = some vs → l = vs.map (xintC .u64)
  | [], vs, h => by simp only [intsX, Option.some.injEq] at h; subst h; rfl
  | c :: l, vs, h => by
    simp only [intsX] at h
    split at h
    · rename_i v vs' h1 h2
      simp only [Option.some.injEq] at h; subst h
      rw [intsX_eq h2, cell_inj (xiX_eq h1)]; rfl
    · cases h
structure U.BitsPre (L : List Int) (N : Int) (m c cap : Nat) (l : List Bool) (n : Int) (vs : List Int) : Prop where
  out : bitsPre L N m c cap l n vs
def tBits : Tbl := fun f args σ => if f == 45 then match args, σ with
    | [.inl (.inl (.inr (.inl (0, 0)))), n, .inl (.inl (.inr (.inr (.inl ⟨1, 0, k, none, k'⟩))))], ⟨[some ⟨108, [s, N], none, 2, false⟩, some ⟨22, vs, none, k'', false⟩], [], 0, [some ⟨5, .n .u8, L, cap, false⟩], 0⟩ => match aslX (cell s), xiX n, xiX (cell N), intsX vs with
      | some ⟨0, 0, m, c⟩, some (.i64, n), some (.i64, N), some vs => if Nat.beq k vs.length && Nat.beq k' vs.length && Nat.beq k'' vs.length && Nat.ble 1 vs.length && Nat.ble vs.length 4 then some fun K => ∃ l, U.BitsPre L N m c cap l n vs ∧
            ∀ (L' : List Int) (m' c' cap' : Nat) (N' : Int), U.Out L' N' (U.apps l n vs) → N' = N + vs.length * n → m' = L'.length → c' ≤ cap' → m' ≤ c' → K (xi .i64 0) ⟨[outB (aslC ⟨1, 0, m', c'⟩) N', vB vs], [], 0, [none, some (bs L' cap' false)], 0⟩
          else none
      | _, _, _, _ => none
    | _, _ => none
  else none
def U.appB (l : List Bool) (B : List Int) (o n : Nat) : List Bool := l ++ nums 8 (((B.drop o).take n).map Int.toNat)
def tBytes : Tbl := fun f args σ => if f == 49 then match args, σ with
    | [.inl (.inl (.inr (.inl (0, 0)))), .inl (.inl (.inr (.inr (.inl ⟨1, 0, 1, none, 1⟩))))], ⟨[some ⟨108, [s, N], none, 2, false⟩, some ⟨24, [p], none, 1, false⟩], [], 0, [some ⟨5, .n .u8, L, cap, false⟩, some ⟨5, .n .u8, B, bcap, ro⟩], 0⟩ => match aslX (cell s), xiX (cell N), aslX (cell p) with
      | some ⟨0, 0, m, c⟩, some (.i64, N), some ⟨1, o, bm, bc⟩ => some fun K => ∃ l, (U.Out L N l ∧ m = L.length ∧ c ≤ cap ∧ m ≤ c ∧ U.By B ∧ o + bm ≤ B.length ∧ N + 8 * bm ≤ 524288) ∧
          ∀ (L' : List Int) (m' c' cap' : Nat) (N' : Int), U.Out L' N' (U.appB l B o bm) → N' = N + 8 * bm → m' = L'.length → c' ≤ cap' → m' ≤ c' →
            K (xi .i64 0) ⟨[outB (aslC ⟨2, 0, m', c'⟩) N', some ⟨24, [aslC ⟨1, o, bm, bc⟩], none, 1, false⟩], [], 0, [none, some (bs B bcap ro), some (bs L' cap' false)], 0⟩
      | _, _, _ => none
    | _, _ => none
  else none
end Go.Proofs.Ytnnloikmjofkfaa
end

section
set_option linter.unusedVariables false
set_option linter.unusedSimpArgs false
namespace Go.Proofs.Ytnnloikmjofkfaa
open Go Reck

theorem tInBits_ok : TblOk Try.prog tInBits := by
  intro f tm σ C h K hK
  unfold tInBits at h
  split at h
  · rename_i hf
    obtain rfl : f = 54 := by simpa using hf
    split at h
    · split at h
      · rename_i m c n a e hs hn ha he
        obtain rfl := cell_inj (aslX_eq hs)
        obtain rfl := xiX_eq hn
        obtain rfl := cell_inj (xiX_eq ha)
        obtain rfl := cell_inj (xiX_eq he)
        simp only [Option.some.injEq] at h; subst h
        obtain ⟨⟨h1, h2, h3, h4, h5⟩, hk⟩ := hK
        intro w0 en w hok vs hvs
        exact calls_open (knownC noOv names (conOk_of tB4_ok) (inBits_run K _ m c _ a e n h1 h2 h3 h4 h5 (hk _ _ _ rfl rfl rfl)) w0 en w hok vs hvs)
      · cases h
    · cases h
  · cases h
theorem tInSkip_ok : TblOk Try.prog tInSkip := by
  intro f tm σ C h K hK
  unfold tInSkip at h
  split at h
  · rename_i hf
    obtain rfl : f = 71 := by simpa using hf
    split at h
    · split at h
      · rename_i m c n a e hs hn ha he
        obtain rfl := cell_inj (aslX_eq hs)
        obtain rfl := xiX_eq hn
        obtain rfl := cell_inj (xiX_eq ha)
        obtain rfl := cell_inj (xiX_eq he)
        simp only [Option.some.injEq] at h; subst h
        obtain ⟨⟨h2, h3, h4, h5⟩, hk⟩ := hK
        intro w0 en w hok vs hvs
        exact calls_open (knownC noOv names (conOk_of tB4_ok) (inSkip_run K _ m c _ a e n h2 h3 h4 h5 (hk _ _ rfl rfl)) w0 en w hok vs hvs)
      · cases h
    · cases h
  · cases h
theorem tInBytes_ok : TblOk Try.prog tInBytes := by
  intro f tm σ C h K hK
  unfold tInBytes at h
  split at h
  · rename_i hf
    obtain rfl : f = 73 := by simpa using hf
    split at h
    · split at h
      · rename_i m c n a e hs hn ha he
        obtain rfl := cell_inj (aslX_eq hs)
        obtain rfl := xiX_eq hn
        obtain rfl := cell_inj (xiX_eq ha)
        obtain rfl := cell_inj (xiX_eq he)
        simp only [Option.some.injEq] at h; subst h
        obtain ⟨⟨h2, h3, h4, h5, h6, h7⟩, hk⟩ := hK
        intro w0 en w hok vs hvs
        refine calls_nil (K' := fun x σ => (x = cell nilC ∧ K (cell (aslC ⟨σ.arrs.length, 0, 0, 0⟩)) (addArr σ ⟨5, .n .u8, [], 0, false⟩)) ∨ K x σ) 5 .u8 (calls_open (knownC noOv names (conOk_of tB4_ok) (inBytes_run K _ m c _ a e n h2 h3 h4 h5 h6 h7 (fun B k c' cap' g1 g2 g3 g4 => hk B k c' cap' _ _ g1 g2 g3 g4 rfl rfl)) w0 en w hok vs hvs)) ?_
        rintro x σ' (⟨rfl, h⟩ | h)
        · exact .inr (.inl ⟨rfl, h⟩)
        · exact .inl h
      · cases h
    · cases h
  · cases h
theorem tOf_ok : TblOk Try.prog tOf := by
  intro f tm σ C h K hK
  unfold tOf at h
  split at h
  · rename_i hf
    obtain rfl : f = 52 := by simpa using hf
    split at h
    · split at h
      · rename_i o m c hs
        obtain rfl := aslX_eq hs
        simp only [Option.some.injEq] at h; subst h
        obtain ⟨⟨h2, h3⟩, hk⟩ := hK
        intro w0 en w hok vs hvs
        exact calls_open (knownC noOv names (conOk_of tB4_ok) (of_run K _ o m c _ _ h2 h3 hk) w0 en w hok vs hvs)
      · cases h
    · cases h
  · cases h
theorem tDone_ok : TblOk Try.prog tDone := by
  intro f tm σ C h K hK
  unfold tDone at h
  split at h
  · rename_i hf
    obtain rfl : f = 51 := by simpa using hf
    split at h
    · split at h
      · rename_i m c N hs hN
        obtain rfl := cell_inj (aslX_eq hs)
        obtain rfl := cell_inj (xiX_eq hN)
        simp only [Option.some.injEq] at h; subst h
        obtain ⟨⟨h2, h3⟩, hk⟩ := hK
        intro w0 en w hok vs hvs
        exact knownC noOv names (conOk_of tB4_ok) (done_run K _ m c _ N h2 h3 hk) w0 en w hok vs hvs
      · cases h
    · cases h
  · cases h
theorem tSet_ok : TblOk Try.prog tSet := by
  intro f tm σ C h K hK
  unfold tSet at h
  split at h
  · rename_i hf
    obtain rfl : f = 67 := by simpa using hf
    split at h
    · split at h
      · rename_i m c a n v N hs ha hn hv hN
        obtain rfl := cell_inj (aslX_eq hs)
        obtain rfl := xiX_eq ha
        obtain rfl := xiX_eq hn
        obtain rfl := xiX_eq hv
        obtain rfl := cell_inj (xiX_eq hN)
        simp only [Option.some.injEq] at h; subst h
        obtain ⟨⟨h1, h2, h3, h4, h5, h6, h7⟩, hk⟩ := hK
        intro w0 en w hok vs hvs
        exact calls_open (knownC noOv names (conOk_of tB4_ok) (outSet_run K _ m c _ N a n v h1 h2 h3 h4 h5 h6 h7 hk) w0 en w hok vs hvs)
      · cases h
    · cases h
  · cases h
theorem tBytes_ok : TblOk Try.prog tBytes := by
  intro f tm σ C h K hK
  unfold tBytes at h
  split at h
  · rename_i hf
    obtain rfl : f = 49 := by simpa using hf
    split at h
    · split at h
      · rename_i m c N o bm bc hs hN hp
        obtain rfl := cell_inj (aslX_eq hs)
        obtain rfl := cell_inj (xiX_eq hN)
        obtain rfl := cell_inj (aslX_eq hp)
        simp only [Option.some.injEq] at h; subst h
        obtain ⟨l, ⟨h1, h2, h3, h4, h5, h6, h7⟩, hk⟩ := hK
        intro w0 en w hok vs hvs
        exact calls_open (knownC noOv names (conOk_of tB4_ok) (outBytes_run K _ _ l m c _ o bm bc _ _ N h1 h2 h3 h4 h5 h6 h7 hk) w0 en w hok vs hvs)
      · cases h
    · cases h
  · cases h
theorem tBits_ok : TblOk Try.prog tBits := by
  intro f tm σ C h K hK
  unfold tBits at h
  split at h
  · rename_i hf
    obtain rfl : f = 45 := by simpa using hf
    split at h
    · split at h
      · rename_i m c n N vs hs hn hN hvs0
        obtain rfl := cell_inj (aslX_eq hs)
        obtain rfl := xiX_eq hn
        obtain rfl := cell_inj (xiX_eq hN)
        obtain rfl := intsX_eq hvs0
        split at h
        · rename_i hc
          simp only [Bool.and_eq_true, Nat.beq_eq, Nat.ble_eq] at hc
          obtain ⟨⟨⟨⟨c1, c2⟩, c3⟩, c4⟩, c5⟩ := hc
          subst c1; subst c2; subst c3
          simp only [Option.some.injEq] at h; subst h
          obtain ⟨l, ⟨hp⟩, hk⟩ := hK
          intro w0 en w hok vs' hvs
          match vs, c4, c5 with
          | [u], _, _ => exact calls_open (knownC noOv names (conOk_of tB4_ok) (bits1_run K _ l m c _ N n u hp hk) w0 en w hok vs' hvs)
          | [u, v], _, _ => exact calls_open (knownC noOv names (conOk_of tB4_ok) (bits2_run K _ l m c _ N n u v hp hk) w0 en w hok vs' hvs)
          | [u, v, x], _, _ => exact calls_open (knownC noOv names (conOk_of tB4_ok) (bits3_run K _ l m c _ N n u v x hp hk) w0 en w hok vs' hvs)
          | [u, v, x, y], _, _ => exact calls_open (knownC noOv names (conOk_of tB4_ok) (bits4_run K _ l m c _ N n u v x y hp hk) w0 en w hok vs' hvs)
        · cases h
      · cases h
    · cases h
  · cases h
def tBitsAll : Tbl := tblOr tB4 (tblOr tInBits (tblOr tInSkip (tblOr tInBytes (tblOr tOf (tblOr tDone (tblOr tSet (tblOr tBits tBytes)))))))
theorem tBitsAll_ok : TblOk Try.prog tBitsAll := tblOr_ok tB4_ok (tblOr_ok tInBits_ok (tblOr_ok tInSkip_ok (tblOr_ok tInBytes_ok (tblOr_ok tOf_ok (tblOr_ok tDone_ok (tblOr_ok tSet_ok (tblOr_ok tBits_ok tBytes_ok)))))))
end Go.Proofs.Ytnnloikmjofkfaa
end
