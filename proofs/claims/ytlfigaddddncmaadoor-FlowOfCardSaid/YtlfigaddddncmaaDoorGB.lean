/- Parts of a proof, one behind the other: B5 B6 B7 B8 B9 BX R1 R2. No condition. -/
import Derived.Test.YtlfigaddddncmaaDoorGA
section
namespace Go.Proofs.YtlfigaddddncmaaDoor
open Go Reck
set_option linter.unusedVariables false
def tB4 : Tbl := tblOr tB2 (tblOr tAdd (tblOr tClone tNew0))
theorem tB4_ok : TblOk Tryd.prog tB4 := tblOr_ok tB2_ok (tblOr_ok tAdd_ok (tblOr_ok tClone_ok tNew0_ok))
def inSt (L : List Int) (m c cap : Nat) (a e : Int) : St := st1 (fun s => inB s a e) L m c cap
structure U.bytI (L0 : List Int) (N0 : Int) (B : List Int) (o n : Nat) (k : Int) (L : List Int) (c cap : Nat) (N : Int) : Prop where
  out : ∃ (l0 : List Bool) (j : Nat), k = j ∧ j ≤ n ∧ U.Out L0 N0 l0 ∧ U.Out L N (l0 ++ nums 8 ((((B.drop o).take n).take j).map Int.toNat)) ∧ c ≤ cap ∧ L.length ≤ c ∧ N = N0 + 8 * k
/-- The bytes of a part are appended to an Out that is in slot 0. -/
def bytesInv (c : Code) (tm : List AV) (σ : St) : Inv where
  X := Int × List Int × Nat × Nat × Int
  tags := [0]
  tag _ _ := 0
  J := wrBut [40] c
  val _ x := [(40, xi .i64 x.1)]
  st _ x σ' := ⟨setCells σ' (ptrB 0 tm) [aslC ⟨σ.arrs.length, 0, x.2.1.length, x.2.2.1⟩, xintC .i64 x.2.2.2.2], σ'.ints, σ'.opqs, σ'.arrs.take σ.arrs.length ++ [some ⟨5, .n .u8, x.2.1, x.2.2.2.1, false⟩], σ'.junks⟩
  I _ x := U.bytI (cellL (cellAt 0 0 tm σ) σ) (cellI (cellAt 0 1 tm σ)) (slotA tm 38 σ) (slotS tm 38).o (slotS tm 38).n x.1 x.2.1 x.2.2.1 x.2.2.2.1 x.2.2.2.2
  m _ x := ((slotS tm 38).n - x.1).toNat
  ren tm' σ' := ([], cellA (cellAt 0 0 tm' σ'))
structure U.never : Prop where
  out : False
/-- A loop that is never come to. -/
def neverInv (c : Code) (tm : List AV) : Inv where
  X := Nat
  tags := [0]
  tag _ _ := 0
  J := wrBut [] c
  val _ _ := []
  st _ _ σ' := σ'
  I _ _ := U.never
  m _ _ := 0
  ren := noRen
def invB5 : InvF := fun c tm σ => match tm.length, firstReg c with
  | 50, some 15 => if isAsl (tm.getD 38 (lit undef)) then some (bytesInv c tm σ) else none
  | 65, some 7 => some (neverInv c tm)
  | _, _ => invB3 c tm σ
set_option maxRecDepth 100000
theorem inBits_vc (K : AV → St → Prop) (L : List Int) (m c cap : Nat) (a e n : Int) : (runI invB5 tB4 34 [ptr 0 0, xi .i64 n] (inSt L m c cap a e) K) = (((1 : Int) ≤ n → (n ≤ (64 : Int) → (¬e = (0 : Int) → K (Sum.inl (Sum.inl (Sum.inr (Sum.inr (Sum.inr (Sum.inr (Sum.inr (Sum.inr (Sum.inl (IntKind.u64, (0 : Int))))))))))) { heap := [some { elem := (89 : Nat), cells := [Sum.inr (Sum.inr (Sum.inr (Sum.inr (Sum.inr (Sum.inr (Sum.inr (Sum.inl { a := (0 : Nat), o := (0 : Nat), n := m, c := c }))))))), Sum.inr (Sum.inr (Sum.inr (Sum.inr (Sum.inr (Sum.inr (Sum.inl (IntKind.i64, a))))))), Sum.inr (Sum.inr (Sum.inr (Sum.inr (Sum.inr (Sum.inr (Sum.inl (IntKind.i64, e)))))))], j := none, c := (3 : Nat), z := false }], ints := [], opqs := (0 : Nat), arrs := [some { elem := OfNat.ofNat (5 : Nat), k := AK.n IntKind.u8, l := L, cap := cap, ro := false }], junks := (0 : Nat) }) ∧ (¬¬e = (0 : Int) → (¬e = (0 : Int) → ((0 : Int) < n → K (Sum.inl (Sum.inl (Sum.inr (Sum.inr (Sum.inr (Sum.inr (Sum.inr (Sum.inr (Sum.inl (IntKind.u64, (0 : Int))))))))))) { heap := [some { elem := (89 : Nat), cells := [Sum.inr (Sum.inr (Sum.inr (Sum.inr (Sum.inr (Sum.inr (Sum.inr (Sum.inl { a := (0 : Nat), o := (0 : Nat), n := m, c := c }))))))), Sum.inr (Sum.inr (Sum.inr (Sum.inr (Sum.inr (Sum.inr (Sum.inl (IntKind.i64, a))))))), Sum.inl (Value.int IntKind.i64 (7 : Int))], j := none, c := (3 : Nat), z := false }], ints := [], opqs := (0 : Nat), arrs := [some { elem := OfNat.ofNat (5 : Nat), k := AK.n IntKind.u8, l := L, cap := cap, ro := false }], junks := (0 : Nat) }) ∧ (¬(0 : Int) < n → (e = (0 : Int) → (U.By L ∧ m = List.length L ∧ List.length L ≤ (140737488355328 : Nat) ∧ (0 : Int) ≤ a ∧ (0 : Int) ≤ n ∧ n ≤ (64 : Int) ∧ a + n ≤ (8 : Int) * (↑(List.length L) : Int)) ∧ ∀ (z0 : Int), z0 = U.loa L a n → a = a ∧ (OfNat.ofNat (0 : Nat) = OfNat.ofNat (0 : Nat) ∧ m = m ∧ c = c) ∧ ∀ (z1 : Int), z1 = IntKind.wrap IntKind.i64 (a + n) → K (Sum.inl (Sum.inl (Sum.inr (Sum.inr (Sum.inr (Sum.inr (Sum.inr (Sum.inr (Sum.inl (IntKind.u64, z0)))))))))) { heap := [some { elem := (89 : Nat), cells := [Sum.inr (Sum.inr (Sum.inr (Sum.inr (Sum.inr (Sum.inr (Sum.inr (Sum.inl { a := (0 : Nat), o := (0 : Nat), n := m, c := c }))))))), Sum.inr (Sum.inr (Sum.inr (Sum.inr (Sum.inr (Sum.inr (Sum.inl (IntKind.i64, z1))))))), Sum.inr (Sum.inr (Sum.inr (Sum.inr (Sum.inr (Sum.inr (Sum.inl (IntKind.i64, e)))))))], j := none, c := (3 : Nat), z := false }], ints := [], opqs := (0 : Nat), arrs := [some { elem := OfNat.ofNat (5 : Nat), k := AK.n IntKind.u8, l := L, cap := cap, ro := false }], junks := (0 : Nat) }) ∧ (¬e = (0 : Int) → K (Sum.inl (Sum.inl (Sum.inr (Sum.inr (Sum.inr (Sum.inr (Sum.inr (Sum.inr (Sum.inl (IntKind.u64, (0 : Int))))))))))) { heap := [some { elem := (89 : Nat), cells := [Sum.inr (Sum.inr (Sum.inr (Sum.inr (Sum.inr (Sum.inr (Sum.inr (Sum.inl { a := (0 : Nat), o := (0 : Nat), n := m, c := c }))))))), Sum.inr (Sum.inr (Sum.inr (Sum.inr (Sum.inr (Sum.inr (Sum.inl (IntKind.i64, a))))))), Sum.inr (Sum.inr (Sum.inr (Sum.inr (Sum.inr (Sum.inr (Sum.inl (IntKind.i64, e)))))))], j := none, c := (3 : Nat), z := false }], ints := [], opqs := (0 : Nat), arrs := [some { elem := OfNat.ofNat (5 : Nat), k := AK.n IntKind.u8, l := L, cap := cap, ro := false }], junks := (0 : Nat) }))) ∧ (¬¬e = (0 : Int) → ∀ (z2 : Int), z2 = (↑m : Int) → ∀ (z3 : Int), z3 = IntKind.wrap IntKind.i64 ((8 : Int) * z2) → ∀ (z4 : Int), z4 = IntKind.wrap IntKind.i64 (z3 - a) → ¬(1 : Int) = (0 : Int) ∧ ∀ (z5 : Int), z5 = IntKind.wrap IntKind.i64 (Int.tdiv z4 (1 : Int)) → (z5 < n → K (Sum.inl (Sum.inl (Sum.inr (Sum.inr (Sum.inr (Sum.inr (Sum.inr (Sum.inr (Sum.inl (IntKind.u64, (0 : Int))))))))))) { heap := [some { elem := (89 : Nat), cells := [Sum.inr (Sum.inr (Sum.inr (Sum.inr (Sum.inr (Sum.inr (Sum.inr (Sum.inl { a := (0 : Nat), o := (0 : Nat), n := m, c := c }))))))), Sum.inr (Sum.inr (Sum.inr (Sum.inr (Sum.inr (Sum.inr (Sum.inl (IntKind.i64, a))))))), Sum.inl (Value.int IntKind.i64 (7 : Int))], j := none, c := (3 : Nat), z := false }], ints := [], opqs := (0 : Nat), arrs := [some { elem := OfNat.ofNat (5 : Nat), k := AK.n IntKind.u8, l := L, cap := cap, ro := false }], junks := (0 : Nat) }) ∧ (¬z5 < n → (e = (0 : Int) → (U.By L ∧ m = List.length L ∧ List.length L ≤ (140737488355328 : Nat) ∧ (0 : Int) ≤ a ∧ (0 : Int) ≤ n ∧ n ≤ (64 : Int) ∧ a + n ≤ (8 : Int) * (↑(List.length L) : Int)) ∧ ∀ (z6 : Int), z6 = U.loa L a n → a = a ∧ (OfNat.ofNat (0 : Nat) = OfNat.ofNat (0 : Nat) ∧ m = m ∧ c = c) ∧ ∀ (z7 : Int), z7 = IntKind.wrap IntKind.i64 (a + n) → K (Sum.inl (Sum.inl (Sum.inr (Sum.inr (Sum.inr (Sum.inr (Sum.inr (Sum.inr (Sum.inl (IntKind.u64, z6)))))))))) { heap := [some { elem := (89 : Nat), cells := [Sum.inr (Sum.inr (Sum.inr (Sum.inr (Sum.inr (Sum.inr (Sum.inr (Sum.inl { a := (0 : Nat), o := (0 : Nat), n := m, c := c }))))))), Sum.inr (Sum.inr (Sum.inr (Sum.inr (Sum.inr (Sum.inr (Sum.inl (IntKind.i64, z7))))))), Sum.inr (Sum.inr (Sum.inr (Sum.inr (Sum.inr (Sum.inr (Sum.inl (IntKind.i64, e)))))))], j := none, c := (3 : Nat), z := false }], ints := [], opqs := (0 : Nat), arrs := [some { elem := OfNat.ofNat (5 : Nat), k := AK.n IntKind.u8, l := L, cap := cap, ro := false }], junks := (0 : Nat) }) ∧ (¬e = (0 : Int) → K (Sum.inl (Sum.inl (Sum.inr (Sum.inr (Sum.inr (Sum.inr (Sum.inr (Sum.inr (Sum.inl (IntKind.u64, (0 : Int))))))))))) { heap := [some { elem := (89 : Nat), cells := [Sum.inr (Sum.inr (Sum.inr (Sum.inr (Sum.inr (Sum.inr (Sum.inr (Sum.inl { a := (0 : Nat), o := (0 : Nat), n := m, c := c }))))))), Sum.inr (Sum.inr (Sum.inr (Sum.inr (Sum.inr (Sum.inr (Sum.inl (IntKind.i64, a))))))), Sum.inr (Sum.inr (Sum.inr (Sum.inr (Sum.inr (Sum.inr (Sum.inl (IntKind.i64, e)))))))], j := none, c := (3 : Nat), z := false }], ints := [], opqs := (0 : Nat), arrs := [some { elem := OfNat.ofNat (5 : Nat), k := AK.n IntKind.u8, l := L, cap := cap, ro := false }], junks := (0 : Nat) }))))) ∧ (¬n ≤ (64 : Int) → (¬e = (0 : Int) → K (Sum.inl (Sum.inl (Sum.inr (Sum.inr (Sum.inr (Sum.inr (Sum.inr (Sum.inr (Sum.inl (IntKind.u64, (0 : Int))))))))))) { heap := [some { elem := (89 : Nat), cells := [Sum.inr (Sum.inr (Sum.inr (Sum.inr (Sum.inr (Sum.inr (Sum.inr (Sum.inl { a := (0 : Nat), o := (0 : Nat), n := m, c := c }))))))), Sum.inr (Sum.inr (Sum.inr (Sum.inr (Sum.inr (Sum.inr (Sum.inl (IntKind.i64, a))))))), Sum.inr (Sum.inr (Sum.inr (Sum.inr (Sum.inr (Sum.inr (Sum.inl (IntKind.i64, e)))))))], j := none, c := (3 : Nat), z := false }], ints := [], opqs := (0 : Nat), arrs := [some { elem := OfNat.ofNat (5 : Nat), k := AK.n IntKind.u8, l := L, cap := cap, ro := false }], junks := (0 : Nat) }) ∧ (¬¬e = (0 : Int) → K (Sum.inl (Sum.inl (Sum.inr (Sum.inr (Sum.inr (Sum.inr (Sum.inr (Sum.inr (Sum.inl (IntKind.u64, (0 : Int))))))))))) { heap := [some { elem := (89 : Nat), cells := [Sum.inr (Sum.inr (Sum.inr (Sum.inr (Sum.inr (Sum.inr (Sum.inr (Sum.inl { a := (0 : Nat), o := (0 : Nat), n := m, c := c }))))))), Sum.inr (Sum.inr (Sum.inr (Sum.inr (Sum.inr (Sum.inr (Sum.inl (IntKind.i64, a))))))), Sum.inl (Value.int IntKind.i64 (1 : Int))], j := none, c := (3 : Nat), z := false }], ints := [], opqs := (0 : Nat), arrs := [some { elem := OfNat.ofNat (5 : Nat), k := AK.n IntKind.u8, l := L, cap := cap, ro := false }], junks := (0 : Nat) }))) ∧ (¬(1 : Int) ≤ n → (¬e = (0 : Int) → K (Sum.inl (Sum.inl (Sum.inr (Sum.inr (Sum.inr (Sum.inr (Sum.inr (Sum.inr (Sum.inl (IntKind.u64, (0 : Int))))))))))) { heap := [some { elem := (89 : Nat), cells := [Sum.inr (Sum.inr (Sum.inr (Sum.inr (Sum.inr (Sum.inr (Sum.inr (Sum.inl { a := (0 : Nat), o := (0 : Nat), n := m, c := c }))))))), Sum.inr (Sum.inr (Sum.inr (Sum.inr (Sum.inr (Sum.inr (Sum.inl (IntKind.i64, a))))))), Sum.inr (Sum.inr (Sum.inr (Sum.inr (Sum.inr (Sum.inr (Sum.inl (IntKind.i64, e)))))))], j := none, c := (3 : Nat), z := false }], ints := [], opqs := (0 : Nat), arrs := [some { elem := OfNat.ofNat (5 : Nat), k := AK.n IntKind.u8, l := L, cap := cap, ro := false }], junks := (0 : Nat) }) ∧ (¬¬e = (0 : Int) → K (Sum.inl (Sum.inl (Sum.inr (Sum.inr (Sum.inr (Sum.inr (Sum.inr (Sum.inr (Sum.inl (IntKind.u64, (0 : Int))))))))))) { heap := [some { elem := (89 : Nat), cells := [Sum.inr (Sum.inr (Sum.inr (Sum.inr (Sum.inr (Sum.inr (Sum.inr (Sum.inl { a := (0 : Nat), o := (0 : Nat), n := m, c := c }))))))), Sum.inr (Sum.inr (Sum.inr (Sum.inr (Sum.inr (Sum.inr (Sum.inl (IntKind.i64, a))))))), Sum.inl (Value.int IntKind.i64 (1 : Int))], j := none, c := (3 : Nat), z := false }], ints := [], opqs := (0 : Nat), arrs := [some { elem := OfNat.ofNat (5 : Nat), k := AK.n IntKind.u8, l := L, cap := cap, ro := false }], junks := (0 : Nat) }))) := by kernel_rfl
theorem done_vc (K : AV → St → Prop) (L : List Int) (m c cap : Nat) (N : Int) : (runI invB5 tB4 28 [ptr 0 0] (outSt L m c cap N) K) = ((OfNat.ofNat (0 : Nat) + m ≤ List.length L ∧ m ≤ (16777216 : Nat)) ∧ ∀ (L'0 : List Int) (c'1 cap'2 : Nat), L'0 = List.take m (List.drop (OfNat.ofNat (0 : Nat)) L) → m ≤ c'1 → c'1 ≤ cap'2 → K (Sum.inl (Sum.inl (Sum.inr (Sum.inr (Sum.inr (Sum.inr (Sum.inr (Sum.inr (Sum.inr (Sum.inl { a := (1 : Nat), o := OfNat.ofNat (0 : Nat), n := m, c := c'1 })))))))))) { heap := [some { elem := (81 : Nat), cells := [Sum.inr (Sum.inr (Sum.inr (Sum.inr (Sum.inr (Sum.inr (Sum.inr (Sum.inl { a := (0 : Nat), o := (0 : Nat), n := m, c := c }))))))), Sum.inr (Sum.inr (Sum.inr (Sum.inr (Sum.inr (Sum.inr (Sum.inl (IntKind.i64, N)))))))], j := none, c := (2 : Nat), z := false }], ints := [], opqs := (0 : Nat), arrs := [some { elem := OfNat.ofNat (5 : Nat), k := AK.n IntKind.u8, l := L, cap := cap, ro := false }, some { elem := OfNat.ofNat (5 : Nat), k := AK.n IntKind.u8, l := L'0, cap := cap'2, ro := false }], junks := (0 : Nat) }) := by kernel_rfl
theorem of_vc (K : AV → St → Prop) (L : List Int) (o m c cap : Nat) (ro : Bool) : (runI invB5 tB4 33 [cell (aslC ⟨0, o, m, c⟩)] (ar [bs L cap ro]) K) = ((o + m ≤ List.length L ∧ m ≤ (16777216 : Nat)) ∧ ∀ (L'0 : List Int) (c'1 cap'2 : Nat), L'0 = List.take m (List.drop o L) → m ≤ c'1 → c'1 ≤ cap'2 → K (Sum.inl (Sum.inl (Sum.inr (Sum.inl ((0 : Nat), OfNat.ofNat (0 : Nat)))))) { heap := [some { elem := (89 : Nat), cells := [Sum.inr (Sum.inr (Sum.inr (Sum.inr (Sum.inr (Sum.inr (Sum.inr (Sum.inl { a := (1 : Nat), o := (0 : Nat), n := m, c := c'1 }))))))), Sum.inl (Value.int IntKind.i64 (0 : Int)), Sum.inl (Value.int IntKind.i64 (0 : Int))], j := none, c := (3 : Nat), z := false }], ints := [], opqs := (0 : Nat), arrs := [Decidable.rec (fun (h : ¬isRo (some { elem := OfNat.ofNat (5 : Nat), k := AK.n IntKind.u8, l := L, cap := cap, ro := ro }) = true) => (fun (x : ¬isRo (some { elem := OfNat.ofNat (5 : Nat), k := AK.n IntKind.u8, l := L, cap := cap, ro := ro }) = true) => backA (List.getD (St.arrs { heap := [], ints := [], opqs := (0 : Nat), arrs := [some { elem := OfNat.ofNat (5 : Nat), k := AK.n IntKind.u8, l := L, cap := cap, ro := ro }, some { elem := OfNat.ofNat (5 : Nat), k := AK.n IntKind.u8, l := L'0, cap := cap'2, ro := false }], junks := (0 : Nat) }) (0 : Nat) none)) h) (fun (h : isRo (some { elem := OfNat.ofNat (5 : Nat), k := AK.n IntKind.u8, l := L, cap := cap, ro := ro }) = true) => (fun (x : isRo (some { elem := OfNat.ofNat (5 : Nat), k := AK.n IntKind.u8, l := L, cap := cap, ro := ro }) = true) => some { elem := OfNat.ofNat (5 : Nat), k := AK.n IntKind.u8, l := L, cap := cap, ro := ro }) h) (instDecidableEqBool (isRo (some { elem := OfNat.ofNat (5 : Nat), k := AK.n IntKind.u8, l := L, cap := cap, ro := ro })) true), some { elem := OfNat.ofNat (5 : Nat), k := AK.n IntKind.u8, l := L'0, cap := cap'2, ro := false }], junks := (0 : Nat) }) := by kernel_rfl
theorem bits1_vc (K : AV → St → Prop) (L : List Int) (m c cap : Nat) (N n u : Int) : (runI invB5 tB4 27 [ptr 0 0, xi .i64 n, sl ⟨1, 0, 1, none, 1⟩] ⟨[outB (aslC ⟨0, 0, m, c⟩) N, some ⟨22, [xintC .u64 u], none, 1, false⟩], [], 0, [some (bs L cap false)], 0⟩ K) = (((1 : Int) ≤ n → (n ≤ (64 : Int) → ∀ (z0 : Int), z0 = IntKind.wrap IntKind.i64 ((524288 : Int) - N) → ¬n = (0 : Int) ∧ ∀ (z1 : Int), z1 = IntKind.wrap IntKind.i64 (Int.tdiv z0 n) → (z1 < (1 : Int) → K (Sum.inl (Sum.inl (Sum.inr (Sum.inr (Sum.inr (Sum.inr (Sum.inr (Sum.inr (Sum.inl (IntKind.i64, (4 : Int))))))))))) { heap := [some { elem := (81 : Nat), cells := [Sum.inr (Sum.inr (Sum.inr (Sum.inr (Sum.inr (Sum.inr (Sum.inr (Sum.inl { a := (0 : Nat), o := (0 : Nat), n := m, c := c }))))))), Sum.inr (Sum.inr (Sum.inr (Sum.inr (Sum.inr (Sum.inr (Sum.inl (IntKind.i64, N)))))))], j := none, c := (2 : Nat), z := false }, some { elem := (22 : Nat), cells := [Sum.inr (Sum.inr (Sum.inr (Sum.inr (Sum.inr (Sum.inr (Sum.inl (IntKind.u64, u)))))))], j := none, c := (1 : Nat), z := false }], ints := [], opqs := (0 : Nat), arrs := [some { elem := OfNat.ofNat (5 : Nat), k := AK.n IntKind.u8, l := L, cap := cap, ro := false }], junks := (0 : Nat) }) ∧ (¬z1 < (1 : Int) → ∃ (y2 : List Bool), (U.Out L N y2 ∧ m = List.length L ∧ c ≤ cap ∧ m ≤ c ∧ ((1 : Int) ≤ n ∧ n ≤ (64 : Int)) ∧ N + n ≤ (524288 : Int) ∧ (0 : Int) ≤ u ∧ u ≤ (18446744073709551615 : Int)) ∧ ∀ (L'3 : List Int) (m'4 c'5 cap'6 : Nat) (N'7 : Int), U.Out L'3 N'7 (U.app y2 n u) → N'7 = N + n → m'4 = List.length L'3 → c'5 ≤ cap'6 → m'4 ≤ c'5 → K (Sum.inl (Sum.inl (Sum.inr (Sum.inr (Sum.inr (Sum.inr (Sum.inr (Sum.inr (Sum.inl (IntKind.i64, (0 : Int))))))))))) { heap := [some { elem := (81 : Nat), cells := [Sum.inr (Sum.inr (Sum.inr (Sum.inr (Sum.inr (Sum.inr (Sum.inr (Sum.inl { a := (1 : Nat), o := (0 : Nat), n := m'4, c := c'5 }))))))), Sum.inr (Sum.inr (Sum.inr (Sum.inr (Sum.inr (Sum.inr (Sum.inl (IntKind.i64, N'7)))))))], j := none, c := (2 : Nat), z := false }, some { elem := (22 : Nat), cells := [Sum.inr (Sum.inr (Sum.inr (Sum.inr (Sum.inr (Sum.inr (Sum.inl (IntKind.u64, u)))))))], j := none, c := (1 : Nat), z := false }], ints := [], opqs := (0 : Nat), arrs := [none, some { elem := OfNat.ofNat (5 : Nat), k := AK.n IntKind.u8, l := L'3, cap := cap'6, ro := false }], junks := (0 : Nat) })) ∧ (¬n ≤ (64 : Int) → K (Sum.inl (Sum.inl (Sum.inr (Sum.inr (Sum.inr (Sum.inr (Sum.inr (Sum.inr (Sum.inl (IntKind.i64, (1 : Int))))))))))) { heap := [some { elem := (81 : Nat), cells := [Sum.inr (Sum.inr (Sum.inr (Sum.inr (Sum.inr (Sum.inr (Sum.inr (Sum.inl { a := (0 : Nat), o := (0 : Nat), n := m, c := c }))))))), Sum.inr (Sum.inr (Sum.inr (Sum.inr (Sum.inr (Sum.inr (Sum.inl (IntKind.i64, N)))))))], j := none, c := (2 : Nat), z := false }, some { elem := (22 : Nat), cells := [Sum.inr (Sum.inr (Sum.inr (Sum.inr (Sum.inr (Sum.inr (Sum.inl (IntKind.u64, u)))))))], j := none, c := (1 : Nat), z := false }], ints := [], opqs := (0 : Nat), arrs := [some { elem := OfNat.ofNat (5 : Nat), k := AK.n IntKind.u8, l := L, cap := cap, ro := false }], junks := (0 : Nat) })) ∧ (¬(1 : Int) ≤ n → K (Sum.inl (Sum.inl (Sum.inr (Sum.inr (Sum.inr (Sum.inr (Sum.inr (Sum.inr (Sum.inl (IntKind.i64, (1 : Int))))))))))) { heap := [some { elem := (81 : Nat), cells := [Sum.inr (Sum.inr (Sum.inr (Sum.inr (Sum.inr (Sum.inr (Sum.inr (Sum.inl { a := (0 : Nat), o := (0 : Nat), n := m, c := c }))))))), Sum.inr (Sum.inr (Sum.inr (Sum.inr (Sum.inr (Sum.inr (Sum.inl (IntKind.i64, N)))))))], j := none, c := (2 : Nat), z := false }, some { elem := (22 : Nat), cells := [Sum.inr (Sum.inr (Sum.inr (Sum.inr (Sum.inr (Sum.inr (Sum.inl (IntKind.u64, u)))))))], j := none, c := (1 : Nat), z := false }], ints := [], opqs := (0 : Nat), arrs := [some { elem := OfNat.ofNat (5 : Nat), k := AK.n IntKind.u8, l := L, cap := cap, ro := false }], junks := (0 : Nat) })) := by kernel_rfl
theorem bits2_vc (K : AV → St → Prop) (L : List Int) (m c cap : Nat) (N n u v : Int) : (runI invB5 tB4 27 [ptr 0 0, xi .i64 n, sl ⟨1, 0, 2, none, 2⟩] ⟨[outB (aslC ⟨0, 0, m, c⟩) N, some ⟨22, [xintC .u64 u, xintC .u64 v], none, 2, false⟩], [], 0, [some (bs L cap false)], 0⟩ K) = (((1 : Int) ≤ n → (n ≤ (64 : Int) → ∀ (z0 : Int), z0 = IntKind.wrap IntKind.i64 ((524288 : Int) - N) → ¬n = (0 : Int) ∧ ∀ (z1 : Int), z1 = IntKind.wrap IntKind.i64 (Int.tdiv z0 n) → (z1 < (2 : Int) → K (Sum.inl (Sum.inl (Sum.inr (Sum.inr (Sum.inr (Sum.inr (Sum.inr (Sum.inr (Sum.inl (IntKind.i64, (4 : Int))))))))))) { heap := [some { elem := (81 : Nat), cells := [Sum.inr (Sum.inr (Sum.inr (Sum.inr (Sum.inr (Sum.inr (Sum.inr (Sum.inl { a := (0 : Nat), o := (0 : Nat), n := m, c := c }))))))), Sum.inr (Sum.inr (Sum.inr (Sum.inr (Sum.inr (Sum.inr (Sum.inl (IntKind.i64, N)))))))], j := none, c := (2 : Nat), z := false }, some { elem := (22 : Nat), cells := [Sum.inr (Sum.inr (Sum.inr (Sum.inr (Sum.inr (Sum.inr (Sum.inl (IntKind.u64, u))))))), Sum.inr (Sum.inr (Sum.inr (Sum.inr (Sum.inr (Sum.inr (Sum.inl (IntKind.u64, v)))))))], j := none, c := (2 : Nat), z := false }], ints := [], opqs := (0 : Nat), arrs := [some { elem := OfNat.ofNat (5 : Nat), k := AK.n IntKind.u8, l := L, cap := cap, ro := false }], junks := (0 : Nat) }) ∧ (¬z1 < (2 : Int) → ∃ (y2 : List Bool), (U.Out L N y2 ∧ m = List.length L ∧ c ≤ cap ∧ m ≤ c ∧ ((1 : Int) ≤ n ∧ n ≤ (64 : Int)) ∧ N + n ≤ (524288 : Int) ∧ (0 : Int) ≤ u ∧ u ≤ (18446744073709551615 : Int)) ∧ ∀ (L'3 : List Int) (m'4 c'5 cap'6 : Nat) (N'7 : Int), U.Out L'3 N'7 (U.app y2 n u) → N'7 = N + n → m'4 = List.length L'3 → c'5 ≤ cap'6 → m'4 ≤ c'5 → ∃ (y8 : List Bool), (U.Out L'3 N'7 y8 ∧ m'4 = List.length L'3 ∧ c'5 ≤ cap'6 ∧ m'4 ≤ c'5 ∧ ((1 : Int) ≤ n ∧ n ≤ (64 : Int)) ∧ N'7 + n ≤ (524288 : Int) ∧ (0 : Int) ≤ v ∧ v ≤ (18446744073709551615 : Int)) ∧ ∀ (L'9 : List Int) (m'10 c'11 cap'12 : Nat) (N'13 : Int), U.Out L'9 N'13 (U.app y8 n v) → N'13 = N'7 + n → m'10 = List.length L'9 → c'11 ≤ cap'12 → m'10 ≤ c'11 → K (Sum.inl (Sum.inl (Sum.inr (Sum.inr (Sum.inr (Sum.inr (Sum.inr (Sum.inr (Sum.inl (IntKind.i64, (0 : Int))))))))))) { heap := [some { elem := (81 : Nat), cells := [Sum.inr (Sum.inr (Sum.inr (Sum.inr (Sum.inr (Sum.inr (Sum.inr (Sum.inl { a := (1 : Nat), o := (0 : Nat), n := m'10, c := c'11 }))))))), Sum.inr (Sum.inr (Sum.inr (Sum.inr (Sum.inr (Sum.inr (Sum.inl (IntKind.i64, N'13)))))))], j := none, c := (2 : Nat), z := false }, some { elem := (22 : Nat), cells := [Sum.inr (Sum.inr (Sum.inr (Sum.inr (Sum.inr (Sum.inr (Sum.inl (IntKind.u64, u))))))), Sum.inr (Sum.inr (Sum.inr (Sum.inr (Sum.inr (Sum.inr (Sum.inl (IntKind.u64, v)))))))], j := none, c := (2 : Nat), z := false }], ints := [], opqs := (0 : Nat), arrs := [none, some { elem := OfNat.ofNat (5 : Nat), k := AK.n IntKind.u8, l := L'9, cap := cap'12, ro := false }], junks := (0 : Nat) })) ∧ (¬n ≤ (64 : Int) → K (Sum.inl (Sum.inl (Sum.inr (Sum.inr (Sum.inr (Sum.inr (Sum.inr (Sum.inr (Sum.inl (IntKind.i64, (1 : Int))))))))))) { heap := [some { elem := (81 : Nat), cells := [Sum.inr (Sum.inr (Sum.inr (Sum.inr (Sum.inr (Sum.inr (Sum.inr (Sum.inl { a := (0 : Nat), o := (0 : Nat), n := m, c := c }))))))), Sum.inr (Sum.inr (Sum.inr (Sum.inr (Sum.inr (Sum.inr (Sum.inl (IntKind.i64, N)))))))], j := none, c := (2 : Nat), z := false }, some { elem := (22 : Nat), cells := [Sum.inr (Sum.inr (Sum.inr (Sum.inr (Sum.inr (Sum.inr (Sum.inl (IntKind.u64, u))))))), Sum.inr (Sum.inr (Sum.inr (Sum.inr (Sum.inr (Sum.inr (Sum.inl (IntKind.u64, v)))))))], j := none, c := (2 : Nat), z := false }], ints := [], opqs := (0 : Nat), arrs := [some { elem := OfNat.ofNat (5 : Nat), k := AK.n IntKind.u8, l := L, cap := cap, ro := false }], junks := (0 : Nat) })) ∧ (¬(1 : Int) ≤ n → K (Sum.inl (Sum.inl (Sum.inr (Sum.inr (Sum.inr (Sum.inr (Sum.inr (Sum.inr (Sum.inl (IntKind.i64, (1 : Int))))))))))) { heap := [some { elem := (81 : Nat), cells := [Sum.inr (Sum.inr (Sum.inr (Sum.inr (Sum.inr (Sum.inr (Sum.inr (Sum.inl { a := (0 : Nat), o := (0 : Nat), n := m, c := c }))))))), Sum.inr (Sum.inr (Sum.inr (Sum.inr (Sum.inr (Sum.inr (Sum.inl (IntKind.i64, N)))))))], j := none, c := (2 : Nat), z := false }, some { elem := (22 : Nat), cells := [Sum.inr (Sum.inr (Sum.inr (Sum.inr (Sum.inr (Sum.inr (Sum.inl (IntKind.u64, u))))))), Sum.inr (Sum.inr (Sum.inr (Sum.inr (Sum.inr (Sum.inr (Sum.inl (IntKind.u64, v)))))))], j := none, c := (2 : Nat), z := false }], ints := [], opqs := (0 : Nat), arrs := [some { elem := OfNat.ofNat (5 : Nat), k := AK.n IntKind.u8, l := L, cap := cap, ro := false }], junks := (0 : Nat) })) := by kernel_rfl
theorem bits3_vc (K : AV → St → Prop) (L : List Int) (m c cap : Nat) (N n u v x : Int) : (runI invB5 tB4 27 [ptr 0 0, xi .i64 n, sl ⟨1, 0, 3, none, 3⟩] ⟨[outB (aslC ⟨0, 0, m, c⟩) N, some ⟨22, [xintC .u64 u, xintC .u64 v, xintC .u64 x], none, 3, false⟩], [], 0, [some (bs L cap false)], 0⟩ K) = (((1 : Int) ≤ n → (n ≤ (64 : Int) → ∀ (z0 : Int), z0 = IntKind.wrap IntKind.i64 ((524288 : Int) - N) → ¬n = (0 : Int) ∧ ∀ (z1 : Int), z1 = IntKind.wrap IntKind.i64 (Int.tdiv z0 n) → (z1 < (3 : Int) → K (Sum.inl (Sum.inl (Sum.inr (Sum.inr (Sum.inr (Sum.inr (Sum.inr (Sum.inr (Sum.inl (IntKind.i64, (4 : Int))))))))))) { heap := [some { elem := (81 : Nat), cells := [Sum.inr (Sum.inr (Sum.inr (Sum.inr (Sum.inr (Sum.inr (Sum.inr (Sum.inl { a := (0 : Nat), o := (0 : Nat), n := m, c := c }))))))), Sum.inr (Sum.inr (Sum.inr (Sum.inr (Sum.inr (Sum.inr (Sum.inl (IntKind.i64, N)))))))], j := none, c := (2 : Nat), z := false }, some { elem := (22 : Nat), cells := [Sum.inr (Sum.inr (Sum.inr (Sum.inr (Sum.inr (Sum.inr (Sum.inl (IntKind.u64, u))))))), Sum.inr (Sum.inr (Sum.inr (Sum.inr (Sum.inr (Sum.inr (Sum.inl (IntKind.u64, v))))))), Sum.inr (Sum.inr (Sum.inr (Sum.inr (Sum.inr (Sum.inr (Sum.inl (IntKind.u64, x)))))))], j := none, c := (3 : Nat), z := false }], ints := [], opqs := (0 : Nat), arrs := [some { elem := OfNat.ofNat (5 : Nat), k := AK.n IntKind.u8, l := L, cap := cap, ro := false }], junks := (0 : Nat) }) ∧ (¬z1 < (3 : Int) → ∃ (y2 : List Bool), (U.Out L N y2 ∧ m = List.length L ∧ c ≤ cap ∧ m ≤ c ∧ ((1 : Int) ≤ n ∧ n ≤ (64 : Int)) ∧ N + n ≤ (524288 : Int) ∧ (0 : Int) ≤ u ∧ u ≤ (18446744073709551615 : Int)) ∧ ∀ (L'3 : List Int) (m'4 c'5 cap'6 : Nat) (N'7 : Int), U.Out L'3 N'7 (U.app y2 n u) → N'7 = N + n → m'4 = List.length L'3 → c'5 ≤ cap'6 → m'4 ≤ c'5 → ∃ (y8 : List Bool), (U.Out L'3 N'7 y8 ∧ m'4 = List.length L'3 ∧ c'5 ≤ cap'6 ∧ m'4 ≤ c'5 ∧ ((1 : Int) ≤ n ∧ n ≤ (64 : Int)) ∧ N'7 + n ≤ (524288 : Int) ∧ (0 : Int) ≤ v ∧ v ≤ (18446744073709551615 : Int)) ∧ ∀ (L'9 : List Int) (m'10 c'11 cap'12 : Nat) (N'13 : Int), U.Out L'9 N'13 (U.app y8 n v) → N'13 = N'7 + n → m'10 = List.length L'9 → c'11 ≤ cap'12 → m'10 ≤ c'11 → ∃ (y14 : List Bool), (U.Out L'9 N'13 y14 ∧ m'10 = List.length L'9 ∧ c'11 ≤ cap'12 ∧ m'10 ≤ c'11 ∧ ((1 : Int) ≤ n ∧ n ≤ (64 : Int)) ∧ N'13 + n ≤ (524288 : Int) ∧ (0 : Int) ≤ x ∧ x ≤ (18446744073709551615 : Int)) ∧ ∀ (L'15 : List Int) (m'16 c'17 cap'18 : Nat) (N'19 : Int), U.Out L'15 N'19 (U.app y14 n x) → N'19 = N'13 + n → m'16 = List.length L'15 → c'17 ≤ cap'18 → m'16 ≤ c'17 → K (Sum.inl (Sum.inl (Sum.inr (Sum.inr (Sum.inr (Sum.inr (Sum.inr (Sum.inr (Sum.inl (IntKind.i64, (0 : Int))))))))))) { heap := [some { elem := (81 : Nat), cells := [Sum.inr (Sum.inr (Sum.inr (Sum.inr (Sum.inr (Sum.inr (Sum.inr (Sum.inl { a := (1 : Nat), o := (0 : Nat), n := m'16, c := c'17 }))))))), Sum.inr (Sum.inr (Sum.inr (Sum.inr (Sum.inr (Sum.inr (Sum.inl (IntKind.i64, N'19)))))))], j := none, c := (2 : Nat), z := false }, some { elem := (22 : Nat), cells := [Sum.inr (Sum.inr (Sum.inr (Sum.inr (Sum.inr (Sum.inr (Sum.inl (IntKind.u64, u))))))), Sum.inr (Sum.inr (Sum.inr (Sum.inr (Sum.inr (Sum.inr (Sum.inl (IntKind.u64, v))))))), Sum.inr (Sum.inr (Sum.inr (Sum.inr (Sum.inr (Sum.inr (Sum.inl (IntKind.u64, x)))))))], j := none, c := (3 : Nat), z := false }], ints := [], opqs := (0 : Nat), arrs := [none, some { elem := OfNat.ofNat (5 : Nat), k := AK.n IntKind.u8, l := L'15, cap := cap'18, ro := false }], junks := (0 : Nat) })) ∧ (¬n ≤ (64 : Int) → K (Sum.inl (Sum.inl (Sum.inr (Sum.inr (Sum.inr (Sum.inr (Sum.inr (Sum.inr (Sum.inl (IntKind.i64, (1 : Int))))))))))) { heap := [some { elem := (81 : Nat), cells := [Sum.inr (Sum.inr (Sum.inr (Sum.inr (Sum.inr (Sum.inr (Sum.inr (Sum.inl { a := (0 : Nat), o := (0 : Nat), n := m, c := c }))))))), Sum.inr (Sum.inr (Sum.inr (Sum.inr (Sum.inr (Sum.inr (Sum.inl (IntKind.i64, N)))))))], j := none, c := (2 : Nat), z := false }, some { elem := (22 : Nat), cells := [Sum.inr (Sum.inr (Sum.inr (Sum.inr (Sum.inr (Sum.inr (Sum.inl (IntKind.u64, u))))))), Sum.inr (Sum.inr (Sum.inr (Sum.inr (Sum.inr (Sum.inr (Sum.inl (IntKind.u64, v))))))), Sum.inr (Sum.inr (Sum.inr (Sum.inr (Sum.inr (Sum.inr (Sum.inl (IntKind.u64, x)))))))], j := none, c := (3 : Nat), z := false }], ints := [], opqs := (0 : Nat), arrs := [some { elem := OfNat.ofNat (5 : Nat), k := AK.n IntKind.u8, l := L, cap := cap, ro := false }], junks := (0 : Nat) })) ∧ (¬(1 : Int) ≤ n → K (Sum.inl (Sum.inl (Sum.inr (Sum.inr (Sum.inr (Sum.inr (Sum.inr (Sum.inr (Sum.inl (IntKind.i64, (1 : Int))))))))))) { heap := [some { elem := (81 : Nat), cells := [Sum.inr (Sum.inr (Sum.inr (Sum.inr (Sum.inr (Sum.inr (Sum.inr (Sum.inl { a := (0 : Nat), o := (0 : Nat), n := m, c := c }))))))), Sum.inr (Sum.inr (Sum.inr (Sum.inr (Sum.inr (Sum.inr (Sum.inl (IntKind.i64, N)))))))], j := none, c := (2 : Nat), z := false }, some { elem := (22 : Nat), cells := [Sum.inr (Sum.inr (Sum.inr (Sum.inr (Sum.inr (Sum.inr (Sum.inl (IntKind.u64, u))))))), Sum.inr (Sum.inr (Sum.inr (Sum.inr (Sum.inr (Sum.inr (Sum.inl (IntKind.u64, v))))))), Sum.inr (Sum.inr (Sum.inr (Sum.inr (Sum.inr (Sum.inr (Sum.inl (IntKind.u64, x)))))))], j := none, c := (3 : Nat), z := false }], ints := [], opqs := (0 : Nat), arrs := [some { elem := OfNat.ofNat (5 : Nat), k := AK.n IntKind.u8, l := L, cap := cap, ro := false }], junks := (0 : Nat) })) := by kernel_rfl
theorem bits4_vc (K : AV → St → Prop) (L : List Int) (m c cap : Nat) (N n u v x y : Int) : (runI invB5 tB4 27 [ptr 0 0, xi .i64 n, sl ⟨1, 0, 4, none, 4⟩] ⟨[outB (aslC ⟨0, 0, m, c⟩) N, some ⟨22, [xintC .u64 u, xintC .u64 v, xintC .u64 x, xintC .u64 y], none, 4, false⟩], [], 0, [some (bs L cap false)], 0⟩ K) = (((1 : Int) ≤ n → (n ≤ (64 : Int) → ∀ (z0 : Int), z0 = IntKind.wrap IntKind.i64 ((524288 : Int) - N) → ¬n = (0 : Int) ∧ ∀ (z1 : Int), z1 = IntKind.wrap IntKind.i64 (Int.tdiv z0 n) → (z1 < (4 : Int) → K (Sum.inl (Sum.inl (Sum.inr (Sum.inr (Sum.inr (Sum.inr (Sum.inr (Sum.inr (Sum.inl (IntKind.i64, (4 : Int))))))))))) { heap := [some { elem := (81 : Nat), cells := [Sum.inr (Sum.inr (Sum.inr (Sum.inr (Sum.inr (Sum.inr (Sum.inr (Sum.inl { a := (0 : Nat), o := (0 : Nat), n := m, c := c }))))))), Sum.inr (Sum.inr (Sum.inr (Sum.inr (Sum.inr (Sum.inr (Sum.inl (IntKind.i64, N)))))))], j := none, c := (2 : Nat), z := false }, some { elem := (22 : Nat), cells := [Sum.inr (Sum.inr (Sum.inr (Sum.inr (Sum.inr (Sum.inr (Sum.inl (IntKind.u64, u))))))), Sum.inr (Sum.inr (Sum.inr (Sum.inr (Sum.inr (Sum.inr (Sum.inl (IntKind.u64, v))))))), Sum.inr (Sum.inr (Sum.inr (Sum.inr (Sum.inr (Sum.inr (Sum.inl (IntKind.u64, x))))))), Sum.inr (Sum.inr (Sum.inr (Sum.inr (Sum.inr (Sum.inr (Sum.inl (IntKind.u64, y)))))))], j := none, c := (4 : Nat), z := false }], ints := [], opqs := (0 : Nat), arrs := [some { elem := OfNat.ofNat (5 : Nat), k := AK.n IntKind.u8, l := L, cap := cap, ro := false }], junks := (0 : Nat) }) ∧ (¬z1 < (4 : Int) → ∃ (y2 : List Bool), (U.Out L N y2 ∧ m = List.length L ∧ c ≤ cap ∧ m ≤ c ∧ ((1 : Int) ≤ n ∧ n ≤ (64 : Int)) ∧ N + n ≤ (524288 : Int) ∧ (0 : Int) ≤ u ∧ u ≤ (18446744073709551615 : Int)) ∧ ∀ (L'3 : List Int) (m'4 c'5 cap'6 : Nat) (N'7 : Int), U.Out L'3 N'7 (U.app y2 n u) → N'7 = N + n → m'4 = List.length L'3 → c'5 ≤ cap'6 → m'4 ≤ c'5 → ∃ (y8 : List Bool), (U.Out L'3 N'7 y8 ∧ m'4 = List.length L'3 ∧ c'5 ≤ cap'6 ∧ m'4 ≤ c'5 ∧ ((1 : Int) ≤ n ∧ n ≤ (64 : Int)) ∧ N'7 + n ≤ (524288 : Int) ∧ (0 : Int) ≤ v ∧ v ≤ (18446744073709551615 : Int)) ∧ ∀ (L'9 : List Int) (m'10 c'11 cap'12 : Nat) (N'13 : Int), U.Out L'9 N'13 (U.app y8 n v) → N'13 = N'7 + n → m'10 = List.length L'9 → c'11 ≤ cap'12 → m'10 ≤ c'11 → ∃ (y14 : List Bool), (U.Out L'9 N'13 y14 ∧ m'10 = List.length L'9 ∧ c'11 ≤ cap'12 ∧ m'10 ≤ c'11 ∧ ((1 : Int) ≤ n ∧ n ≤ (64 : Int)) ∧ N'13 + n ≤ (524288 : Int) ∧ (0 : Int) ≤ x ∧ x ≤ (18446744073709551615 : Int)) ∧ ∀ (L'15 : List Int) (m'16 c'17 cap'18 : Nat) (N'19 : Int), U.Out L'15 N'19 (U.app y14 n x) → N'19 = N'13 + n → m'16 = List.length L'15 → c'17 ≤ cap'18 → m'16 ≤ c'17 → ∃ (y20 : List Bool), (U.Out L'15 N'19 y20 ∧ m'16 = List.length L'15 ∧ c'17 ≤ cap'18 ∧ m'16 ≤ c'17 ∧ ((1 : Int) ≤ n ∧ n ≤ (64 : Int)) ∧ N'19 + n ≤ (524288 : Int) ∧ (0 : Int) ≤ y ∧ y ≤ (18446744073709551615 : Int)) ∧ ∀ (L'21 : List Int) (m'22 c'23 cap'24 : Nat) (N'25 : Int), U.Out L'21 N'25 (U.app y20 n y) → N'25 = N'19 + n → m'22 = List.length L'21 → c'23 ≤ cap'24 → m'22 ≤ c'23 → K (Sum.inl (Sum.inl (Sum.inr (Sum.inr (Sum.inr (Sum.inr (Sum.inr (Sum.inr (Sum.inl (IntKind.i64, (0 : Int))))))))))) { heap := [some { elem := (81 : Nat), cells := [Sum.inr (Sum.inr (Sum.inr (Sum.inr (Sum.inr (Sum.inr (Sum.inr (Sum.inl { a := (1 : Nat), o := (0 : Nat), n := m'22, c := c'23 }))))))), Sum.inr (Sum.inr (Sum.inr (Sum.inr (Sum.inr (Sum.inr (Sum.inl (IntKind.i64, N'25)))))))], j := none, c := (2 : Nat), z := false }, some { elem := (22 : Nat), cells := [Sum.inr (Sum.inr (Sum.inr (Sum.inr (Sum.inr (Sum.inr (Sum.inl (IntKind.u64, u))))))), Sum.inr (Sum.inr (Sum.inr (Sum.inr (Sum.inr (Sum.inr (Sum.inl (IntKind.u64, v))))))), Sum.inr (Sum.inr (Sum.inr (Sum.inr (Sum.inr (Sum.inr (Sum.inl (IntKind.u64, x))))))), Sum.inr (Sum.inr (Sum.inr (Sum.inr (Sum.inr (Sum.inr (Sum.inl (IntKind.u64, y)))))))], j := none, c := (4 : Nat), z := false }], ints := [], opqs := (0 : Nat), arrs := [none, some { elem := OfNat.ofNat (5 : Nat), k := AK.n IntKind.u8, l := L'21, cap := cap'24, ro := false }], junks := (0 : Nat) })) ∧ (¬n ≤ (64 : Int) → K (Sum.inl (Sum.inl (Sum.inr (Sum.inr (Sum.inr (Sum.inr (Sum.inr (Sum.inr (Sum.inl (IntKind.i64, (1 : Int))))))))))) { heap := [some { elem := (81 : Nat), cells := [Sum.inr (Sum.inr (Sum.inr (Sum.inr (Sum.inr (Sum.inr (Sum.inr (Sum.inl { a := (0 : Nat), o := (0 : Nat), n := m, c := c }))))))), Sum.inr (Sum.inr (Sum.inr (Sum.inr (Sum.inr (Sum.inr (Sum.inl (IntKind.i64, N)))))))], j := none, c := (2 : Nat), z := false }, some { elem := (22 : Nat), cells := [Sum.inr (Sum.inr (Sum.inr (Sum.inr (Sum.inr (Sum.inr (Sum.inl (IntKind.u64, u))))))), Sum.inr (Sum.inr (Sum.inr (Sum.inr (Sum.inr (Sum.inr (Sum.inl (IntKind.u64, v))))))), Sum.inr (Sum.inr (Sum.inr (Sum.inr (Sum.inr (Sum.inr (Sum.inl (IntKind.u64, x))))))), Sum.inr (Sum.inr (Sum.inr (Sum.inr (Sum.inr (Sum.inr (Sum.inl (IntKind.u64, y)))))))], j := none, c := (4 : Nat), z := false }], ints := [], opqs := (0 : Nat), arrs := [some { elem := OfNat.ofNat (5 : Nat), k := AK.n IntKind.u8, l := L, cap := cap, ro := false }], junks := (0 : Nat) })) ∧ (¬(1 : Int) ≤ n → K (Sum.inl (Sum.inl (Sum.inr (Sum.inr (Sum.inr (Sum.inr (Sum.inr (Sum.inr (Sum.inl (IntKind.i64, (1 : Int))))))))))) { heap := [some { elem := (81 : Nat), cells := [Sum.inr (Sum.inr (Sum.inr (Sum.inr (Sum.inr (Sum.inr (Sum.inr (Sum.inl { a := (0 : Nat), o := (0 : Nat), n := m, c := c }))))))), Sum.inr (Sum.inr (Sum.inr (Sum.inr (Sum.inr (Sum.inr (Sum.inl (IntKind.i64, N)))))))], j := none, c := (2 : Nat), z := false }, some { elem := (22 : Nat), cells := [Sum.inr (Sum.inr (Sum.inr (Sum.inr (Sum.inr (Sum.inr (Sum.inl (IntKind.u64, u))))))), Sum.inr (Sum.inr (Sum.inr (Sum.inr (Sum.inr (Sum.inr (Sum.inl (IntKind.u64, v))))))), Sum.inr (Sum.inr (Sum.inr (Sum.inr (Sum.inr (Sum.inr (Sum.inl (IntKind.u64, x))))))), Sum.inr (Sum.inr (Sum.inr (Sum.inr (Sum.inr (Sum.inr (Sum.inl (IntKind.u64, y)))))))], j := none, c := (4 : Nat), z := false }], ints := [], opqs := (0 : Nat), arrs := [some { elem := OfNat.ofNat (5 : Nat), k := AK.n IntKind.u8, l := L, cap := cap, ro := false }], junks := (0 : Nat) })) := by kernel_rfl
end Go.Proofs.YtlfigaddddncmaaDoor
end

section
set_option linter.unusedVariables false
set_option linter.unusedSimpArgs false
namespace Go.Proofs.YtlfigaddddncmaaDoor
open Go Reck

theorem calls_open {P : Program} {f : FuncId} {vs : Array Value} {w0 w : World} {e : Env} {K : AV → St → Prop}
    (h : Calls P f vs w fun en w' => ∃ x σ' e' v, en = .returned v ∧ e.le e' ∧ Reck.av e' x = some v ∧ Ok w0 e' σ' w' ∧ K (openV x) (openSt σ')) :
    Calls P f vs w fun en w' => ∃ x σ' e' v, en = .returned v ∧ e.le e' ∧ Reck.av e' x = some v ∧ Ok w0 e' σ' w' ∧ K x σ' := by
  refine h.mono ?_
  rintro en w' ⟨x, σ', e', v, h1, h2, h3, h4, h5⟩
  exact ⟨_, _, e', v, h1, h2, by rw [openV_av]; exact h3, openSt_ok h4, h5⟩
def opn (K : AV → St → Prop) : AV → St → Prop := fun x σ => K (openV x) (openSt σ)

def U.inV (L : List Int) (a e n : Int) : Int := if e = 0 ∧ a + n ≤ 8 * L.length then U.loa L a n else 0
def U.inA (L : List Int) (a e n : Int) : Int := if e = 0 ∧ a + n ≤ 8 * L.length then a + n else a
def U.inE (L : List Int) (a e n : Int) : Int := if e = 0 then (if a + n ≤ 8 * L.length then 0 else 7) else e

theorem inBits_run (K : AV → St → Prop) (L : List Int) (m c cap : Nat) (a e n : Int) (hb : U.By L) (hm : m = L.length) (hl : L.length ≤ 16777216) (ha : 0 ≤ a ∧ a ≤ 8 * L.length) (hn : 1 ≤ n ∧ n ≤ 64)
    (h : K (xi .u64 (U.inV L a e n)) (inSt L m c cap (U.inA L a e n) (U.inE L a e n))) : runI invB5 tB4 34 [ptr 0 0, xi .i64 n] (inSt L m c cap a e) (opn K) := by
  rw [inBits_vc]
  unfold U.inV U.inA U.inE at h
  by_cases he : e = 0
  · subst he
    refine ⟨fun h1 => ⟨fun h2 => ⟨fun h3 => absurd rfl h3, fun _ => ⟨fun h3 => absurd rfl h3, fun _ z2 hz2 z3 hz3 z4 hz4 => ⟨by decide, fun z5 hz5 => ⟨fun h6 => ?_, fun h6 => ⟨fun _ => ?_, fun h7 => absurd rfl h7⟩⟩⟩⟩⟩, fun h2 => by omega⟩, fun h1 => by omega⟩
    all_goals
      have e3 := w64 hz3 (by omega)
      have e4 := w64 hz4 (by omega)
      have e5 := w64 hz5 (by rw [Int.tdiv_one]; omega)
      rw [Int.tdiv_one] at e5
    · have hf : ¬ (a + n ≤ 8 * (L.length : Int)) := by omega
      simp only [hf, and_false, if_false, if_true] at h
      exact h
    · have hf : a + n ≤ 8 * (L.length : Int) := by omega
      simp only [hf, and_self, if_true] at h
      refine ⟨⟨hb, hm, by omega, ha.1, by omega, hn.2, hf⟩, fun z6 hz6 => ⟨rfl, ⟨rfl, rfl, rfl⟩, fun z7 hz7 => ?_⟩⟩
      have e7 := w64 hz7 (by omega)
      subst hz6; subst e7
      exact h
  · simp only [he, false_and, if_false] at h
    refine ⟨fun h1 => ⟨fun h2 => ⟨fun _ => h, fun h3 => absurd he h3⟩, fun h2 => by omega⟩, fun h1 => by omega⟩
end Go.Proofs.YtlfigaddddncmaaDoor
end

section
set_option linter.unusedVariables false
set_option linter.unusedSimpArgs false
namespace Go.Proofs.YtlfigaddddncmaaDoor
open Go Reck

def U.inB (L : List Int) (a e n : Int) : List Int := if e = 0 ∧ a + 8 * n ≤ 8 * L.length then (L.drop (a.toNat / 8)).take n.toNat else []
theorem done_run (K : AV → St → Prop) (L : List Int) (m c cap : Nat) (N : Int) (hm : m = L.length) (hl : m ≤ 16777216)
    (h : ∀ (L' : List Int) (c' cap' : Nat), L' = L → m ≤ c' → c' ≤ cap' → K (cell (aslC ⟨1, 0, m, c'⟩)) ⟨[outB (aslC ⟨0, 0, m, c⟩) N], [], 0, [some (bs L cap false), some (bs L' cap' false)], 0⟩) : runI invB5 tB4 28 [ptr 0 0] (outSt L m c cap N) K := by
  rw [done_vc]
  refine ⟨⟨by show 0 + m ≤ L.length; omega, hl⟩, fun L' c' cap' h1 h2 h3 => h L' c' cap' ?_ h2 h3⟩
  rw [h1, hm]
  show List.take L.length (List.drop 0 L) = L
  simp
theorem of_run (K : AV → St → Prop) (L : List Int) (o m c cap : Nat) (ro : Bool) (hm : o + m ≤ L.length) (hl : m ≤ 16777216)
    (h : ∀ (L' : List Int) (c' cap' : Nat), L' = (L.drop o).take m → m ≤ c' → c' ≤ cap' → K (ptr 0 0) ⟨[inB (aslC ⟨1, 0, m, c'⟩) 0 0], [], 0, [some (bs L cap ro), some (bs L' cap' false)], 0⟩) : runI invB5 tB4 33 [cell (aslC ⟨0, o, m, c⟩)] (ar [bs L cap ro]) (opn K) := by
  rw [of_vc]
  cases ro <;> exact ⟨⟨hm, hl⟩, fun L' c' cap' h1 h2 h3 => h L' c' cap' h1 h2 h3⟩
end Go.Proofs.YtlfigaddddncmaaDoor
end

section
set_option linter.unusedVariables false
set_option linter.unusedSimpArgs false
namespace Go.Proofs.YtlfigaddddncmaaDoor
open Go Reck

def U.apps (l : List Bool) (n : Int) (vs : List Int) : List Bool := vs.foldl (fun l v => U.app l n v) l
def vB (vs : List Int) : Option Blk := some ⟨22, vs.map (xintC .u64), none, vs.length, false⟩
def bitsPre (L : List Int) (N : Int) (m c cap : Nat) (l : List Bool) (n : Int) (vs : List Int) : Prop := U.Out L N l ∧ m = L.length ∧ c ≤ cap ∧ m ≤ c ∧ (1 ≤ n ∧ n ≤ 64) ∧ N + vs.length * n ≤ 524288 ∧ ∀ v ∈ vs, 0 ≤ v ∧ v ≤ 18446744073709551615
def bitsPost (K : AV → St → Prop) (N : Int) (l : List Bool) (n : Int) (vs : List Int) : Prop := ∀ (L' : List Int) (m' c' cap' : Nat) (N' : Int), U.Out L' N' (U.apps l n vs) → N' = N + vs.length * n → m' = L'.length → c' ≤ cap' → m' ≤ c' → K (xi .i64 0) ⟨[outB (aslC ⟨1, 0, m', c'⟩) N', vB vs], [], 0, [none, some (bs L' cap' false)], 0⟩
def bitsSt (L : List Int) (m c cap : Nat) (N : Int) (vs : List Int) : St := ⟨[outB (aslC ⟨0, 0, m, c⟩) N, vB vs], [], 0, [some (bs L cap false)], 0⟩

theorem room_ok {N n z0 z1 : Int} {k : Nat} (hN : 0 ≤ N) (hn : 1 ≤ n ∧ n ≤ 64) (hr : N + k * n ≤ 524288) (h0 : z0 = IntKind.wrap .i64 (524288 - N)) (h1 : z1 = IntKind.wrap .i64 (Int.tdiv z0 n)) : ¬ z1 < k := by
  have hkn : 0 ≤ (k : Int) * n := Int.mul_nonneg (by omega) (by omega)
  have e0 := w64 h0 (by omega)
  have hd : Int.tdiv z0 n = z0 / n := Int.tdiv_eq_ediv_of_nonneg (by omega)
  have hd0 : 0 ≤ z0 / n := Int.ediv_nonneg (by omega) (by omega)
  have hd1 : z0 / n ≤ z0 := Int.ediv_le_self _ (by omega)
  have e1 := w64 h1 (by rw [hd]; omega)
  rw [hd] at e1
  have : (k : Int) ≤ z0 / n := (Int.le_ediv_iff_mul_le (by omega)).2 (by omega)
  omega
theorem out_nonneg {L : List Int} {N : Int} {l : List Bool} (h : U.Out L N l) : 0 ≤ N := by
  obtain ⟨cs, _, _, h, _⟩ := h; omega

theorem bits1_run (K : AV → St → Prop) (L : List Int) (l : List Bool) (m c cap : Nat) (N n u : Int) (h : bitsPre L N m c cap l n [u]) (hk : bitsPost K N l n [u]) :
    runI invB5 tB4 27 [ptr 0 0, xi .i64 n, sl ⟨1, 0, 1, none, 1⟩] (bitsSt L m c cap N [u]) (opn K) := by
  obtain ⟨h1, h2, h3, h4, h5, h6, h7⟩ := h
  unfold bitsSt
  show runI invB5 tB4 27 [ptr 0 0, xi .i64 n, sl ⟨1, 0, 1, none, 1⟩] ⟨[outB (aslC ⟨0, 0, m, c⟩) N, some ⟨22, [xintC .u64 u], none, 1, false⟩], [], 0, [some (bs L cap false)], 0⟩ _
  rw [bits1_vc]
  have hN := out_nonneg h1
  simp only [List.length_cons, List.length_nil, Nat.zero_add] at h6
  refine ⟨fun _ => ⟨fun _ z0 hz0 => ⟨by omega, fun z1 hz1 => ⟨fun hlt => absurd hlt (room_ok hN h5 h6 hz0 hz1), fun _ => ⟨l, ⟨h1, h2, h3, h4, h5, by simpa using h6, h7 u (by simp)⟩, fun La ma ca pa Na ka1 ka2 ka3 ka4 ka5 => ?_⟩⟩⟩, fun hh => by omega⟩, fun hh => by omega⟩
  exact hk La ma ca pa Na ka1 (by simp; omega) ka3 ka4 ka5
theorem bits2_run (K : AV → St → Prop) (L : List Int) (l : List Bool) (m c cap : Nat) (N n u v : Int) (h : bitsPre L N m c cap l n [u, v]) (hk : bitsPost K N l n [u, v]) :
    runI invB5 tB4 27 [ptr 0 0, xi .i64 n, sl ⟨1, 0, 2, none, 2⟩] (bitsSt L m c cap N [u, v]) (opn K) := by
  obtain ⟨h1, h2, h3, h4, h5, h6, h7⟩ := h
  unfold bitsSt
  show runI invB5 tB4 27 [ptr 0 0, xi .i64 n, sl ⟨1, 0, 2, none, 2⟩] ⟨[outB (aslC ⟨0, 0, m, c⟩) N, some ⟨22, [xintC .u64 u, xintC .u64 v], none, 2, false⟩], [], 0, [some (bs L cap false)], 0⟩ _
  rw [bits2_vc]
  have hN := out_nonneg h1
  simp only [List.length_cons, List.length_nil, Nat.zero_add] at h6
  refine ⟨fun _ => ⟨fun _ z0 hz0 => ⟨by omega, fun z1 hz1 => ⟨fun hlt => absurd hlt (room_ok hN h5 h6 hz0 hz1), fun _ => ⟨l, ⟨h1, h2, h3, h4, h5, by omega, h7 u (by simp)⟩, fun La ma ca pa Na ka1 ka2 ka3 ka4 ka5 =>
    ⟨_, ⟨ka1, ka3, ka4, ka5, h5, by omega, h7 v (by simp)⟩, fun Lb mb cb pb Nb kb1 kb2 kb3 kb4 kb5 => ?_⟩⟩⟩⟩, fun hh => by omega⟩, fun hh => by omega⟩
  exact hk Lb mb cb pb Nb kb1 (by simp only [List.length_cons, List.length_nil]; omega) kb3 kb4 kb5
theorem bits3_run (K : AV → St → Prop) (L : List Int) (l : List Bool) (m c cap : Nat) (N n u v x : Int) (h : bitsPre L N m c cap l n [u, v, x]) (hk : bitsPost K N l n [u, v, x]) :
    runI invB5 tB4 27 [ptr 0 0, xi .i64 n, sl ⟨1, 0, 3, none, 3⟩] (bitsSt L m c cap N [u, v, x]) (opn K) := by
  obtain ⟨h1, h2, h3, h4, h5, h6, h7⟩ := h
  unfold bitsSt
  show runI invB5 tB4 27 [ptr 0 0, xi .i64 n, sl ⟨1, 0, 3, none, 3⟩] ⟨[outB (aslC ⟨0, 0, m, c⟩) N, some ⟨22, [xintC .u64 u, xintC .u64 v, xintC .u64 x], none, 3, false⟩], [], 0, [some (bs L cap false)], 0⟩ _
  rw [bits3_vc]
  have hN := out_nonneg h1
  simp only [List.length_cons, List.length_nil, Nat.zero_add] at h6
  refine ⟨fun _ => ⟨fun _ z0 hz0 => ⟨by omega, fun z1 hz1 => ⟨fun hlt => absurd hlt (room_ok hN h5 h6 hz0 hz1), fun _ => ⟨l, ⟨h1, h2, h3, h4, h5, by omega, h7 u (by simp)⟩, fun La ma ca pa Na ka1 ka2 ka3 ka4 ka5 =>
    ⟨_, ⟨ka1, ka3, ka4, ka5, h5, by omega, h7 v (by simp)⟩, fun Lb mb cb pb Nb kb1 kb2 kb3 kb4 kb5 => ⟨_, ⟨kb1, kb3, kb4, kb5, h5, by omega, h7 x (by simp)⟩, fun Lc mc cc pc Nc kc1 kc2 kc3 kc4 kc5 => ?_⟩⟩⟩⟩⟩, fun hh => by omega⟩, fun hh => by omega⟩
  exact hk Lc mc cc pc Nc kc1 (by simp only [List.length_cons, List.length_nil]; omega) kc3 kc4 kc5
theorem bits4_run (K : AV → St → Prop) (L : List Int) (l : List Bool) (m c cap : Nat) (N n u v x y : Int) (h : bitsPre L N m c cap l n [u, v, x, y]) (hk : bitsPost K N l n [u, v, x, y]) :
    runI invB5 tB4 27 [ptr 0 0, xi .i64 n, sl ⟨1, 0, 4, none, 4⟩] (bitsSt L m c cap N [u, v, x, y]) (opn K) := by
  obtain ⟨h1, h2, h3, h4, h5, h6, h7⟩ := h
  unfold bitsSt
  show runI invB5 tB4 27 [ptr 0 0, xi .i64 n, sl ⟨1, 0, 4, none, 4⟩] ⟨[outB (aslC ⟨0, 0, m, c⟩) N, some ⟨22, [xintC .u64 u, xintC .u64 v, xintC .u64 x, xintC .u64 y], none, 4, false⟩], [], 0, [some (bs L cap false)], 0⟩ _
  rw [bits4_vc]
  have hN := out_nonneg h1
  simp only [List.length_cons, List.length_nil, Nat.zero_add] at h6
  refine ⟨fun _ => ⟨fun _ z0 hz0 => ⟨by omega, fun z1 hz1 => ⟨fun hlt => absurd hlt (room_ok hN h5 h6 hz0 hz1), fun _ => ⟨l, ⟨h1, h2, h3, h4, h5, by omega, h7 u (by simp)⟩, fun La ma ca pa Na ka1 ka2 ka3 ka4 ka5 =>
    ⟨_, ⟨ka1, ka3, ka4, ka5, h5, by omega, h7 v (by simp)⟩, fun Lb mb cb pb Nb kb1 kb2 kb3 kb4 kb5 => ⟨_, ⟨kb1, kb3, kb4, kb5, h5, by omega, h7 x (by simp)⟩, fun Lc mc cc pc Nc kc1 kc2 kc3 kc4 kc5 => ⟨_, ⟨kc1, kc3, kc4, kc5, h5, by omega, h7 y (by simp)⟩, fun Ld md cd pd Nd kd1 kd2 kd3 kd4 kd5 => ?_⟩⟩⟩⟩⟩⟩, fun hh => by omega⟩, fun hh => by omega⟩
  exact hk Ld md cd pd Nd kd1 (by simp only [List.length_cons, List.length_nil]; omega) kd3 kd4 kd5

theorem packs_uniq {cs : List Nat} {l l' : List Bool} (h : Packs cs l) (h' : Packs cs l') (hl : l.length = l'.length) : l = l' := by
  apply List.ext_getElem hl
  intro i h1 h2
  have := (h.2.2 i).symm.trans (h'.2.2 i)
  simpa [List.getD_eq_getElem?_getD, h1, h2] using this
theorem out_uniq {L : List Int} {N : Int} {l l' : List Bool} (h : U.Out L N l) (h' : U.Out L N l') : l = l' := by
  obtain ⟨cs, e1, p1, n1, _⟩ := h
  obtain ⟨cs', e2, p2, n2, _⟩ := h'
  have := nz_inj (e1.symm.trans e2)
  subst this
  exact packs_uniq p1 p2 (by omega)

def tInBits : Tbl := fun f args σ => if f == 34 then match args, σ with
    | [.inl (.inl (.inr (.inl (0, 0)))), n], ⟨[some ⟨89, [s, a, e], none, 3, false⟩], [], 0, [some ⟨5, .n .u8, L, cap, false⟩], 0⟩ => match aslX (cell s), xiX n, xiX (cell a), xiX (cell e) with
      | some ⟨0, 0, m, c⟩, some (.i64, n), some (.i64, a), some (.i64, e) => some fun K => (U.By L ∧ m = L.length ∧ L.length ≤ 16777216 ∧ (0 ≤ a ∧ a ≤ 8 * L.length) ∧ (1 ≤ n ∧ n ≤ 64)) ∧
          ∀ z a' e' : Int, z = U.inV L a e n → a' = U.inA L a e n → e' = U.inE L a e n → K (xi .u64 z) (inSt L m c cap a' e')
      | _, _, _, _ => none
    | _, _ => none
  else none
def tInSkip : Tbl := fun _ _ _ => none
def tInBytes : Tbl := fun _ _ _ => none
def tOf : Tbl := fun f args σ => if f == 33 then match args, σ with
    | [s], ⟨[], [], 0, [some ⟨5, .n .u8, L, cap, ro⟩], 0⟩ => match aslX s with
      | some ⟨0, o, m, c⟩ => some fun K => (o + m ≤ L.length ∧ m ≤ 16777216) ∧ ∀ (L' : List Int) (c' cap' : Nat), L' = (L.drop o).take m → m ≤ c' → c' ≤ cap' → K (ptr 0 0) ⟨[inB (aslC ⟨1, 0, m, c'⟩) 0 0], [], 0, [some (bs L cap ro), some (bs L' cap' false)], 0⟩
      | _ => none
    | _, _ => none
  else none
def tDone : Tbl := fun f args σ => if f == 28 then match args, σ with
    | [.inl (.inl (.inr (.inl (0, 0))))], ⟨[some ⟨81, [s, N], none, 2, false⟩], [], 0, [some ⟨5, .n .u8, L, cap, false⟩], 0⟩ => match aslX (cell s), xiX (cell N) with
      | some ⟨0, 0, m, c⟩, some (.i64, N) => some fun K => (m = L.length ∧ m ≤ 16777216) ∧ ∀ (L' : List Int) (c' cap' : Nat), L' = L → m ≤ c' → c' ≤ cap' → K (cell (aslC ⟨1, 0, m, c'⟩)) ⟨[outB (aslC ⟨0, 0, m, c⟩) N], [], 0, [some (bs L cap false), some (bs L' cap' false)], 0⟩
      | _, _ => none
    | _, _ => none
  else none
def tSet : Tbl := fun _ _ _ => none
def intsX : List Cell → Option (List Int)
  | [] => some []
  | c :: l => match xiX (cell c), intsX l with
    | some (.u64, v), some vs => some (v :: vs)
    | _, _ => none
theorem intsX_eq : ∀ {l : List Cell} {vs : List Int}, intsX l = some vs → l = vs.map (xintC .u64)
  | [], vs, h => by simp only [intsX, Option.some.injEq] at h; subst h; rfl
  | c :: l, vs, h => by
    simp only [intsX] at h
    split at h
    · rename_i v vs' h1 h2
      simp only [Option.some.injEq] at h; subst h
      rw [intsX_eq h2, cell_inj (xiX_eq h1)]; rfl
    · cases h
structure U.BitsPre (L : List Int) (N : Int) (m c cap : Nat) (l : List Bool) (n : Int) (vs : List Int) : Prop where
  out : bitsPre L N m c cap l n vs
def tBits : Tbl := fun f args σ => if f == 27 then match args, σ with
    | [.inl (.inl (.inr (.inl (0, 0)))), n, .inl (.inl (.inr (.inr (.inl ⟨1, 0, k, none, k'⟩))))], ⟨[some ⟨81, [s, N], none, 2, false⟩, some ⟨22, vs, none, k'', false⟩], [], 0, [some ⟨5, .n .u8, L, cap, false⟩], 0⟩ => match aslX (cell s), xiX n, xiX (cell N), intsX vs with
      | some ⟨0, 0, m, c⟩, some (.i64, n), some (.i64, N), some vs => if Nat.beq k vs.length && Nat.beq k' vs.length && Nat.beq k'' vs.length && Nat.ble 1 vs.length && Nat.ble vs.length 4 then some fun K => ∃ l, U.BitsPre L N m c cap l n vs ∧
            ∀ (L' : List Int) (m' c' cap' : Nat) (N' : Int), U.Out L' N' (U.apps l n vs) → N' = N + vs.length * n → m' = L'.length → c' ≤ cap' → m' ≤ c' → K (xi .i64 0) ⟨[outB (aslC ⟨1, 0, m', c'⟩) N', vB vs], [], 0, [none, some (bs L' cap' false)], 0⟩
          else none
      | _, _, _, _ => none
    | _, _ => none
  else none
def U.appB (l : List Bool) (B : List Int) (o n : Nat) : List Bool := l ++ nums 8 (((B.drop o).take n).map Int.toNat)
def tBytes : Tbl := fun _ _ _ => none
end Go.Proofs.YtlfigaddddncmaaDoor
end

section
set_option linter.unusedVariables false
set_option linter.unusedSimpArgs false
namespace Go.Proofs.YtlfigaddddncmaaDoor
open Go Reck

theorem tInBits_ok : TblOk Tryd.prog tInBits := by
  intro f tm σ C h K hK
  unfold tInBits at h
  split at h
  · rename_i hf
    obtain rfl : f = 34 := by simpa using hf
    split at h
    · split at h
      · rename_i m c n a e hs hn ha he
        obtain rfl := cell_inj (aslX_eq hs)
        obtain rfl := xiX_eq hn
        obtain rfl := cell_inj (xiX_eq ha)
        obtain rfl := cell_inj (xiX_eq he)
        simp only [Option.some.injEq] at h; subst h
        obtain ⟨⟨h1, h2, h3, h4, h5⟩, hk⟩ := hK
        intro w0 en w hok vs hvs
        exact calls_open (knownC noOv names (conOk_of tB4_ok) (inBits_run K _ m c _ a e n h1 h2 h3 h4 h5 (hk _ _ _ rfl rfl rfl)) w0 en w hok vs hvs)
      · cases h
    · cases h
  · cases h
theorem tInSkip_ok : TblOk Tryd.prog tInSkip := by intro f tm σ C h; cases h
theorem tInBytes_ok : TblOk Tryd.prog tInBytes := by intro f tm σ C h; cases h
theorem tOf_ok : TblOk Tryd.prog tOf := by
  intro f tm σ C h K hK
  unfold tOf at h
  split at h
  · rename_i hf
    obtain rfl : f = 33 := by simpa using hf
    split at h
    · split at h
      · rename_i o m c hs
        obtain rfl := aslX_eq hs
        simp only [Option.some.injEq] at h; subst h
        obtain ⟨⟨h2, h3⟩, hk⟩ := hK
        intro w0 en w hok vs hvs
        exact calls_open (knownC noOv names (conOk_of tB4_ok) (of_run K _ o m c _ _ h2 h3 hk) w0 en w hok vs hvs)
      · cases h
    · cases h
  · cases h
theorem tDone_ok : TblOk Tryd.prog tDone := by
  intro f tm σ C h K hK
  unfold tDone at h
  split at h
  · rename_i hf
    obtain rfl : f = 28 := by simpa using hf
    split at h
    · split at h
      · rename_i m c N hs hN
        obtain rfl := cell_inj (aslX_eq hs)
        obtain rfl := cell_inj (xiX_eq hN)
        simp only [Option.some.injEq] at h; subst h
        obtain ⟨⟨h2, h3⟩, hk⟩ := hK
        intro w0 en w hok vs hvs
        exact knownC noOv names (conOk_of tB4_ok) (done_run K _ m c _ N h2 h3 hk) w0 en w hok vs hvs
      · cases h
    · cases h
  · cases h
theorem tSet_ok : TblOk Tryd.prog tSet := by intro f tm σ C h; cases h
theorem tBytes_ok : TblOk Tryd.prog tBytes := by intro f tm σ C h; cases h
theorem tBits_ok : TblOk Tryd.prog tBits := by
  intro f tm σ C h K hK
  unfold tBits at h
  split at h
  · rename_i hf
    obtain rfl : f = 27 := by simpa using hf
    split at h
    · split at h
      · rename_i m c n N vs hs hn hN hvs0
        obtain rfl := cell_inj (aslX_eq hs)
        obtain rfl := xiX_eq hn
        obtain rfl := cell_inj (xiX_eq hN)
        obtain rfl := intsX_eq hvs0
        split at h
        · rename_i hc
          simp only [Bool.and_eq_true, Nat.beq_eq, Nat.ble_eq] at hc
          obtain ⟨⟨⟨⟨c1, c2⟩, c3⟩, c4⟩, c5⟩ := hc
          subst c1; subst c2; subst c3
          simp only [Option.some.injEq] at h; subst h
          obtain ⟨l, ⟨hp⟩, hk⟩ := hK
          intro w0 en w hok vs' hvs
          match vs, c4, c5 with
          | [u], _, _ => exact calls_open (knownC noOv names (conOk_of tB4_ok) (bits1_run K _ l m c _ N n u hp hk) w0 en w hok vs' hvs)
          | [u, v], _, _ => exact calls_open (knownC noOv names (conOk_of tB4_ok) (bits2_run K _ l m c _ N n u v hp hk) w0 en w hok vs' hvs)
          | [u, v, x], _, _ => exact calls_open (knownC noOv names (conOk_of tB4_ok) (bits3_run K _ l m c _ N n u v x hp hk) w0 en w hok vs' hvs)
          | [u, v, x, y], _, _ => exact calls_open (knownC noOv names (conOk_of tB4_ok) (bits4_run K _ l m c _ N n u v x y hp hk) w0 en w hok vs' hvs)
        · cases h
      · cases h
    · cases h
  · cases h
def tBitsAll : Tbl := tblOr tB4 (tblOr tInBits (tblOr tInSkip (tblOr tInBytes (tblOr tOf (tblOr tDone (tblOr tSet (tblOr tBits tBytes)))))))
theorem tBitsAll_ok : TblOk Tryd.prog tBitsAll := tblOr_ok tB4_ok (tblOr_ok tInBits_ok (tblOr_ok tInSkip_ok (tblOr_ok tInBytes_ok (tblOr_ok tOf_ok (tblOr_ok tDone_ok (tblOr_ok tSet_ok (tblOr_ok tBits_ok tBytes_ok)))))))
end Go.Proofs.YtlfigaddddncmaaDoor
end

section
set_option linter.unusedVariables false
set_option linter.unusedSimpArgs false
namespace Go.Proofs.YtlfigaddddncmaaDoor
open Go Reck
namespace Rd

theorem inA_bnd {L : List Int} {a e n a' : Int} (h : a' = U.inA L a e n) (hn : 0 ≤ n) (ha : 0 ≤ a ∧ a ≤ 8 * L.length) : 0 ≤ a' ∧ a' ≤ 8 * L.length := by
  rw [h]; unfold U.inA; split <;> omega
theorem inE_iff {L : List Int} {a e n e' : Int} (h : e' = U.inE L a e n) : e' = 0 ↔ e = 0 ∧ a + n ≤ 8 * L.length := by
  rw [h]; unfold U.inE
  split
  · split <;> omega
  · omega
theorem inA_of {L : List Int} {a e n a' : Int} (h : a' = U.inA L a e n) (he : e = 0) (hf : a + n ≤ 8 * L.length) : a' = a + n := by
  rw [h]; unfold U.inA; rw [if_pos ⟨he, hf⟩]
theorem inV_of {L : List Int} {a e n z : Int} (h : z = U.inV L a e n) (he : e = 0) (hf : a + n ≤ 8 * L.length) : z = U.loa L a n := by
  rw [h]; unfold U.inV; rw [if_pos ⟨he, hf⟩]
theorem loa_bnd (L : List Int) (a n : Int) : 0 ≤ U.loa L a n ∧ U.loa L a n < 2 ^ n.toNat := by
  unfold U.loa
  have := val_lt (span (L.map Int.toNat) a.toNat n.toNat)
  rw [span_length] at this
  refine ⟨by omega, ?_⟩
  have h2 : (2 : Int) ^ n.toNat = ((2 ^ n.toNat : Nat) : Int) := by simp
  rw [h2]; omega
theorem inV_bnd {L : List Int} {a e n z : Int} (h : z = U.inV L a e n) : 0 ≤ z ∧ z < 2 ^ n.toNat := by
  rw [h]; unfold U.inV
  split
  · exact loa_bnd L a n
  · refine ⟨Int.le_refl _, ?_⟩
    have h2 : (2 : Int) ^ n.toNat = ((2 ^ n.toNat : Nat) : Int) := by simp
    rw [h2]
    have := Nat.two_pow_pos n.toNat
    omega
theorem inV8 {L : List Int} {a e z : Int} (h : z = U.inV L a e 8) : 0 ≤ z ∧ z ≤ 255 := by have := inV_bnd h; simp at this; omega
theorem inV16 {L : List Int} {a e z : Int} (h : z = U.inV L a e 16) : 0 ≤ z ∧ z ≤ 65535 := by have := inV_bnd h; simp at this; omega
theorem val_bits (l : List Bool) (v : Nat) (h : ∀ i, i < l.length → l.getD i false = v.testBit (l.length - 1 - i)) : val l = v % 2 ^ l.length := by
  induction hn : l.length generalizing l v with
  | zero => obtain rfl := List.eq_nil_of_length_eq_zero hn; simp [val, Nat.mod_one]
  | succ n ih =>
    have hne : l ≠ [] := by rintro rfl; cases hn
    obtain ⟨m, b, rfl⟩ : ∃ m b, l = m ++ [b] := ⟨l.dropLast, l.getLast hne, (List.dropLast_concat_getLast hne).symm⟩
    simp only [List.length_append, List.length_singleton] at hn h
    have hm : m.length = n := by omega
    rw [val_snoc, ih m (v / 2) (fun i hi => by
      have := h i (by omega)
      rw [List.getD_eq_getElem?_getD, List.getElem?_append_left hi, ← List.getD_eq_getElem?_getD] at this
      rw [this, Nat.testBit_div_two]
      congr 1; omega) hm]
    have hb := h m.length (by omega)
    rw [List.getD_eq_getElem?_getD, List.getElem?_append_right (Nat.le_refl _)] at hb
    simp at hb
    have h2 : b.toNat = v % 2 := by
      rw [hb]
      have := Nat.mod_two_eq_zero_or_one v
      rcases this with h0 | h0 <;> simp [h0]
    rw [h2, Nat.pow_succ, Nat.mul_comm (2 ^ n) 2, Nat.mod_mul]; omega
theorem loa_at {L : List Int} {a n : Nat} {v : Int} (h : ∀ i, i < n → bitOf (L.map Int.toNat) (a + i) = v.toNat.testBit (n - 1 - i)) (hv : 0 ≤ v ∧ v < 2 ^ n) : U.loa L a n = v := by
  unfold U.loa
  have e := val_bits (span (L.map Int.toNat) a n) v.toNat (fun i hi => by
    rw [span_length] at hi ⊢
    rw [← h i hi]; simp [span, hi])
  rw [span_length] at e
  have e2 : v.toNat % 2 ^ n = v.toNat := Nat.mod_eq_of_lt (by have := hv.2; have h2 : ((2 ^ n : Nat) : Int) = 2 ^ n := by push_cast; rfl
                                                              omega)
  simp only [Int.toNat_natCast]
  rw [e, e2]; omega
theorem inV64 {L : List Int} {a e z : Int} (h : z = U.inV L a e 64) : 0 ≤ z ∧ z ≤ 18446744073709551615 := by have := inV_bnd h; simp at this; omega
theorem getD_app_l {l m : List Bool} {i : Nat} (h : i < l.length) : (l ++ m).getD i false = l.getD i false := by
  rw [List.getD_eq_getElem?_getD, List.getElem?_append_left h, ← List.getD_eq_getElem?_getD]
theorem getD_drop (l : List Bool) (a i : Nat) : l.getD (a + i) false = (l.drop a).getD i false := by
  rw [List.getD_eq_getElem?_getD, List.getD_eq_getElem?_getD, List.getElem?_drop]
/-- What is left to be read from bit a on, if nothing was wrong so far. -/
structure Rest (L : List Int) (a e : Int) (r : List Bool) : Prop where
  ok : e = 0
  lo : 0 ≤ a
  out : ∃ l, U.Out L l.length l ∧ 8 * L.length = l.length ∧ a ≤ l.length ∧ l.drop a.toNat = r
theorem Rest.start {L : List Int} {N : Int} {l : List Bool} (h : U.Out L N l) (h8 : 8 * L.length = l.length) : Rest L 0 0 l := by
  have hN : N = l.length := by obtain ⟨_, _, _, h, _⟩ := h; exact h
  exact ⟨rfl, Int.le_refl _, l, hN ▸ h, h8, by omega, rfl⟩
theorem Rest.len {L : List Int} {a e : Int} {r : List Bool} (h : Rest L a e r) : (8 * L.length : Int) = a + r.length := by
  obtain ⟨_, lo, l, h1, h2, h3, rfl⟩ := h
  rw [List.length_drop]; omega
theorem Rest.bit {L : List Int} {a e : Int} {r : List Bool} (h : Rest L a e r) (i : Nat) : bitOf (L.map Int.toNat) (a.toNat + i) = r.getD i false := by
  obtain ⟨_, lo, l, ⟨cs, rfl, hp, _⟩, h2, h3, rfl⟩ := h
  rw [nz_back, hp.2.2, getD_drop]
theorem Rest.skip {L : List Int} {a e : Int} {r : List Bool} (h : Rest L a e r) {n : Int} (hn : 0 ≤ n ∧ n ≤ r.length) : Rest L (U.inA L a e n) (U.inE L a e n) (r.drop n.toNat) := by
  have hl := h.len
  obtain ⟨he, lo, l, h1, h2, h3, rfl⟩ := h
  have hc : e = 0 ∧ a + n ≤ 8 * L.length := ⟨he, by omega⟩
  refine ⟨?_, ?_, l, h1, h2, ?_, ?_⟩
  · unfold U.inE; rw [if_pos he, if_pos hc.2]
  · unfold U.inA; rw [if_pos hc]; omega
  · unfold U.inA; rw [if_pos hc]; omega
  · unfold U.inA; rw [if_pos hc, List.drop_drop, show (a + n).toNat = a.toNat + n.toNat by omega]
theorem Rest.num {L : List Int} {a e : Int} {r : List Bool} {n v : Int} (h : Rest L a e (Proofs.YtlfigaddddncmaaDoor.num n.toNat v.toNat ++ r)) (hn : 0 ≤ n) (hv : 0 ≤ v ∧ v < 2 ^ n.toNat) : U.inV L a e n = v ∧ Rest L (U.inA L a e n) (U.inE L a e n) r := by
  have hlen : (Proofs.YtlfigaddddncmaaDoor.num n.toNat v.toNat ++ r).length = n.toNat + r.length := by rw [List.length_append, num_length]
  have hl := h.len
  rw [hlen] at hl
  have h2 := h.skip (n := n) ⟨hn, by rw [hlen]; omega⟩
  have e2 : (Proofs.YtlfigaddddncmaaDoor.num n.toNat v.toNat ++ r).drop n.toNat = r := by
    rw [List.drop_append_of_le_length (by rw [num_length]; exact Nat.le_refl _), List.drop_eq_nil_of_le (by rw [num_length]; exact Nat.le_refl _), List.nil_append]
  rw [e2] at h2
  refine ⟨?_, h2⟩
  unfold U.inV
  rw [if_pos ⟨h.ok, by omega⟩]
  have e3 := loa_at (L := L) (a := a.toNat) (n := n.toNat) (v := v) (fun i hi => by
    rw [h.bit i, getD_app_l (by rw [num_length]; exact hi), getD_num, if_pos hi]) hv
  rw [Int.toNat_of_nonneg h.lo, Int.toNat_of_nonneg hn] at e3
  exact e3
theorem nums_get : ∀ (bs : List Nat) (i : Nat), (nums 8 bs).getD i false = bitOf bs i
  | [], i => by simp [nums, bitOf]
  | b :: bs, i => by
    have e : nums 8 (b :: bs) = Proofs.YtlfigaddddncmaaDoor.num 8 b ++ nums 8 bs := by simp [nums]
    rw [e]
    by_cases hi : i < 8
    · rw [getD_app_l (by rw [num_length]; exact hi), getD_num, if_pos hi]
      unfold bitOf
      have h1 : i / 8 = 0 := by omega
      have h2 : i % 8 = i := by omega
      rw [h1, h2]; simp
    · have := nums_get bs (i - 8)
      rw [List.getD_eq_getElem?_getD, List.getElem?_append_right (by rw [num_length]; omega), num_length, ← List.getD_eq_getElem?_getD, this]
      unfold bitOf
      have h1 : i / 8 = (i - 8) / 8 + 1 := by omega
      have h2 : i % 8 = (i - 8) % 8 := by omega
      rw [h1, h2]; simp
/-- Bytes. -/
theorem Rest.bytes {L : List Int} {a e : Int} {r : List Bool} {cs : List Nat} (h : Rest L a e (nums 8 cs ++ r)) (ha : a % 8 = 0) (hc : ∀ c ∈ cs, c < 256) : U.inB L a e cs.length = nz cs ∧ Rest L (U.inA L a e (8 * cs.length)) (U.inE L a e (8 * cs.length)) r := by
  have hlen : (nums 8 cs ++ r).length = cs.length * 8 + r.length := by rw [List.length_append, nums_length]
  have hl := h.len
  rw [hlen] at hl
  have h2 := h.skip (n := 8 * cs.length) ⟨by omega, by rw [hlen]; omega⟩
  have e2 : (nums 8 cs ++ r).drop (8 * (cs.length : Int)).toNat = r := by
    have : (8 * (cs.length : Int)).toNat = (nums 8 cs).length := by rw [nums_length]; omega
    rw [this, List.drop_append_of_le_length (Nat.le_refl _), List.drop_length, List.nil_append]
  rw [e2] at h2
  refine ⟨?_, h2⟩
  unfold U.inB
  rw [if_pos ⟨h.ok, by omega⟩]
  have hbit : ∀ i, i < 8 * cs.length → bitOf (L.map Int.toNat) (a.toNat + i) = bitOf cs i := fun i hi => by
    rw [h.bit i, getD_app_l (by rw [nums_length]; omega), nums_get]
  obtain ⟨he, lo, l, ⟨ds, rfl, hp, _⟩, k2, k3, k4⟩ := h
  rw [nz_drop, nz_take]
  congr 1
  rw [nz_length] at hl
  refine bytes_ext (by rw [List.length_take, List.length_drop]; omega) (fun x hx => hp.1 x (List.mem_of_mem_drop (List.mem_of_mem_take hx))) hc fun i hi => ?_
  have hi' : i < 8 * cs.length := by rw [List.length_take, List.length_drop] at hi; omega
  rw [← hbit i hi', nz_back]
  unfold bitOf
  have e5 : (a.toNat + i) / 8 = a.toNat / 8 + i / 8 := by omega
  have e6 : (a.toNat + i) % 8 = i % 8 := by omega
  rw [e5, e6]
  congr 1
  rw [List.getD_eq_getElem?_getD, List.getD_eq_getElem?_getD, List.getElem?_take, if_pos (by simp; omega), List.getElem?_drop]
theorem inA_mod {L : List Int} {a e n : Int} (ha : a % 8 = 0) (hn : n % 8 = 0) : U.inA L a e n % 8 = 0 := by
  unfold U.inA; split <;> omega
end Rd
end Go.Proofs.YtlfigaddddncmaaDoor
end

section
namespace Go.Proofs.YtlfigaddddncmaaDoor
open Go Reck
set_option linter.unusedVariables false
/-- n bytes, the highest first. -/
def be : Nat → Nat → List Nat
  | 0, _ => []
  | k + 1, v => (v / 256 ^ k % 256) :: be k v
def U.nb (n v : Int) : List Int := nz (be n.toNat v.toNat)
def U.vb (l : List Int) : Int := (l.foldl (fun a c => a * 256 + c) 0) % 18446744073709551616
structure U.numI (n : Nat) (v0 i v : Int) (L : List Int) : Prop where
  out : ∃ k : Nat, i = n - 1 - k ∧ k ≤ n ∧ v = v0 / 256 ^ k ∧ L = List.replicate (n - k) 0 ++ nz (be k v0.toNat)
structure U.valI (l : List Int) (i v : Int) : Prop where
  out : ∃ j : Nat, i = j ∧ j ≤ l.length ∧ v = U.vb (l.take j)
def numInv (c : Code) (tm : List AV) (σ : St) : Inv where
  X := Int × Int × List Int
  tags := [0]
  tag _ _ := 0
  J := wrBut [1, 6] c
  val _ x := [(1, xi .u64 x.2.1), (6, xi .i64 x.1)]
  st _ x σ' := match getArr σ' (slotS tm 5).a with
    | some b => setArr σ' (slotS tm 5).a (some ⟨b.elem, b.k, x.2.2, b.cap, b.ro⟩)
    | none => σ'
  I _ x := U.numI (slotS tm 5).n (slotI tm 1) x.1 x.2.1 x.2.2
  m _ x := (x.1 + 1).toNat
  ren := noRen
def valInv (c : Code) (tm : List AV) (σ : St) : Inv where
  X := Int × Int
  tags := [0]
  tag _ _ := 0
  J := wrBut [3, 8] c
  val _ x := [(3, xi .u64 x.2), (8, xi .i64 x.1)]
  st _ _ σ' := σ'
  I _ x := U.valI (slotL tm 6 σ) x.1 x.2
  m _ x := ((slotL tm 6 σ).length - x.1).toNat
  ren := noRen
def invR1 : InvF := fun c tm σ => match tm.length, firstReg c with
  | 24, some 3 => some (numInv c tm σ)
  | 19, some 3 => some (valInv c tm σ)
  | _, _ => none
set_option maxRecDepth 100000
theorem num_vc (K : AV → St → Prop) (n v : Int) : (runI invR1 tbl0 35 [xi .i64 n, xi .u64 v] emptySt K) = (((0 : Int) ≤ n ∧ n ≤ n ∧ n ≤ (16777216 : Int)) ∧ ∀ (n0 m1 : Nat) (l'2 : List Int), (↑n0 : Int) = n → (↑m1 : Int) = n → l'2 = List.replicate m1 (0 : Int) → ∀ (z3 : Int), z3 = IntKind.wrap IntKind.i64 (n - (1 : Int)) → (∃ (y4 : Int × Int × List Int), n = n ∧ v = Prod.fst (Prod.snd y4) ∧ (OfNat.ofNat (0 : Nat) = OfNat.ofNat (0 : Nat) ∧ n0 = n0 ∧ m1 = m1) ∧ z3 = Prod.fst y4 ∧ n = n ∧ (OfNat.ofNat (0 : Nat) = OfNat.ofNat (0 : Nat) ∧ n0 = n0 ∧ m1 = m1) ∧ n = n ∧ z3 = z3 ∧ (l'2 = Prod.snd (Prod.snd y4) ∧ m1 = m1 ∧ false = false) ∧ U.numI n0 v (Prod.fst y4) (Prod.fst (Prod.snd y4)) (Prod.snd (Prod.snd y4))) ∧ ∀ (x5 : Int × Int × List Int), U.numI n0 v (Prod.fst x5) (Prod.fst (Prod.snd x5)) (Prod.snd (Prod.snd x5)) → ((0 : Int) ≤ Prod.fst x5 → ¬(256 : Int) = (0 : Int) ∧ ∀ (z6 : Int), z6 = Int.tmod (Prod.fst (Prod.snd x5)) (256 : Int) → ∀ (z7 : Int), z7 = IntKind.wrap IntKind.u8 z6 → ((0 : Int) ≤ Prod.fst x5 ∧ Prod.fst x5 < (↑n0 : Int)) ∧ ∀ (j8 : Nat), (↑j8 : Int) = (↑(OfNat.ofNat (0 : Nat)) : Int) + Prod.fst x5 → j8 < List.length (Prod.snd (Prod.snd x5)) ∧ ∀ (l'9 : List Int), l'9 = List.set (Prod.snd (Prod.snd x5)) j8 z7 → ¬(256 : Int) = (0 : Int) ∧ ∀ (z10 : Int), z10 = IntKind.wrap IntKind.u64 (Int.tdiv (Prod.fst (Prod.snd x5)) (256 : Int)) → ∀ (z11 : Int), z11 = IntKind.wrap IntKind.i64 (Prod.fst x5 - (1 : Int)) → ∃ (y12 : Int × Int × List Int), n = n ∧ z10 = Prod.fst (Prod.snd y12) ∧ (OfNat.ofNat (0 : Nat) = OfNat.ofNat (0 : Nat) ∧ n0 = n0 ∧ m1 = m1) ∧ z11 = Prod.fst y12 ∧ n = n ∧ (OfNat.ofNat (0 : Nat) = OfNat.ofNat (0 : Nat) ∧ n0 = n0 ∧ m1 = m1) ∧ n = n ∧ z3 = z3 ∧ (l'9 = Prod.snd (Prod.snd y12) ∧ m1 = m1 ∧ false = false) ∧ U.numI n0 v (Prod.fst y12) (Prod.fst (Prod.snd y12)) (Prod.snd (Prod.snd y12)) ∧ Int.toNat (Prod.fst y12 + (1 : Int)) < Int.toNat (Prod.fst x5 + (1 : Int))) ∧ (¬(0 : Int) ≤ Prod.fst x5 → K (Sum.inl (Sum.inl (Sum.inr (Sum.inr (Sum.inr (Sum.inr (Sum.inr (Sum.inr (Sum.inr (Sum.inl { a := (0 : Nat), o := OfNat.ofNat (0 : Nat), n := n0, c := m1 })))))))))) { heap := [], ints := [], opqs := (0 : Nat), arrs := [some { elem := (5 : Nat), k := AK.n IntKind.u8, l := Prod.snd (Prod.snd x5), cap := m1, ro := false }], junks := (0 : Nat) })) := by kernel_rfl
theorem valT_vc (K : AV → St → Prop) (L : List Int) (o n c cap : Nat) : (runI invR1 tbl0 36 [cell (aslC ⟨0, o, n, c⟩)] (ar [bs L cap true]) K) = (∀ (z0 : Int), z0 = (↑n : Int) → (∃ (y1 : Int × Int), (o = o ∧ n = n ∧ c = c) ∧ (0 : Int) = Prod.snd y1 ∧ (o = o ∧ n = n ∧ c = c) ∧ z0 = z0 ∧ (0 : Int) = Prod.fst y1 ∧ (L = L ∧ cap = cap ∧ true = true) ∧ U.valI (List.take n (List.drop o L)) (Prod.fst y1) (Prod.snd y1)) ∧ ∀ (x2 : Int × Int), U.valI (List.take n (List.drop o L)) (Prod.fst x2) (Prod.snd x2) → (Prod.fst x2 < z0 → ((0 : Int) ≤ Prod.fst x2 ∧ Prod.fst x2 < (↑n : Int)) ∧ ∀ (j3 : Nat), (↑j3 : Int) = (↑o : Int) + Prod.fst x2 → j3 < List.length L ∧ ∀ (z4 : Int), z4 = List.getD L j3 (0 : Int) → ∀ (z5 : Int), z5 = IntKind.wrap IntKind.u64 (Prod.snd x2 * (256 : Int)) → ∀ (z6 : Int), z6 = IntKind.wrap IntKind.u64 z4 → ∀ (z7 : Int), z7 = IntKind.wrap IntKind.u64 (z5 + z6) → ∀ (z8 : Int), z8 = IntKind.wrap IntKind.i64 (Prod.fst x2 + (1 : Int)) → ∃ (y9 : Int × Int), (o = o ∧ n = n ∧ c = c) ∧ z7 = Prod.snd y9 ∧ (o = o ∧ n = n ∧ c = c) ∧ z0 = z0 ∧ z8 = Prod.fst y9 ∧ (L = L ∧ cap = cap ∧ true = true) ∧ U.valI (List.take n (List.drop o L)) (Prod.fst y9) (Prod.snd y9) ∧ Int.toNat ((↑(List.length (List.take n (List.drop o L))) : Int) - Prod.fst y9) < Int.toNat ((↑(List.length (List.take n (List.drop o L))) : Int) - Prod.fst x2)) ∧ (¬Prod.fst x2 < z0 → K (Sum.inl (Sum.inl (Sum.inr (Sum.inr (Sum.inr (Sum.inr (Sum.inr (Sum.inr (Sum.inl (IntKind.u64, Prod.snd x2)))))))))) { heap := [], ints := [], opqs := (0 : Nat), arrs := [some { elem := OfNat.ofNat (5 : Nat), k := AK.n IntKind.u8, l := L, cap := cap, ro := true }], junks := (0 : Nat) })) := by kernel_rfl
theorem valF_vc (K : AV → St → Prop) (L : List Int) (o n c cap : Nat) : (runI invR1 tbl0 36 [cell (aslC ⟨0, o, n, c⟩)] (ar [bs L cap false]) K) = (∀ (z0 : Int), z0 = (↑n : Int) → (∃ (y1 : Int × Int), (o = o ∧ n = n ∧ c = c) ∧ (0 : Int) = Prod.snd y1 ∧ (o = o ∧ n = n ∧ c = c) ∧ z0 = z0 ∧ (0 : Int) = Prod.fst y1 ∧ (L = L ∧ cap = cap ∧ false = false) ∧ U.valI (List.take n (List.drop o L)) (Prod.fst y1) (Prod.snd y1)) ∧ ∀ (x2 : Int × Int), U.valI (List.take n (List.drop o L)) (Prod.fst x2) (Prod.snd x2) → (Prod.fst x2 < z0 → ((0 : Int) ≤ Prod.fst x2 ∧ Prod.fst x2 < (↑n : Int)) ∧ ∀ (j3 : Nat), (↑j3 : Int) = (↑o : Int) + Prod.fst x2 → j3 < List.length L ∧ ∀ (z4 : Int), z4 = List.getD L j3 (0 : Int) → ∀ (z5 : Int), z5 = IntKind.wrap IntKind.u64 (Prod.snd x2 * (256 : Int)) → ∀ (z6 : Int), z6 = IntKind.wrap IntKind.u64 z4 → ∀ (z7 : Int), z7 = IntKind.wrap IntKind.u64 (z5 + z6) → ∀ (z8 : Int), z8 = IntKind.wrap IntKind.i64 (Prod.fst x2 + (1 : Int)) → ∃ (y9 : Int × Int), (o = o ∧ n = n ∧ c = c) ∧ z7 = Prod.snd y9 ∧ (o = o ∧ n = n ∧ c = c) ∧ z0 = z0 ∧ z8 = Prod.fst y9 ∧ (L = L ∧ cap = cap ∧ false = false) ∧ U.valI (List.take n (List.drop o L)) (Prod.fst y9) (Prod.snd y9) ∧ Int.toNat ((↑(List.length (List.take n (List.drop o L))) : Int) - Prod.fst y9) < Int.toNat ((↑(List.length (List.take n (List.drop o L))) : Int) - Prod.fst x2)) ∧ (¬Prod.fst x2 < z0 → K (Sum.inl (Sum.inl (Sum.inr (Sum.inr (Sum.inr (Sum.inr (Sum.inr (Sum.inr (Sum.inl (IntKind.u64, Prod.snd x2)))))))))) { heap := [], ints := [], opqs := (0 : Nat), arrs := [some { elem := OfNat.ofNat (5 : Nat), k := AK.n IntKind.u8, l := L, cap := cap, ro := false }], junks := (0 : Nat) })) := by kernel_rfl
end Go.Proofs.YtlfigaddddncmaaDoor
end

section
set_option linter.unusedVariables false
set_option linter.unusedSimpArgs false
namespace Go.Proofs.YtlfigaddddncmaaDoor
open Go Reck

theorem wrapS64 (n : Int) : IntKind.wrap .i64 n = (n + 9223372036854775808) % 18446744073709551616 - 9223372036854775808 := by
  simp [IntKind.wrap, IntKind.signed, IntKind.bits, Int.bmod]
  split <;> omega
theorem by_mem' {L : List Int} (h : U.By L) : ∀ x ∈ L, 0 ≤ x ∧ x < 256 := by
  obtain ⟨cs, rfl, hc⟩ := h
  intro x hx
  obtain ⟨c, hc', rfl⟩ := List.mem_map.1 hx
  have := hc c hc'
  omega
theorem be_length : ∀ (k v : Nat), (be k v).length = k
  | 0, _ => rfl
  | k + 1, v => by simp [be, be_length k v]
theorem be_lt : ∀ (k v : Nat), ∀ c ∈ be k v, c < 256
  | 0, _, c, h => by simp [be] at h
  | k + 1, v, c, h => by
    simp only [be, List.mem_cons] at h
    rcases h with rfl | h
    · omega
    · exact be_lt k v c h
theorem vb_snoc (l : List Int) (c : Int) : U.vb (l ++ [c]) = (U.vb l * 256 + c) % 18446744073709551616 := by
  unfold U.vb
  rw [List.foldl_append]
  simp only [List.foldl_cons, List.foldl_nil]
  omega
/-- What bytes say, from the first on. -/
def vbN (l : List Nat) : Nat := l.foldl (fun a c => a * 256 + c) 0
theorem vbN_cast (l : List Nat) (a : Nat) : (nz l).foldl (fun (a : Int) c => a * 256 + c) a = ((l.foldl (fun a c => a * 256 + c) a : Nat) : Int) := by
  induction l generalizing a with
  | nil => rfl
  | cons c l ih =>
    simp only [nz, List.map_cons, List.foldl_cons] at ih ⊢
    rw [← ih]; congr 1
theorem foldl_be : ∀ (k v a : Nat), (be k v).foldl (fun a c => a * 256 + c) a = a * 256 ^ k + v % 256 ^ k
  | 0, v, a => by simp [be, Nat.mod_one]
  | k + 1, v, a => by
    simp only [be, List.foldl_cons]
    rw [foldl_be k v]
    have h1 : v % 256 ^ (k + 1) = v % 256 ^ k + 256 ^ k * (v / 256 ^ k % 256) := by rw [Nat.pow_succ, Nat.mod_mul]
    rw [h1, Nat.add_mul, Nat.pow_succ]
    rw [Nat.mul_assoc a 256, Nat.mul_comm 256 (256 ^ k), Nat.mul_comm (v / 256 ^ k % 256)]
    omega
theorem vb_be (k v : Nat) (hk : k ≤ 8) : U.vb (nz (be k v)) = ((v % 256 ^ k : Nat) : Int) := by
  unfold U.vb
  have h := vbN_cast (be k v) 0
  rw [foldl_be] at h
  rw [show ((0 : Nat) : Int) = 0 from rfl] at h
  rw [h]
  have h1 : 256 ^ k ≤ 256 ^ 8 := Nat.pow_le_pow_right (by decide) hk
  have h2 : v % 256 ^ k < 256 ^ k := Nat.mod_lt _ (Nat.pow_pos (by decide))
  have h3 : (256 : Nat) ^ 8 = 18446744073709551616 := by decide
  omega
theorem vb_nb (n v : Int) (hn : 0 ≤ n ∧ n ≤ 8) (hv : 0 ≤ v ∧ v < 256 ^ n.toNat) : U.vb (U.nb n v) = v := by
  unfold U.nb
  rw [vb_be _ _ (by omega)]
  have h2 : ((256 ^ n.toNat : Nat) : Int) = 256 ^ n.toNat := by simp
  have : v.toNat % 256 ^ n.toNat = v.toNat := Nat.mod_eq_of_lt (by omega)
  omega
theorem nb_length (n v : Int) : (U.nb n v).length = n.toNat := by unfold U.nb; rw [nz_length, be_length]
theorem nb_by (n v : Int) : U.By (U.nb n v) := ⟨be n.toNat v.toNat, rfl, be_lt _ _⟩
/-- Bits are bytes. -/
theorem num_be : ∀ (k v : Nat), num (8 * k) v = nums 8 (be k v)
  | 0, v => by simp [num, nums, be]
  | k + 1, v => by
    have e : nums 8 (be (k + 1) v) = num 8 (v / 256 ^ k % 256) ++ nums 8 (be k v) := by simp [nums, be]
    rw [e, ← num_be k v]
    have hl1 : (num (8 * (k + 1)) v).length = 8 * (k + 1) := num_length _ _
    apply List.ext_getElem
    · rw [List.length_append, num_length, num_length, num_length]; omega
    · intro i h1 h2
      have g1 : (num (8 * (k + 1)) v).getD i false = (num 8 (v / 256 ^ k % 256) ++ num (8 * k) v).getD i false := by
        rw [getD_num, if_pos (by omega)]
        by_cases hi : i < 8
        · rw [Rd.getD_app_l (by rw [num_length]; exact hi), getD_num, if_pos hi]
          have h256 : (256 : Nat) ^ k = 2 ^ (8 * k) := by rw [Nat.pow_mul]
          have hm : (256 : Nat) = 2 ^ 8 := by decide
          rw [h256, hm, Nat.testBit_mod_two_pow, Nat.testBit_div_two_pow]
          have : 8 - 1 - i < 8 := by omega
          simp only [this, decide_true, Bool.true_and]
          congr 1; omega
        · rw [List.getD_eq_getElem?_getD, List.getElem?_append_right (by rw [num_length]; omega), ← List.getD_eq_getElem?_getD, num_length, getD_num, if_pos (by omega)]
          congr 1; omega
      rw [List.getD_eq_getElem?_getD, List.getD_eq_getElem?_getD, List.getElem?_eq_getElem h1, List.getElem?_eq_getElem h2] at g1
      simpa using g1
theorem nums_app (a b : List Nat) : nums 8 (a ++ b) = nums 8 a ++ nums 8 b := by simp [nums]
/-- Bytes of which the bits are told. -/
theorem out_bytes {L : List Int} {N : Int} {cs : List Nat} (h : U.Out L N (nums 8 cs)) (hc : ∀ c ∈ cs, c < 256) : L = nz cs := by
  obtain ⟨ds, rfl, hp, _⟩ := h
  congr 1
  refine hp.eq ⟨hc, by rw [nums_length]; omega, fun i => (Rd.nums_get cs i).symm⟩

theorem num_run (K : AV → St → Prop) (n v : Int) (hn : 0 ≤ n ∧ n ≤ 1000) (hv : 0 ≤ v ∧ v ≤ 18446744073709551615) (h : ∀ (m : Nat), (m : Int) = n → K (cell (aslC ⟨0, 0, m, m⟩)) (ar [bs (U.nb n v) m false])) :
    runI invR1 tbl0 35 [xi .i64 n, xi .u64 v] emptySt K := by
  rw [num_vc]
  refine ⟨⟨hn.1, Int.le_refl _, by omega⟩, fun n0 m1 l2 e0 e1 e2 z3 h3 => ?_⟩
  have hm : m1 = n0 := by omega
  subst hm
  rw [wrapS64] at h3
  refine ⟨⟨(z3, v, l2), rfl, rfl, ⟨rfl, rfl, rfl⟩, rfl, rfl, ⟨rfl, rfl, rfl⟩, rfl, rfl, ⟨rfl, rfl, rfl⟩, ⟨0, by dsimp only; omega, Nat.zero_le _, by simp, by simp [e2, be, nz]⟩⟩, ?_⟩
  rintro ⟨i, w, L⟩ ⟨k, hi, hk, hw, hL⟩
  dsimp only at hi hk hw hL ⊢
  have hp : (0 : Int) < 256 ^ k := Int.pow_pos (by decide)
  have hw0 : 0 ≤ w := by rw [hw]; exact Int.ediv_nonneg hv.1 (by omega)
  have hw1 : w ≤ v := by rw [hw]; exact Int.ediv_le_self _ hv.1
  refine ⟨fun hlt => ⟨by decide, fun z6 h6 z7 h7 => ⟨⟨hlt, by omega⟩, fun j8 h8 => ⟨?_, fun l9 h9 => ⟨by decide, fun z10 h10 z11 h11 => ?_⟩⟩⟩⟩, fun hge => ?_⟩
  · have h8 : (j8 : Int) = 0 + i := h8
    rw [hL, List.length_append, List.length_replicate, nz_length, be_length]; omega
  · have h8 : (j8 : Int) = 0 + i := h8
    rw [wrapU8] at h7
    rw [wrapU64] at h10
    rw [wrapS64] at h11
    have t1 : Int.tmod w 256 = w % 256 := Int.tmod_eq_emod_of_nonneg hw0
    have t2 : Int.tdiv w 256 = w / 256 := Int.tdiv_eq_ediv_of_nonneg hw0
    rw [t1] at h6
    rw [t2] at h10
    have e7 : z7 = w % 256 := by omega
    have e10 : z10 = w / 256 := by omega
    refine ⟨(z11, z10, l9), rfl, rfl, ⟨rfl, rfl, rfl⟩, rfl, rfl, ⟨rfl, rfl, rfl⟩, rfl, rfl, ⟨rfl, rfl, rfl⟩, ⟨k + 1, by dsimp only; omega, by omega, ?_, ?_⟩, by dsimp only; omega⟩
    · dsimp only
      rw [e10, hw, Int.ediv_ediv_of_nonneg (by omega), Int.pow_succ]
    · dsimp only
      have ej : j8 = m1 - k - 1 := by omega
      obtain ⟨r, hr⟩ : ∃ r, m1 - k = r + 1 := ⟨m1 - k - 1, by omega⟩
      rw [h9, hL, hr, List.replicate_succ', List.append_assoc, ej, show m1 - k - 1 = r by omega, show m1 - (k + 1) = r by omega]
      rw [List.set_append_right _ _ (by simp)]
      simp only [List.length_replicate, Nat.sub_self, List.cons_append, List.nil_append, List.set_cons_zero]
      congr 1
      simp only [be, nz, List.map_cons]
      congr 1
      rw [e7, hw]
      obtain ⟨x, rfl⟩ : ∃ x : Nat, v = x := ⟨v.toNat, by omega⟩
      simp
  · have : k = m1 := by omega
    subst this
    have := h k e0
    rw [hL, Nat.sub_self, List.replicate_zero, List.nil_append]
    have e : U.nb n v = nz (be k v.toNat) := by unfold U.nb; rw [show n.toNat = k by omega]
    rw [← e]; exact this
theorem valT_run (K : AV → St → Prop) (L : List Int) (o n c cap : Nat) (hB : U.By L) (hn : o + n ≤ L.length) (hl : n ≤ 16777216) (h : K (xi .u64 (U.vb ((L.drop o).take n))) (ar [bs L cap true])) :
    runI invR1 tbl0 36 [cell (aslC ⟨0, o, n, c⟩)] (ar [bs L cap true]) K := by
  rw [valT_vc]
  have hlen : ((L.drop o).take n).length = n := by rw [List.length_take, List.length_drop]; omega
  intro z0 h0
  refine ⟨⟨(0, 0), ⟨rfl, rfl, rfl⟩, rfl, ⟨rfl, rfl, rfl⟩, rfl, rfl, ⟨rfl, rfl, rfl⟩, ⟨0, rfl, Nat.zero_le _, by simp [U.vb]⟩⟩, ?_⟩
  rintro ⟨i, v⟩ ⟨j, hi, hj, hv⟩
  dsimp only at hi hj hv ⊢
  refine ⟨fun hlt => ⟨⟨by omega, by omega⟩, fun j3 h3 => ⟨by omega, fun z4 h4 z5 h5 z6 h6 z7 h7 z8 h8 => ?_⟩⟩, fun hge => ?_⟩
  · have e3 : j3 = o + j := by omega
    have hjn : j < n := by omega
    rw [wrapU64] at h5 h6 h7
    rw [wrapS64] at h8
    have hb : 0 ≤ z4 ∧ z4 < 256 := by
      rw [h4, List.getD_eq_getElem?_getD, List.getElem?_eq_getElem (by omega)]
      exact by_mem' hB _ (List.getElem_mem _)
    have hget : ((L.drop o).take n)[j]? = some z4 := by
      rw [List.getElem?_take, if_pos hjn, List.getElem?_drop, ← e3, h4, List.getD_eq_getElem?_getD, List.getElem?_eq_getElem (by omega)]; rfl
    refine ⟨(z8, z7), ⟨rfl, rfl, rfl⟩, rfl, ⟨rfl, rfl, rfl⟩, rfl, rfl, ⟨rfl, rfl, rfl⟩, ⟨j + 1, by omega, by omega, ?_⟩, by dsimp only; omega⟩
    dsimp only
    rw [List.take_add_one, hget]
    simp only [Option.toList_some]
    rw [vb_snoc, ← hv]
    omega
  · have : j = n := by omega
    subst this
    rw [List.take_of_length_le (by omega)] at hv
    rw [hv]; exact h
theorem valF_run (K : AV → St → Prop) (L : List Int) (o n c cap : Nat) (hB : U.By L) (hn : o + n ≤ L.length) (hl : n ≤ 16777216) (h : K (xi .u64 (U.vb ((L.drop o).take n))) (ar [bs L cap false])) :
    runI invR1 tbl0 36 [cell (aslC ⟨0, o, n, c⟩)] (ar [bs L cap false]) K := by
  rw [valF_vc]
  have hlen : ((L.drop o).take n).length = n := by rw [List.length_take, List.length_drop]; omega
  intro z0 h0
  refine ⟨⟨(0, 0), ⟨rfl, rfl, rfl⟩, rfl, ⟨rfl, rfl, rfl⟩, rfl, rfl, ⟨rfl, rfl, rfl⟩, ⟨0, rfl, Nat.zero_le _, by simp [U.vb]⟩⟩, ?_⟩
  rintro ⟨i, v⟩ ⟨j, hi, hj, hv⟩
  dsimp only at hi hj hv ⊢
  refine ⟨fun hlt => ⟨⟨by omega, by omega⟩, fun j3 h3 => ⟨by omega, fun z4 h4 z5 h5 z6 h6 z7 h7 z8 h8 => ?_⟩⟩, fun hge => ?_⟩
  · have e3 : j3 = o + j := by omega
    have hjn : j < n := by omega
    rw [wrapU64] at h5 h6 h7
    rw [wrapS64] at h8
    have hb : 0 ≤ z4 ∧ z4 < 256 := by
      rw [h4, List.getD_eq_getElem?_getD, List.getElem?_eq_getElem (by omega)]
      exact by_mem' hB _ (List.getElem_mem _)
    have hget : ((L.drop o).take n)[j]? = some z4 := by
      rw [List.getElem?_take, if_pos hjn, List.getElem?_drop, ← e3, h4, List.getD_eq_getElem?_getD, List.getElem?_eq_getElem (by omega)]; rfl
    refine ⟨(z8, z7), ⟨rfl, rfl, rfl⟩, rfl, ⟨rfl, rfl, rfl⟩, rfl, rfl, ⟨rfl, rfl, rfl⟩, ⟨j + 1, by omega, by omega, ?_⟩, by dsimp only; omega⟩
    dsimp only
    rw [List.take_add_one, hget]
    simp only [Option.toList_some]
    rw [vb_snoc, ← hv]
    omega
  · have : j = n := by omega
    subst this
    rw [List.take_of_length_le (by omega)] at hv
    rw [hv]; exact h

def tNum : Tbl := fun f args σ => if f == 35 then match args, σ with
    | [n, v], ⟨[], [], 0, [], 0⟩ => match xiX n, xiX v with
      | some (.i64, n), some (.u64, v) => some fun K => ((0 ≤ n ∧ n ≤ 1000) ∧ 0 ≤ v ∧ v ≤ 18446744073709551615) ∧ ∀ (m : Nat) (L : List Int), (m : Int) = n → L = U.nb n v → K (cell (aslC ⟨0, 0, m, m⟩)) (ar [bs L m false])
      | _, _ => none
    | _, _ => none
  else none
theorem tNum_ok : TblOk Tryd.prog tNum := by
  intro f tm σ C h K hK
  unfold tNum at h
  split at h
  · rename_i hf
    obtain rfl : f = 35 := by simpa using hf
    split at h
    · split at h
      · rename_i n v hn hv
        obtain rfl := xiX_eq hn
        obtain rfl := xiX_eq hv
        simp only [Option.some.injEq] at h; subst h
        exact knownC noOv names (conOk_of tbl0_ok) (num_run K n v hK.1.1 hK.1.2 (fun m hm => hK.2 m _ hm rfl))
      · cases h
    · cases h
  · cases h
def tVal : Tbl := fun f args σ => if f == 36 then match args, σ with
    | [s], ⟨[], [], 0, [some ⟨5, .n .u8, L, cap, ro⟩], 0⟩ => match aslX s with
      | some ⟨0, o, n, c⟩ => some fun K => (U.By L ∧ o + n ≤ L.length ∧ n ≤ 16777216) ∧ ∀ z : Int, z = U.vb ((L.drop o).take n) → K (xi .u64 z) (ar [bs L cap ro])
      | _ => none
    | _, _ => none
  else none
theorem tVal_ok : TblOk Tryd.prog tVal := by
  intro f tm σ C h K hK
  unfold tVal at h
  split at h
  · rename_i hf
    obtain rfl : f = 36 := by simpa using hf
    split at h
    · rename_i s L cap ro
      split at h
      · rename_i o n c hs
        obtain rfl := aslX_eq hs
        simp only [Option.some.injEq] at h; subst h
        cases ro with
        | true => exact knownC noOv names (conOk_of tbl0_ok) (valT_run K L o n c cap hK.1.1 hK.1.2.1 hK.1.2.2 (hK.2 _ rfl))
        | false => exact knownC noOv names (conOk_of tbl0_ok) (valF_run K L o n c cap hK.1.1 hK.1.2.1 hK.1.2.2 (hK.2 _ rfl))
      · cases h
    · cases h
  · cases h
def tR2 : Tbl := tblOr tNum tVal
theorem tR2_ok : TblOk Tryd.prog tR2 := tblOr_ok tNum_ok tVal_ok
end Go.Proofs.YtlfigaddddncmaaDoor
end
