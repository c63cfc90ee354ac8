/- Parts of a proof, one behind the other: B5 B6 B7 B8 B9 BX. No condition. -/
import Derived.Test.YtdpcahblhjbgjaaDoorGA
section
namespace Go.Proofs.YtdpcahblhjbgjaaDoor
open Go Reck
set_option linter.unusedVariables false
def tB4 : Tbl := tblOr tB2 (tblOr tAdd (tblOr tClone tNew0))
theorem tB4_ok : TblOk Tryd.prog tB4 := tblOr_ok tB2_ok (tblOr_ok tAdd_ok (tblOr_ok tClone_ok tNew0_ok))
structure U.bytI (L0 : List Int) (N0 : Int) (B : List Int) (o n : Nat) (k : Int) (L : List Int) (c cap : Nat) (N : Int) : Prop where
  out : ∃ (l0 : List Bool) (j : Nat), k = j ∧ j ≤ n ∧ U.Out L0 N0 l0 ∧ U.Out L N (l0 ++ nums 8 ((((B.drop o).take n).take j).map Int.toNat)) ∧ c ≤ cap ∧ L.length ≤ c ∧ N = N0 + 8 * k
/-- The bytes of a part are appended to an Out that is in slot 0. -/
def bytesInv (c : Code) (tm : List AV) (σ : St) : Inv where
  X := Int × List Int × Nat × Nat × Int
  tags := [0]
  tag _ _ := 0
  J := wrBut [40] c
  val _ x := [(40, xi .i64 x.1)]
  st _ x σ' := ⟨setCells σ' (ptrB 0 tm) [aslC ⟨σ.arrs.length, 0, x.2.1.length, x.2.2.1⟩, xintC .i64 x.2.2.2.2], σ'.ints, σ'.opqs, σ'.arrs.take σ.arrs.length ++ [some ⟨5, .n .u8, x.2.1, x.2.2.2.1, false⟩], σ'.junks⟩
  I _ x := U.bytI (cellL (cellAt 0 0 tm σ) σ) (cellI (cellAt 0 1 tm σ)) (slotA tm 38 σ) (slotS tm 38).o (slotS tm 38).n x.1 x.2.1 x.2.2.1 x.2.2.2.1 x.2.2.2.2
  m _ x := ((slotS tm 38).n - x.1).toNat
  ren tm' σ' := ([], cellA (cellAt 0 0 tm' σ'))
structure U.never : Prop where
  out : False
/-- A loop that is never come to. -/
def neverInv (c : Code) (tm : List AV) : Inv where
  X := Nat
  tags := [0]
  tag _ _ := 0
  J := wrBut [] c
  val _ _ := []
  st _ _ σ' := σ'
  I _ _ := U.never
  m _ _ := 0
  ren := noRen
def invB5 : InvF := fun c tm σ => match tm.length, firstReg c with
  | 50, some 15 => if isAsl (tm.getD 38 (lit undef)) then some (bytesInv c tm σ) else none
  | 65, some 7 => some (neverInv c tm)
  | _, _ => invB3 c tm σ
set_option maxRecDepth 100000
theorem done_vc (K : AV → St → Prop) (L : List Int) (m c cap : Nat) (N : Int) : (runI invB5 tB4 65 [ptr 0 0] (outSt L m c cap N) K) = ((OfNat.ofNat (0 : Nat) + m ≤ List.length L ∧ m ≤ (16777216 : Nat)) ∧ ∀ (L'0 : List Int) (c'1 cap'2 : Nat), L'0 = List.take m (List.drop (OfNat.ofNat (0 : Nat)) L) → m ≤ c'1 → c'1 ≤ cap'2 → K (Sum.inl (Sum.inl (Sum.inr (Sum.inr (Sum.inr (Sum.inr (Sum.inr (Sum.inr (Sum.inr (Sum.inl { a := (1 : Nat), o := OfNat.ofNat (0 : Nat), n := m, c := c'1 })))))))))) { heap := [some { elem := nat_lit 114, cells := [Sum.inr (Sum.inr (Sum.inr (Sum.inr (Sum.inr (Sum.inr (Sum.inr (Sum.inl { a := OfNat.ofNat (0 : Nat), o := OfNat.ofNat (0 : Nat), n := m, c := c }))))))), Sum.inr (Sum.inr (Sum.inr (Sum.inr (Sum.inr (Sum.inr (Sum.inl (IntKind.i64, N)))))))], j := none, c := OfNat.ofNat (2 : Nat), z := false }], ints := [], opqs := (0 : Nat), arrs := [some { elem := OfNat.ofNat (5 : Nat), k := AK.n IntKind.u8, l := L, cap := cap, ro := false }, some { elem := OfNat.ofNat (5 : Nat), k := AK.n IntKind.u8, l := L'0, cap := cap'2, ro := false }], junks := (0 : Nat) }) := by kernel_rfl
theorem bits1_vc (K : AV → St → Prop) (L : List Int) (m c cap : Nat) (N n u : Int) : (runI invB5 tB4 64 [ptr 0 0, xi .i64 n, sl ⟨1, 0, 1, none, 1⟩] ⟨[outB (aslC ⟨0, 0, m, c⟩) N, some ⟨27, [xintC .u64 u], none, 1, false⟩], [], 0, [some (bs L cap false)], 0⟩ K) = (((1 : Int) ≤ n → (n ≤ (64 : Int) → ∀ (z0 : Int), z0 = IntKind.wrap IntKind.i64 ((524288 : Int) - N) → ¬n = (0 : Int) ∧ ∀ (z1 : Int), z1 = IntKind.wrap IntKind.i64 (Int.tdiv z0 n) → (z1 < (1 : Int) → K (Sum.inl (Sum.inl (Sum.inr (Sum.inr (Sum.inr (Sum.inr (Sum.inr (Sum.inr (Sum.inl (IntKind.i64, (4 : Int))))))))))) { heap := [some { elem := nat_lit 114, cells := [Sum.inr (Sum.inr (Sum.inr (Sum.inr (Sum.inr (Sum.inr (Sum.inr (Sum.inl { a := OfNat.ofNat (0 : Nat), o := OfNat.ofNat (0 : Nat), n := m, c := c }))))))), Sum.inr (Sum.inr (Sum.inr (Sum.inr (Sum.inr (Sum.inr (Sum.inl (IntKind.i64, N)))))))], j := none, c := OfNat.ofNat (2 : Nat), z := false }, some { elem := nat_lit 27, cells := [Sum.inr (Sum.inr (Sum.inr (Sum.inr (Sum.inr (Sum.inr (Sum.inl (IntKind.u64, u)))))))], j := none, c := OfNat.ofNat (1 : Nat), z := false }], ints := [], opqs := (0 : Nat), arrs := [some { elem := OfNat.ofNat (5 : Nat), k := AK.n IntKind.u8, l := L, cap := cap, ro := false }], junks := (0 : Nat) }) ∧ (¬z1 < (1 : Int) → ∃ (y2 : List Bool), (U.Out L N y2 ∧ m = List.length L ∧ c ≤ cap ∧ m ≤ c ∧ ((1 : Int) ≤ n ∧ n ≤ (64 : Int)) ∧ N + n ≤ (524288 : Int) ∧ (0 : Int) ≤ u ∧ u ≤ (18446744073709551615 : Int)) ∧ ∀ (L'3 : List Int) (m'4 c'5 cap'6 : Nat) (N'7 : Int), U.Out L'3 N'7 (U.app y2 n u) → N'7 = N + n → m'4 = List.length L'3 → c'5 ≤ cap'6 → m'4 ≤ c'5 → K (Sum.inl (Sum.inl (Sum.inr (Sum.inr (Sum.inr (Sum.inr (Sum.inr (Sum.inr (Sum.inl (IntKind.i64, (0 : Int))))))))))) { heap := [some { elem := nat_lit 114, cells := [Sum.inr (Sum.inr (Sum.inr (Sum.inr (Sum.inr (Sum.inr (Sum.inr (Sum.inl { a := (1 : Nat), o := OfNat.ofNat (0 : Nat), n := m'4, c := c'5 }))))))), Sum.inr (Sum.inr (Sum.inr (Sum.inr (Sum.inr (Sum.inr (Sum.inl (IntKind.i64, N'7)))))))], j := none, c := OfNat.ofNat (2 : Nat), z := false }, some { elem := nat_lit 27, cells := [Sum.inr (Sum.inr (Sum.inr (Sum.inr (Sum.inr (Sum.inr (Sum.inl (IntKind.u64, u)))))))], j := none, c := OfNat.ofNat (1 : Nat), z := false }], ints := [], opqs := (0 : Nat), arrs := [none, some { elem := OfNat.ofNat (5 : Nat), k := AK.n IntKind.u8, l := L'3, cap := cap'6, ro := false }], junks := (0 : Nat) })) ∧ (¬n ≤ (64 : Int) → K (Sum.inl (Sum.inl (Sum.inr (Sum.inr (Sum.inr (Sum.inr (Sum.inr (Sum.inr (Sum.inl (IntKind.i64, (1 : Int))))))))))) { heap := [some { elem := nat_lit 114, cells := [Sum.inr (Sum.inr (Sum.inr (Sum.inr (Sum.inr (Sum.inr (Sum.inr (Sum.inl { a := OfNat.ofNat (0 : Nat), o := OfNat.ofNat (0 : Nat), n := m, c := c }))))))), Sum.inr (Sum.inr (Sum.inr (Sum.inr (Sum.inr (Sum.inr (Sum.inl (IntKind.i64, N)))))))], j := none, c := OfNat.ofNat (2 : Nat), z := false }, some { elem := nat_lit 27, cells := [Sum.inr (Sum.inr (Sum.inr (Sum.inr (Sum.inr (Sum.inr (Sum.inl (IntKind.u64, u)))))))], j := none, c := OfNat.ofNat (1 : Nat), z := false }], ints := [], opqs := (0 : Nat), arrs := [some { elem := OfNat.ofNat (5 : Nat), k := AK.n IntKind.u8, l := L, cap := cap, ro := false }], junks := (0 : Nat) })) ∧ (¬(1 : Int) ≤ n → K (Sum.inl (Sum.inl (Sum.inr (Sum.inr (Sum.inr (Sum.inr (Sum.inr (Sum.inr (Sum.inl (IntKind.i64, (1 : Int))))))))))) { heap := [some { elem := nat_lit 114, cells := [Sum.inr (Sum.inr (Sum.inr (Sum.inr (Sum.inr (Sum.inr (Sum.inr (Sum.inl { a := OfNat.ofNat (0 : Nat), o := OfNat.ofNat (0 : Nat), n := m, c := c }))))))), Sum.inr (Sum.inr (Sum.inr (Sum.inr (Sum.inr (Sum.inr (Sum.inl (IntKind.i64, N)))))))], j := none, c := OfNat.ofNat (2 : Nat), z := false }, some { elem := nat_lit 27, cells := [Sum.inr (Sum.inr (Sum.inr (Sum.inr (Sum.inr (Sum.inr (Sum.inl (IntKind.u64, u)))))))], j := none, c := OfNat.ofNat (1 : Nat), z := false }], ints := [], opqs := (0 : Nat), arrs := [some { elem := OfNat.ofNat (5 : Nat), k := AK.n IntKind.u8, l := L, cap := cap, ro := false }], junks := (0 : Nat) })) := by kernel_rfl
theorem bits2_vc (K : AV → St → Prop) (L : List Int) (m c cap : Nat) (N n u v : Int) : (runI invB5 tB4 64 [ptr 0 0, xi .i64 n, sl ⟨1, 0, 2, none, 2⟩] ⟨[outB (aslC ⟨0, 0, m, c⟩) N, some ⟨27, [xintC .u64 u, xintC .u64 v], none, 2, false⟩], [], 0, [some (bs L cap false)], 0⟩ K) = (((1 : Int) ≤ n → (n ≤ (64 : Int) → ∀ (z0 : Int), z0 = IntKind.wrap IntKind.i64 ((524288 : Int) - N) → ¬n = (0 : Int) ∧ ∀ (z1 : Int), z1 = IntKind.wrap IntKind.i64 (Int.tdiv z0 n) → (z1 < (2 : Int) → K (Sum.inl (Sum.inl (Sum.inr (Sum.inr (Sum.inr (Sum.inr (Sum.inr (Sum.inr (Sum.inl (IntKind.i64, (4 : Int))))))))))) { heap := [some { elem := nat_lit 114, cells := [Sum.inr (Sum.inr (Sum.inr (Sum.inr (Sum.inr (Sum.inr (Sum.inr (Sum.inl { a := OfNat.ofNat (0 : Nat), o := OfNat.ofNat (0 : Nat), n := m, c := c }))))))), Sum.inr (Sum.inr (Sum.inr (Sum.inr (Sum.inr (Sum.inr (Sum.inl (IntKind.i64, N)))))))], j := none, c := OfNat.ofNat (2 : Nat), z := false }, some { elem := nat_lit 27, cells := [Sum.inr (Sum.inr (Sum.inr (Sum.inr (Sum.inr (Sum.inr (Sum.inl (IntKind.u64, u))))))), Sum.inr (Sum.inr (Sum.inr (Sum.inr (Sum.inr (Sum.inr (Sum.inl (IntKind.u64, v)))))))], j := none, c := OfNat.ofNat (2 : Nat), z := false }], ints := [], opqs := (0 : Nat), arrs := [some { elem := OfNat.ofNat (5 : Nat), k := AK.n IntKind.u8, l := L, cap := cap, ro := false }], junks := (0 : Nat) }) ∧ (¬z1 < (2 : Int) → ∃ (y2 : List Bool), (U.Out L N y2 ∧ m = List.length L ∧ c ≤ cap ∧ m ≤ c ∧ ((1 : Int) ≤ n ∧ n ≤ (64 : Int)) ∧ N + n ≤ (524288 : Int) ∧ (0 : Int) ≤ u ∧ u ≤ (18446744073709551615 : Int)) ∧ ∀ (L'3 : List Int) (m'4 c'5 cap'6 : Nat) (N'7 : Int), U.Out L'3 N'7 (U.app y2 n u) → N'7 = N + n → m'4 = List.length L'3 → c'5 ≤ cap'6 → m'4 ≤ c'5 → ∃ (y8 : List Bool), (U.Out L'3 N'7 y8 ∧ m'4 = List.length L'3 ∧ c'5 ≤ cap'6 ∧ m'4 ≤ c'5 ∧ ((1 : Int) ≤ n ∧ n ≤ (64 : Int)) ∧ N'7 + n ≤ (524288 : Int) ∧ (0 : Int) ≤ v ∧ v ≤ (18446744073709551615 : Int)) ∧ ∀ (L'9 : List Int) (m'10 c'11 cap'12 : Nat) (N'13 : Int), U.Out L'9 N'13 (U.app y8 n v) → N'13 = N'7 + n → m'10 = List.length L'9 → c'11 ≤ cap'12 → m'10 ≤ c'11 → K (Sum.inl (Sum.inl (Sum.inr (Sum.inr (Sum.inr (Sum.inr (Sum.inr (Sum.inr (Sum.inl (IntKind.i64, (0 : Int))))))))))) { heap := [some { elem := nat_lit 114, cells := [Sum.inr (Sum.inr (Sum.inr (Sum.inr (Sum.inr (Sum.inr (Sum.inr (Sum.inl { a := (1 : Nat), o := OfNat.ofNat (0 : Nat), n := m'10, c := c'11 }))))))), Sum.inr (Sum.inr (Sum.inr (Sum.inr (Sum.inr (Sum.inr (Sum.inl (IntKind.i64, N'13)))))))], j := none, c := OfNat.ofNat (2 : Nat), z := false }, some { elem := nat_lit 27, cells := [Sum.inr (Sum.inr (Sum.inr (Sum.inr (Sum.inr (Sum.inr (Sum.inl (IntKind.u64, u))))))), Sum.inr (Sum.inr (Sum.inr (Sum.inr (Sum.inr (Sum.inr (Sum.inl (IntKind.u64, v)))))))], j := none, c := OfNat.ofNat (2 : Nat), z := false }], ints := [], opqs := (0 : Nat), arrs := [none, some { elem := OfNat.ofNat (5 : Nat), k := AK.n IntKind.u8, l := L'9, cap := cap'12, ro := false }], junks := (0 : Nat) })) ∧ (¬n ≤ (64 : Int) → K (Sum.inl (Sum.inl (Sum.inr (Sum.inr (Sum.inr (Sum.inr (Sum.inr (Sum.inr (Sum.inl (IntKind.i64, (1 : Int))))))))))) { heap := [some { elem := nat_lit 114, cells := [Sum.inr (Sum.inr (Sum.inr (Sum.inr (Sum.inr (Sum.inr (Sum.inr (Sum.inl { a := OfNat.ofNat (0 : Nat), o := OfNat.ofNat (0 : Nat), n := m, c := c }))))))), Sum.inr (Sum.inr (Sum.inr (Sum.inr (Sum.inr (Sum.inr (Sum.inl (IntKind.i64, N)))))))], j := none, c := OfNat.ofNat (2 : Nat), z := false }, some { elem := nat_lit 27, cells := [Sum.inr (Sum.inr (Sum.inr (Sum.inr (Sum.inr (Sum.inr (Sum.inl (IntKind.u64, u))))))), Sum.inr (Sum.inr (Sum.inr (Sum.inr (Sum.inr (Sum.inr (Sum.inl (IntKind.u64, v)))))))], j := none, c := OfNat.ofNat (2 : Nat), z := false }], ints := [], opqs := (0 : Nat), arrs := [some { elem := OfNat.ofNat (5 : Nat), k := AK.n IntKind.u8, l := L, cap := cap, ro := false }], junks := (0 : Nat) })) ∧ (¬(1 : Int) ≤ n → K (Sum.inl (Sum.inl (Sum.inr (Sum.inr (Sum.inr (Sum.inr (Sum.inr (Sum.inr (Sum.inl (IntKind.i64, (1 : Int))))))))))) { heap := [some { elem := nat_lit 114, cells := [Sum.inr (Sum.inr (Sum.inr (Sum.inr (Sum.inr (Sum.inr (Sum.inr (Sum.inl { a := OfNat.ofNat (0 : Nat), o := OfNat.ofNat (0 : Nat), n := m, c := c }))))))), Sum.inr (Sum.inr (Sum.inr (Sum.inr (Sum.inr (Sum.inr (Sum.inl (IntKind.i64, N)))))))], j := none, c := OfNat.ofNat (2 : Nat), z := false }, some { elem := nat_lit 27, cells := [Sum.inr (Sum.inr (Sum.inr (Sum.inr (Sum.inr (Sum.inr (Sum.inl (IntKind.u64, u))))))), Sum.inr (Sum.inr (Sum.inr (Sum.inr (Sum.inr (Sum.inr (Sum.inl (IntKind.u64, v)))))))], j := none, c := OfNat.ofNat (2 : Nat), z := false }], ints := [], opqs := (0 : Nat), arrs := [some { elem := OfNat.ofNat (5 : Nat), k := AK.n IntKind.u8, l := L, cap := cap, ro := false }], junks := (0 : Nat) })) := by kernel_rfl
theorem bits3_vc (K : AV → St → Prop) (L : List Int) (m c cap : Nat) (N n u v x : Int) : (runI invB5 tB4 64 [ptr 0 0, xi .i64 n, sl ⟨1, 0, 3, none, 3⟩] ⟨[outB (aslC ⟨0, 0, m, c⟩) N, some ⟨27, [xintC .u64 u, xintC .u64 v, xintC .u64 x], none, 3, false⟩], [], 0, [some (bs L cap false)], 0⟩ K) = (((1 : Int) ≤ n → (n ≤ (64 : Int) → ∀ (z0 : Int), z0 = IntKind.wrap IntKind.i64 ((524288 : Int) - N) → ¬n = (0 : Int) ∧ ∀ (z1 : Int), z1 = IntKind.wrap IntKind.i64 (Int.tdiv z0 n) → (z1 < (3 : Int) → K (Sum.inl (Sum.inl (Sum.inr (Sum.inr (Sum.inr (Sum.inr (Sum.inr (Sum.inr (Sum.inl (IntKind.i64, (4 : Int))))))))))) { heap := [some { elem := nat_lit 114, cells := [Sum.inr (Sum.inr (Sum.inr (Sum.inr (Sum.inr (Sum.inr (Sum.inr (Sum.inl { a := OfNat.ofNat (0 : Nat), o := OfNat.ofNat (0 : Nat), n := m, c := c }))))))), Sum.inr (Sum.inr (Sum.inr (Sum.inr (Sum.inr (Sum.inr (Sum.inl (IntKind.i64, N)))))))], j := none, c := OfNat.ofNat (2 : Nat), z := false }, some { elem := nat_lit 27, cells := [Sum.inr (Sum.inr (Sum.inr (Sum.inr (Sum.inr (Sum.inr (Sum.inl (IntKind.u64, u))))))), Sum.inr (Sum.inr (Sum.inr (Sum.inr (Sum.inr (Sum.inr (Sum.inl (IntKind.u64, v))))))), Sum.inr (Sum.inr (Sum.inr (Sum.inr (Sum.inr (Sum.inr (Sum.inl (IntKind.u64, x)))))))], j := none, c := OfNat.ofNat (3 : Nat), z := false }], ints := [], opqs := (0 : Nat), arrs := [some { elem := OfNat.ofNat (5 : Nat), k := AK.n IntKind.u8, l := L, cap := cap, ro := false }], junks := (0 : Nat) }) ∧ (¬z1 < (3 : Int) → ∃ (y2 : List Bool), (U.Out L N y2 ∧ m = List.length L ∧ c ≤ cap ∧ m ≤ c ∧ ((1 : Int) ≤ n ∧ n ≤ (64 : Int)) ∧ N + n ≤ (524288 : Int) ∧ (0 : Int) ≤ u ∧ u ≤ (18446744073709551615 : Int)) ∧ ∀ (L'3 : List Int) (m'4 c'5 cap'6 : Nat) (N'7 : Int), U.Out L'3 N'7 (U.app y2 n u) → N'7 = N + n → m'4 = List.length L'3 → c'5 ≤ cap'6 → m'4 ≤ c'5 → ∃ (y8 : List Bool), (U.Out L'3 N'7 y8 ∧ m'4 = List.length L'3 ∧ c'5 ≤ cap'6 ∧ m'4 ≤ c'5 ∧ ((1 : Int) ≤ n ∧ n ≤ (64 : Int)) ∧ N'7 + n ≤ (524288 : Int) ∧ (0 : Int) ≤ v ∧ v ≤ (18446744073709551615 : Int)) ∧ ∀ (L'9 : List Int) (m'10 c'11 cap'12 : Nat) (N'13 : Int), U.Out L'9 N'13 (U.app y8 n v) → N'13 = N'7 + n → m'10 = List.length L'9 → c'11 ≤ cap'12 → m'10 ≤ c'11 → ∃ (y14 : List Bool), (U.Out L'9 N'13 y14 ∧ m'10 = List.length L'9 ∧ c'11 ≤ cap'12 ∧ m'10 ≤ c'11 ∧ ((1 : Int) ≤ n ∧ n ≤ (64 : Int)) ∧ N'13 + n ≤ (524288 : Int) ∧ (0 : Int) ≤ x ∧ x ≤ (18446744073709551615 : Int)) ∧ ∀ (L'15 : List Int) (m'16 c'17 cap'18 : Nat) (N'19 : Int), U.Out L'15 N'19 (U.app y14 n x) → N'19 = N'13 + n → m'16 = List.length L'15 → c'17 ≤ cap'18 → m'16 ≤ c'17 → K (Sum.inl (Sum.inl (Sum.inr (Sum.inr (Sum.inr (Sum.inr (Sum.inr (Sum.inr (Sum.inl (IntKind.i64, (0 : Int))))))))))) { heap := [some { elem := nat_lit 114, cells := [Sum.inr (Sum.inr (Sum.inr (Sum.inr (Sum.inr (Sum.inr (Sum.inr (Sum.inl { a := (1 : Nat), o := OfNat.ofNat (0 : Nat), n := m'16, c := c'17 }))))))), Sum.inr (Sum.inr (Sum.inr (Sum.inr (Sum.inr (Sum.inr (Sum.inl (IntKind.i64, N'19)))))))], j := none, c := OfNat.ofNat (2 : Nat), z := false }, some { elem := nat_lit 27, cells := [Sum.inr (Sum.inr (Sum.inr (Sum.inr (Sum.inr (Sum.inr (Sum.inl (IntKind.u64, u))))))), Sum.inr (Sum.inr (Sum.inr (Sum.inr (Sum.inr (Sum.inr (Sum.inl (IntKind.u64, v))))))), Sum.inr (Sum.inr (Sum.inr (Sum.inr (Sum.inr (Sum.inr (Sum.inl (IntKind.u64, x)))))))], j := none, c := OfNat.ofNat (3 : Nat), z := false }], ints := [], opqs := (0 : Nat), arrs := [none, some { elem := OfNat.ofNat (5 : Nat), k := AK.n IntKind.u8, l := L'15, cap := cap'18, ro := false }], junks := (0 : Nat) })) ∧ (¬n ≤ (64 : Int) → K (Sum.inl (Sum.inl (Sum.inr (Sum.inr (Sum.inr (Sum.inr (Sum.inr (Sum.inr (Sum.inl (IntKind.i64, (1 : Int))))))))))) { heap := [some { elem := nat_lit 114, cells := [Sum.inr (Sum.inr (Sum.inr (Sum.inr (Sum.inr (Sum.inr (Sum.inr (Sum.inl { a := OfNat.ofNat (0 : Nat), o := OfNat.ofNat (0 : Nat), n := m, c := c }))))))), Sum.inr (Sum.inr (Sum.inr (Sum.inr (Sum.inr (Sum.inr (Sum.inl (IntKind.i64, N)))))))], j := none, c := OfNat.ofNat (2 : Nat), z := false }, some { elem := nat_lit 27, cells := [Sum.inr (Sum.inr (Sum.inr (Sum.inr (Sum.inr (Sum.inr (Sum.inl (IntKind.u64, u))))))), Sum.inr (Sum.inr (Sum.inr (Sum.inr (Sum.inr (Sum.inr (Sum.inl (IntKind.u64, v))))))), Sum.inr (Sum.inr (Sum.inr (Sum.inr (Sum.inr (Sum.inr (Sum.inl (IntKind.u64, x)))))))], j := none, c := OfNat.ofNat (3 : Nat), z := false }], ints := [], opqs := (0 : Nat), arrs := [some { elem := OfNat.ofNat (5 : Nat), k := AK.n IntKind.u8, l := L, cap := cap, ro := false }], junks := (0 : Nat) })) ∧ (¬(1 : Int) ≤ n → K (Sum.inl (Sum.inl (Sum.inr (Sum.inr (Sum.inr (Sum.inr (Sum.inr (Sum.inr (Sum.inl (IntKind.i64, (1 : Int))))))))))) { heap := [some { elem := nat_lit 114, cells := [Sum.inr (Sum.inr (Sum.inr (Sum.inr (Sum.inr (Sum.inr (Sum.inr (Sum.inl { a := OfNat.ofNat (0 : Nat), o := OfNat.ofNat (0 : Nat), n := m, c := c }))))))), Sum.inr (Sum.inr (Sum.inr (Sum.inr (Sum.inr (Sum.inr (Sum.inl (IntKind.i64, N)))))))], j := none, c := OfNat.ofNat (2 : Nat), z := false }, some { elem := nat_lit 27, cells := [Sum.inr (Sum.inr (Sum.inr (Sum.inr (Sum.inr (Sum.inr (Sum.inl (IntKind.u64, u))))))), Sum.inr (Sum.inr (Sum.inr (Sum.inr (Sum.inr (Sum.inr (Sum.inl (IntKind.u64, v))))))), Sum.inr (Sum.inr (Sum.inr (Sum.inr (Sum.inr (Sum.inr (Sum.inl (IntKind.u64, x)))))))], j := none, c := OfNat.ofNat (3 : Nat), z := false }], ints := [], opqs := (0 : Nat), arrs := [some { elem := OfNat.ofNat (5 : Nat), k := AK.n IntKind.u8, l := L, cap := cap, ro := false }], junks := (0 : Nat) })) := by kernel_rfl
theorem bits4_vc (K : AV → St → Prop) (L : List Int) (m c cap : Nat) (N n u v x y : Int) : (runI invB5 tB4 64 [ptr 0 0, xi .i64 n, sl ⟨1, 0, 4, none, 4⟩] ⟨[outB (aslC ⟨0, 0, m, c⟩) N, some ⟨27, [xintC .u64 u, xintC .u64 v, xintC .u64 x, xintC .u64 y], none, 4, false⟩], [], 0, [some (bs L cap false)], 0⟩ K) = (((1 : Int) ≤ n → (n ≤ (64 : Int) → ∀ (z0 : Int), z0 = IntKind.wrap IntKind.i64 ((524288 : Int) - N) → ¬n = (0 : Int) ∧ ∀ (z1 : Int), z1 = IntKind.wrap IntKind.i64 (Int.tdiv z0 n) → (z1 < (4 : Int) → K (Sum.inl (Sum.inl (Sum.inr (Sum.inr (Sum.inr (Sum.inr (Sum.inr (Sum.inr (Sum.inl (IntKind.i64, (4 : Int))))))))))) { heap := [some { elem := nat_lit 114, cells := [Sum.inr (Sum.inr (Sum.inr (Sum.inr (Sum.inr (Sum.inr (Sum.inr (Sum.inl { a := OfNat.ofNat (0 : Nat), o := OfNat.ofNat (0 : Nat), n := m, c := c }))))))), Sum.inr (Sum.inr (Sum.inr (Sum.inr (Sum.inr (Sum.inr (Sum.inl (IntKind.i64, N)))))))], j := none, c := OfNat.ofNat (2 : Nat), z := false }, some { elem := nat_lit 27, cells := [Sum.inr (Sum.inr (Sum.inr (Sum.inr (Sum.inr (Sum.inr (Sum.inl (IntKind.u64, u))))))), Sum.inr (Sum.inr (Sum.inr (Sum.inr (Sum.inr (Sum.inr (Sum.inl (IntKind.u64, v))))))), Sum.inr (Sum.inr (Sum.inr (Sum.inr (Sum.inr (Sum.inr (Sum.inl (IntKind.u64, x))))))), Sum.inr (Sum.inr (Sum.inr (Sum.inr (Sum.inr (Sum.inr (Sum.inl (IntKind.u64, y)))))))], j := none, c := OfNat.ofNat (4 : Nat), z := false }], ints := [], opqs := (0 : Nat), arrs := [some { elem := OfNat.ofNat (5 : Nat), k := AK.n IntKind.u8, l := L, cap := cap, ro := false }], junks := (0 : Nat) }) ∧ (¬z1 < (4 : Int) → ∃ (y2 : List Bool), (U.Out L N y2 ∧ m = List.length L ∧ c ≤ cap ∧ m ≤ c ∧ ((1 : Int) ≤ n ∧ n ≤ (64 : Int)) ∧ N + n ≤ (524288 : Int) ∧ (0 : Int) ≤ u ∧ u ≤ (18446744073709551615 : Int)) ∧ ∀ (L'3 : List Int) (m'4 c'5 cap'6 : Nat) (N'7 : Int), U.Out L'3 N'7 (U.app y2 n u) → N'7 = N + n → m'4 = List.length L'3 → c'5 ≤ cap'6 → m'4 ≤ c'5 → ∃ (y8 : List Bool), (U.Out L'3 N'7 y8 ∧ m'4 = List.length L'3 ∧ c'5 ≤ cap'6 ∧ m'4 ≤ c'5 ∧ ((1 : Int) ≤ n ∧ n ≤ (64 : Int)) ∧ N'7 + n ≤ (524288 : Int) ∧ (0 : Int) ≤ v ∧ v ≤ (18446744073709551615 : Int)) ∧ ∀ (L'9 : List Int) (m'10 c'11 cap'12 : Nat) (N'13 : Int), U.Out L'9 N'13 (U.app y8 n v) → N'13 = N'7 + n → m'10 = List.length L'9 → c'11 ≤ cap'12 → m'10 ≤ c'11 → ∃ (y14 : List Bool), (U.Out L'9 N'13 y14 ∧ m'10 = List.length L'9 ∧ c'11 ≤ cap'12 ∧ m'10 ≤ c'11 ∧ ((1 : Int) ≤ n ∧ n ≤ (64 : Int)) ∧ N'13 + n ≤ (524288 : Int) ∧ (0 : Int) ≤ x ∧ x ≤ (18446744073709551615 : Int)) ∧ ∀ (L'15 : List Int) (m'16 c'17 cap'18 : Nat) (N'19 : Int), U.Out L'15 N'19 (U.app y14 n x) → N'19 = N'13 + n → m'16 = List.length L'15 → c'17 ≤ cap'18 → m'16 ≤ c'17 → ∃ (y20 : List Bool), (U.Out L'15 N'19 y20 ∧ m'16 = List.length L'15 ∧ c'17 ≤ cap'18 ∧ m'16 ≤ c'17 ∧ ((1 : Int) ≤ n ∧ n ≤ (64 : Int)) ∧ N'19 + n ≤ (524288 : Int) ∧ (0 : Int) ≤ y ∧ y ≤ (18446744073709551615 : Int)) ∧ ∀ (L'21 : List Int) (m'22 c'23 cap'24 : Nat) (N'25 : Int), U.Out L'21 N'25 (U.app y20 n y) → N'25 = N'19 + n → m'22 = List.length L'21 → c'23 ≤ cap'24 → m'22 ≤ c'23 → K (Sum.inl (Sum.inl (Sum.inr (Sum.inr (Sum.inr (Sum.inr (Sum.inr (Sum.inr (Sum.inl (IntKind.i64, (0 : Int))))))))))) { heap := [some { elem := nat_lit 114, cells := [Sum.inr (Sum.inr (Sum.inr (Sum.inr (Sum.inr (Sum.inr (Sum.inr (Sum.inl { a := (1 : Nat), o := OfNat.ofNat (0 : Nat), n := m'22, c := c'23 }))))))), Sum.inr (Sum.inr (Sum.inr (Sum.inr (Sum.inr (Sum.inr (Sum.inl (IntKind.i64, N'25)))))))], j := none, c := OfNat.ofNat (2 : Nat), z := false }, some { elem := nat_lit 27, cells := [Sum.inr (Sum.inr (Sum.inr (Sum.inr (Sum.inr (Sum.inr (Sum.inl (IntKind.u64, u))))))), Sum.inr (Sum.inr (Sum.inr (Sum.inr (Sum.inr (Sum.inr (Sum.inl (IntKind.u64, v))))))), Sum.inr (Sum.inr (Sum.inr (Sum.inr (Sum.inr (Sum.inr (Sum.inl (IntKind.u64, x))))))), Sum.inr (Sum.inr (Sum.inr (Sum.inr (Sum.inr (Sum.inr (Sum.inl (IntKind.u64, y)))))))], j := none, c := OfNat.ofNat (4 : Nat), z := false }], ints := [], opqs := (0 : Nat), arrs := [none, some { elem := OfNat.ofNat (5 : Nat), k := AK.n IntKind.u8, l := L'21, cap := cap'24, ro := false }], junks := (0 : Nat) })) ∧ (¬n ≤ (64 : Int) → K (Sum.inl (Sum.inl (Sum.inr (Sum.inr (Sum.inr (Sum.inr (Sum.inr (Sum.inr (Sum.inl (IntKind.i64, (1 : Int))))))))))) { heap := [some { elem := nat_lit 114, cells := [Sum.inr (Sum.inr (Sum.inr (Sum.inr (Sum.inr (Sum.inr (Sum.inr (Sum.inl { a := OfNat.ofNat (0 : Nat), o := OfNat.ofNat (0 : Nat), n := m, c := c }))))))), Sum.inr (Sum.inr (Sum.inr (Sum.inr (Sum.inr (Sum.inr (Sum.inl (IntKind.i64, N)))))))], j := none, c := OfNat.ofNat (2 : Nat), z := false }, some { elem := nat_lit 27, cells := [Sum.inr (Sum.inr (Sum.inr (Sum.inr (Sum.inr (Sum.inr (Sum.inl (IntKind.u64, u))))))), Sum.inr (Sum.inr (Sum.inr (Sum.inr (Sum.inr (Sum.inr (Sum.inl (IntKind.u64, v))))))), Sum.inr (Sum.inr (Sum.inr (Sum.inr (Sum.inr (Sum.inr (Sum.inl (IntKind.u64, x))))))), Sum.inr (Sum.inr (Sum.inr (Sum.inr (Sum.inr (Sum.inr (Sum.inl (IntKind.u64, y)))))))], j := none, c := OfNat.ofNat (4 : Nat), z := false }], ints := [], opqs := (0 : Nat), arrs := [some { elem := OfNat.ofNat (5 : Nat), k := AK.n IntKind.u8, l := L, cap := cap, ro := false }], junks := (0 : Nat) })) ∧ (¬(1 : Int) ≤ n → K (Sum.inl (Sum.inl (Sum.inr (Sum.inr (Sum.inr (Sum.inr (Sum.inr (Sum.inr (Sum.inl (IntKind.i64, (1 : Int))))))))))) { heap := [some { elem := nat_lit 114, cells := [Sum.inr (Sum.inr (Sum.inr (Sum.inr (Sum.inr (Sum.inr (Sum.inr (Sum.inl { a := OfNat.ofNat (0 : Nat), o := OfNat.ofNat (0 : Nat), n := m, c := c }))))))), Sum.inr (Sum.inr (Sum.inr (Sum.inr (Sum.inr (Sum.inr (Sum.inl (IntKind.i64, N)))))))], j := none, c := OfNat.ofNat (2 : Nat), z := false }, some { elem := nat_lit 27, cells := [Sum.inr (Sum.inr (Sum.inr (Sum.inr (Sum.inr (Sum.inr (Sum.inl (IntKind.u64, u))))))), Sum.inr (Sum.inr (Sum.inr (Sum.inr (Sum.inr (Sum.inr (Sum.inl (IntKind.u64, v))))))), Sum.inr (Sum.inr (Sum.inr (Sum.inr (Sum.inr (Sum.inr (Sum.inl (IntKind.u64, x))))))), Sum.inr (Sum.inr (Sum.inr (Sum.inr (Sum.inr (Sum.inr (Sum.inl (IntKind.u64, y)))))))], j := none, c := OfNat.ofNat (4 : Nat), z := false }], ints := [], opqs := (0 : Nat), arrs := [some { elem := OfNat.ofNat (5 : Nat), k := AK.n IntKind.u8, l := L, cap := cap, ro := false }], junks := (0 : Nat) })) := by kernel_rfl
end Go.Proofs.YtdpcahblhjbgjaaDoor
end

section
set_option linter.unusedVariables false
set_option linter.unusedSimpArgs false
namespace Go.Proofs.YtdpcahblhjbgjaaDoor
open Go Reck

theorem calls_open {P : Program} {f : FuncId} {vs : Array Value} {w0 w : World} {e : Env} {K : AV → St → Prop}
    (h : Calls P f vs w fun en w' => ∃ x σ' e' v, en = .returned v ∧ e.le e' ∧ Reck.av e' x = some v ∧ Ok w0 e' σ' w' ∧ K (openV x) (openSt σ')) :
    Calls P f vs w fun en w' => ∃ x σ' e' v, en = .returned v ∧ e.le e' ∧ Reck.av e' x = some v ∧ Ok w0 e' σ' w' ∧ K x σ' := by
  refine h.mono ?_
  rintro en w' ⟨x, σ', e', v, h1, h2, h3, h4, h5⟩
  exact ⟨_, _, e', v, h1, h2, by rw [openV_av]; exact h3, openSt_ok h4, h5⟩
def opn (K : AV → St → Prop) : AV → St → Prop := fun x σ => K (openV x) (openSt σ)

def U.inV (L : List Int) (a e n : Int) : Int := if e = 0 ∧ a + n ≤ 8 * L.length then U.loa L a n else 0
def U.inA (L : List Int) (a e n : Int) : Int := if e = 0 ∧ a + n ≤ 8 * L.length then a + n else a
def U.inE (L : List Int) (a e n : Int) : Int := if e = 0 then (if a + n ≤ 8 * L.length then 0 else 7) else e

end Go.Proofs.YtdpcahblhjbgjaaDoor
end

section
set_option linter.unusedVariables false
set_option linter.unusedSimpArgs false
namespace Go.Proofs.YtdpcahblhjbgjaaDoor
open Go Reck

def U.inB (L : List Int) (a e n : Int) : List Int := if e = 0 ∧ a + 8 * n ≤ 8 * L.length then (L.drop (a.toNat / 8)).take n.toNat else []
theorem done_run (K : AV → St → Prop) (L : List Int) (m c cap : Nat) (N : Int) (hm : m = L.length) (hl : m ≤ 16777216)
    (h : ∀ (L' : List Int) (c' cap' : Nat), L' = L → m ≤ c' → c' ≤ cap' → K (cell (aslC ⟨1, 0, m, c'⟩)) ⟨[outB (aslC ⟨0, 0, m, c⟩) N], [], 0, [some (bs L cap false), some (bs L' cap' false)], 0⟩) : runI invB5 tB4 65 [ptr 0 0] (outSt L m c cap N) K := by
  rw [done_vc]
  refine ⟨⟨by show 0 + m ≤ L.length; omega, hl⟩, fun L' c' cap' h1 h2 h3 => h L' c' cap' ?_ h2 h3⟩
  rw [h1, hm]
  show List.take L.length (List.drop 0 L) = L
  simp
end Go.Proofs.YtdpcahblhjbgjaaDoor
end

section
set_option linter.unusedVariables false
set_option linter.unusedSimpArgs false
namespace Go.Proofs.YtdpcahblhjbgjaaDoor
open Go Reck

def U.apps (l : List Bool) (n : Int) (vs : List Int) : List Bool := vs.foldl (fun l v => U.app l n v) l
def vB (vs : List Int) : Option Blk := some ⟨27, vs.map (xintC .u64), none, vs.length, false⟩
def bitsPre (L : List Int) (N : Int) (m c cap : Nat) (l : List Bool) (n : Int) (vs : List Int) : Prop := U.Out L N l ∧ m = L.length ∧ c ≤ cap ∧ m ≤ c ∧ (1 ≤ n ∧ n ≤ 64) ∧ N + vs.length * n ≤ 524288 ∧ ∀ v ∈ vs, 0 ≤ v ∧ v ≤ 18446744073709551615
def bitsPost (K : AV → St → Prop) (N : Int) (l : List Bool) (n : Int) (vs : List Int) : Prop := ∀ (L' : List Int) (m' c' cap' : Nat) (N' : Int), U.Out L' N' (U.apps l n vs) → N' = N + vs.length * n → m' = L'.length → c' ≤ cap' → m' ≤ c' → K (xi .i64 0) ⟨[outB (aslC ⟨1, 0, m', c'⟩) N', vB vs], [], 0, [none, some (bs L' cap' false)], 0⟩
def bitsSt (L : List Int) (m c cap : Nat) (N : Int) (vs : List Int) : St := ⟨[outB (aslC ⟨0, 0, m, c⟩) N, vB vs], [], 0, [some (bs L cap false)], 0⟩

theorem room_ok {N n z0 z1 : Int} {k : Nat} (hN : 0 ≤ N) (hn : 1 ≤ n ∧ n ≤ 64) (hr : N + k * n ≤ 524288) (h0 : z0 = IntKind.wrap .i64 (524288 - N)) (h1 : z1 = IntKind.wrap .i64 (Int.tdiv z0 n)) : ¬ z1 < k := by
  have hkn : 0 ≤ (k : Int) * n := Int.mul_nonneg (by omega) (by omega)
  have e0 := w64 h0 (by omega)
  have hd : Int.tdiv z0 n = z0 / n := Int.tdiv_eq_ediv_of_nonneg (by omega)
  have hd0 : 0 ≤ z0 / n := Int.ediv_nonneg (by omega) (by omega)
  have hd1 : z0 / n ≤ z0 := Int.ediv_le_self _ (by omega)
  have e1 := w64 h1 (by rw [hd]; omega)
  rw [hd] at e1
  have : (k : Int) ≤ z0 / n := (Int.le_ediv_iff_mul_le (by omega)).2 (by omega)
  omega
theorem out_nonneg {L : List Int} {N : Int} {l : List Bool} (h : U.Out L N l) : 0 ≤ N := by
  obtain ⟨cs, _, _, h, _⟩ := h; omega

theorem bits1_run (K : AV → St → Prop) (L : List Int) (l : List Bool) (m c cap : Nat) (N n u : Int) (h : bitsPre L N m c cap l n [u]) (hk : bitsPost K N l n [u]) :
    runI invB5 tB4 64 [ptr 0 0, xi .i64 n, sl ⟨1, 0, 1, none, 1⟩] (bitsSt L m c cap N [u]) (opn K) := by
  obtain ⟨h1, h2, h3, h4, h5, h6, h7⟩ := h
  unfold bitsSt
  show runI invB5 tB4 64 [ptr 0 0, xi .i64 n, sl ⟨1, 0, 1, none, 1⟩] ⟨[outB (aslC ⟨0, 0, m, c⟩) N, some ⟨27, [xintC .u64 u], none, 1, false⟩], [], 0, [some (bs L cap false)], 0⟩ _
  rw [bits1_vc]
  have hN := out_nonneg h1
  simp only [List.length_cons, List.length_nil, Nat.zero_add] at h6
  refine ⟨fun _ => ⟨fun _ z0 hz0 => ⟨by omega, fun z1 hz1 => ⟨fun hlt => absurd hlt (room_ok hN h5 h6 hz0 hz1), fun _ => ⟨l, ⟨h1, h2, h3, h4, h5, by simpa using h6, h7 u (by simp)⟩, fun La ma ca pa Na ka1 ka2 ka3 ka4 ka5 => ?_⟩⟩⟩, fun hh => by omega⟩, fun hh => by omega⟩
  exact hk La ma ca pa Na ka1 (by simp; omega) ka3 ka4 ka5
theorem bits2_run (K : AV → St → Prop) (L : List Int) (l : List Bool) (m c cap : Nat) (N n u v : Int) (h : bitsPre L N m c cap l n [u, v]) (hk : bitsPost K N l n [u, v]) :
    runI invB5 tB4 64 [ptr 0 0, xi .i64 n, sl ⟨1, 0, 2, none, 2⟩] (bitsSt L m c cap N [u, v]) (opn K) := by
  obtain ⟨h1, h2, h3, h4, h5, h6, h7⟩ := h
  unfold bitsSt
  show runI invB5 tB4 64 [ptr 0 0, xi .i64 n, sl ⟨1, 0, 2, none, 2⟩] ⟨[outB (aslC ⟨0, 0, m, c⟩) N, some ⟨27, [xintC .u64 u, xintC .u64 v], none, 2, false⟩], [], 0, [some (bs L cap false)], 0⟩ _
  rw [bits2_vc]
  have hN := out_nonneg h1
  simp only [List.length_cons, List.length_nil, Nat.zero_add] at h6
  refine ⟨fun _ => ⟨fun _ z0 hz0 => ⟨by omega, fun z1 hz1 => ⟨fun hlt => absurd hlt (room_ok hN h5 h6 hz0 hz1), fun _ => ⟨l, ⟨h1, h2, h3, h4, h5, by omega, h7 u (by simp)⟩, fun La ma ca pa Na ka1 ka2 ka3 ka4 ka5 =>
    ⟨_, ⟨ka1, ka3, ka4, ka5, h5, by omega, h7 v (by simp)⟩, fun Lb mb cb pb Nb kb1 kb2 kb3 kb4 kb5 => ?_⟩⟩⟩⟩, fun hh => by omega⟩, fun hh => by omega⟩
  exact hk Lb mb cb pb Nb kb1 (by simp only [List.length_cons, List.length_nil]; omega) kb3 kb4 kb5
theorem bits3_run (K : AV → St → Prop) (L : List Int) (l : List Bool) (m c cap : Nat) (N n u v x : Int) (h : bitsPre L N m c cap l n [u, v, x]) (hk : bitsPost K N l n [u, v, x]) :
    runI invB5 tB4 64 [ptr 0 0, xi .i64 n, sl ⟨1, 0, 3, none, 3⟩] (bitsSt L m c cap N [u, v, x]) (opn K) := by
  obtain ⟨h1, h2, h3, h4, h5, h6, h7⟩ := h
  unfold bitsSt
  show runI invB5 tB4 64 [ptr 0 0, xi .i64 n, sl ⟨1, 0, 3, none, 3⟩] ⟨[outB (aslC ⟨0, 0, m, c⟩) N, some ⟨27, [xintC .u64 u, xintC .u64 v, xintC .u64 x], none, 3, false⟩], [], 0, [some (bs L cap false)], 0⟩ _
  rw [bits3_vc]
  have hN := out_nonneg h1
  simp only [List.length_cons, List.length_nil, Nat.zero_add] at h6
  refine ⟨fun _ => ⟨fun _ z0 hz0 => ⟨by omega, fun z1 hz1 => ⟨fun hlt => absurd hlt (room_ok hN h5 h6 hz0 hz1), fun _ => ⟨l, ⟨h1, h2, h3, h4, h5, by omega, h7 u (by simp)⟩, fun La ma ca pa Na ka1 ka2 ka3 ka4 ka5 =>
    ⟨_, ⟨ka1, ka3, ka4, ka5, h5, by omega, h7 v (by simp)⟩, fun Lb mb cb pb Nb kb1 kb2 kb3 kb4 kb5 => ⟨_, ⟨kb1, kb3, kb4, kb5, h5, by omega, h7 x (by simp)⟩, fun Lc mc cc pc Nc kc1 kc2 kc3 kc4 kc5 => ?_⟩⟩⟩⟩⟩, fun hh => by omega⟩, fun hh => by omega⟩
  exact hk Lc mc cc pc Nc kc1 (by simp only [List.length_cons, List.length_nil]; omega) kc3 kc4 kc5
theorem bits4_run (K : AV → St → Prop) (L : List Int) (l : List Bool) (m c cap : Nat) (N n u v x y : Int) (h : bitsPre L N m c cap l n [u, v, x, y]) (hk : bitsPost K N l n [u, v, x, y]) :
    runI invB5 tB4 64 [ptr 0 0, xi .i64 n, sl ⟨1, 0, 4, none, 4⟩] (bitsSt L m c cap N [u, v, x, y]) (opn K) := by
  obtain ⟨h1, h2, h3, h4, h5, h6, h7⟩ := h
  unfold bitsSt
  show runI invB5 tB4 64 [ptr 0 0, xi .i64 n, sl ⟨1, 0, 4, none, 4⟩] ⟨[outB (aslC ⟨0, 0, m, c⟩) N, some ⟨27, [xintC .u64 u, xintC .u64 v, xintC .u64 x, xintC .u64 y], none, 4, false⟩], [], 0, [some (bs L cap false)], 0⟩ _
  rw [bits4_vc]
  have hN := out_nonneg h1
  simp only [List.length_cons, List.length_nil, Nat.zero_add] at h6
  refine ⟨fun _ => ⟨fun _ z0 hz0 => ⟨by omega, fun z1 hz1 => ⟨fun hlt => absurd hlt (room_ok hN h5 h6 hz0 hz1), fun _ => ⟨l, ⟨h1, h2, h3, h4, h5, by omega, h7 u (by simp)⟩, fun La ma ca pa Na ka1 ka2 ka3 ka4 ka5 =>
    ⟨_, ⟨ka1, ka3, ka4, ka5, h5, by omega, h7 v (by simp)⟩, fun Lb mb cb pb Nb kb1 kb2 kb3 kb4 kb5 => ⟨_, ⟨kb1, kb3, kb4, kb5, h5, by omega, h7 x (by simp)⟩, fun Lc mc cc pc Nc kc1 kc2 kc3 kc4 kc5 => ⟨_, ⟨kc1, kc3, kc4, kc5, h5, by omega, h7 y (by simp)⟩, fun Ld md cd pd Nd kd1 kd2 kd3 kd4 kd5 => ?_⟩⟩⟩⟩⟩⟩, fun hh => by omega⟩, fun hh => by omega⟩
  exact hk Ld md cd pd Nd kd1 (by simp only [List.length_cons, List.length_nil]; omega) kd3 kd4 kd5

theorem packs_uniq {cs : List Nat} {l l' : List Bool} (h : Packs cs l) (h' : Packs cs l') (hl : l.length = l'.length) : l = l' := by
  apply List.ext_getElem hl
  intro i h1 h2
  have := (h.2.2 i).symm.trans (h'.2.2 i)
  simpa [List.getD_eq_getElem?_getD, h1, h2] using this
theorem out_uniq {L : List Int} {N : Int} {l l' : List Bool} (h : U.Out L N l) (h' : U.Out L N l') : l = l' := by
  obtain ⟨cs, e1, p1, n1, _⟩ := h
  obtain ⟨cs', e2, p2, n2, _⟩ := h'
  have := nz_inj (e1.symm.trans e2)
  subst this
  exact packs_uniq p1 p2 (by omega)

def tInBits : Tbl := fun _ _ _ => none
def tInSkip : Tbl := fun _ _ _ => none
def tInBytes : Tbl := fun _ _ _ => none
def tOf : Tbl := fun _ _ _ => none
def tDone : Tbl := fun f args σ => if f == 65 then match args, σ with
    | [.inl (.inl (.inr (.inl (0, 0))))], ⟨[some ⟨114, [s, N], none, 2, false⟩], [], 0, [some ⟨5, .n .u8, L, cap, false⟩], 0⟩ => match aslX (cell s), xiX (cell N) with
      | some ⟨0, 0, m, c⟩, some (.i64, N) => some fun K => (m = L.length ∧ m ≤ 16777216) ∧ ∀ (L' : List Int) (c' cap' : Nat), L' = L → m ≤ c' → c' ≤ cap' → K (cell (aslC ⟨1, 0, m, c'⟩)) ⟨[outB (aslC ⟨0, 0, m, c⟩) N], [], 0, [some (bs L cap false), some (bs L' cap' false)], 0⟩
      | _, _ => none
    | _, _ => none
  else none
def tSet : Tbl := fun _ _ _ => none
def intsX : List Cell → Option (List Int)
  | [] => some []
  | c :: l => match xiX (cell c), intsX l with
    | some (.u64, v), some vs => some (v :: vs)
    | _, _ => none
theorem intsX_eq : ∀ {l : List Cell} {vs : List Int}, intsX l = some vs → l = vs.map (xintC .u64)
  | [], vs, h => by simp only [intsX, Option.some.injEq] at h; subst h; rfl
  | c :: l, vs, h => by
    simp only [intsX] at h
    split at h
    · rename_i v vs' h1 h2
      simp only [Option.some.injEq] at h; subst h
      rw [intsX_eq h2, cell_inj (xiX_eq h1)]; rfl
    · cases h
structure U.BitsPre (L : List Int) (N : Int) (m c cap : Nat) (l : List Bool) (n : Int) (vs : List Int) : Prop where
  out : bitsPre L N m c cap l n vs
def tBits : Tbl := fun f args σ => if f == 64 then match args, σ with
    | [.inl (.inl (.inr (.inl (0, 0)))), n, .inl (.inl (.inr (.inr (.inl ⟨1, 0, k, none, k'⟩))))], ⟨[some ⟨114, [s, N], none, 2, false⟩, some ⟨27, vs, none, k'', false⟩], [], 0, [some ⟨5, .n .u8, L, cap, false⟩], 0⟩ => match aslX (cell s), xiX n, xiX (cell N), intsX vs with
      | some ⟨0, 0, m, c⟩, some (.i64, n), some (.i64, N), some vs => if Nat.beq k vs.length && Nat.beq k' vs.length && Nat.beq k'' vs.length && Nat.ble 1 vs.length && Nat.ble vs.length 4 then some fun K => ∃ l, U.BitsPre L N m c cap l n vs ∧
            ∀ (L' : List Int) (m' c' cap' : Nat) (N' : Int), U.Out L' N' (U.apps l n vs) → N' = N + vs.length * n → m' = L'.length → c' ≤ cap' → m' ≤ c' → K (xi .i64 0) ⟨[outB (aslC ⟨1, 0, m', c'⟩) N', vB vs], [], 0, [none, some (bs L' cap' false)], 0⟩
          else none
      | _, _, _, _ => none
    | _, _ => none
  else none
def U.appB (l : List Bool) (B : List Int) (o n : Nat) : List Bool := l ++ nums 8 (((B.drop o).take n).map Int.toNat)
def tBytes : Tbl := fun _ _ _ => none
end Go.Proofs.YtdpcahblhjbgjaaDoor
end

section
set_option linter.unusedVariables false
set_option linter.unusedSimpArgs false
namespace Go.Proofs.YtdpcahblhjbgjaaDoor
open Go Reck

theorem tInBits_ok : TblOk Tryd.prog tInBits := by intro f tm σ C h; cases h
theorem tInSkip_ok : TblOk Tryd.prog tInSkip := by intro f tm σ C h; cases h
theorem tInBytes_ok : TblOk Tryd.prog tInBytes := by intro f tm σ C h; cases h
theorem tOf_ok : TblOk Tryd.prog tOf := by intro f tm σ C h; cases h
theorem tDone_ok : TblOk Tryd.prog tDone := by
  intro f tm σ C h K hK
  unfold tDone at h
  split at h
  · rename_i hf
    obtain rfl : f = 65 := by simpa using hf
    split at h
    · split at h
      · rename_i m c N hs hN
        obtain rfl := cell_inj (aslX_eq hs)
        obtain rfl := cell_inj (xiX_eq hN)
        simp only [Option.some.injEq] at h; subst h
        obtain ⟨⟨h2, h3⟩, hk⟩ := hK
        intro w0 en w hok vs hvs
        exact knownC noOv names (conOk_of tB4_ok) (done_run K _ m c _ N h2 h3 hk) w0 en w hok vs hvs
      · cases h
    · cases h
  · cases h
theorem tSet_ok : TblOk Tryd.prog tSet := by intro f tm σ C h; cases h
theorem tBytes_ok : TblOk Tryd.prog tBytes := by intro f tm σ C h; cases h
theorem tBits_ok : TblOk Tryd.prog tBits := by
  intro f tm σ C h K hK
  unfold tBits at h
  split at h
  · rename_i hf
    obtain rfl : f = 64 := by simpa using hf
    split at h
    · split at h
      · rename_i m c n N vs hs hn hN hvs0
        obtain rfl := cell_inj (aslX_eq hs)
        obtain rfl := xiX_eq hn
        obtain rfl := cell_inj (xiX_eq hN)
        obtain rfl := intsX_eq hvs0
        split at h
        · rename_i hc
          simp only [Bool.and_eq_true, Nat.beq_eq, Nat.ble_eq] at hc
          obtain ⟨⟨⟨⟨c1, c2⟩, c3⟩, c4⟩, c5⟩ := hc
          subst c1; subst c2; subst c3
          simp only [Option.some.injEq] at h; subst h
          obtain ⟨l, ⟨hp⟩, hk⟩ := hK
          intro w0 en w hok vs' hvs
          match vs, c4, c5 with
          | [u], _, _ => exact calls_open (knownC noOv names (conOk_of tB4_ok) (bits1_run K _ l m c _ N n u hp hk) w0 en w hok vs' hvs)
          | [u, v], _, _ => exact calls_open (knownC noOv names (conOk_of tB4_ok) (bits2_run K _ l m c _ N n u v hp hk) w0 en w hok vs' hvs)
          | [u, v, x], _, _ => exact calls_open (knownC noOv names (conOk_of tB4_ok) (bits3_run K _ l m c _ N n u v x hp hk) w0 en w hok vs' hvs)
          | [u, v, x, y], _, _ => exact calls_open (knownC noOv names (conOk_of tB4_ok) (bits4_run K _ l m c _ N n u v x y hp hk) w0 en w hok vs' hvs)
        · cases h
      · cases h
    · cases h
  · cases h
def tBitsAll : Tbl := tblOr tB4 (tblOr tInBits (tblOr tInSkip (tblOr tInBytes (tblOr tOf (tblOr tDone (tblOr tSet (tblOr tBits tBytes)))))))
theorem tBitsAll_ok : TblOk Tryd.prog tBitsAll := tblOr_ok tB4_ok (tblOr_ok tInBits_ok (tblOr_ok tInSkip_ok (tblOr_ok tInBytes_ok (tblOr_ok tOf_ok (tblOr_ok tDone_ok (tblOr_ok tSet_ok (tblOr_ok tBits_ok tBytes_ok)))))))
end Go.Proofs.YtdpcahblhjbgjaaDoor
end

section
set_option linter.unusedVariables false
set_option linter.unusedSimpArgs false
namespace Go.Proofs.YtdpcahblhjbgjaaDoor
open Go Reck
namespace Rd

theorem inA_bnd {L : List Int} {a e n a' : Int} (h : a' = U.inA L a e n) (hn : 0 ≤ n) (ha : 0 ≤ a ∧ a ≤ 8 * L.length) : 0 ≤ a' ∧ a' ≤ 8 * L.length := by
  rw [h]; unfold U.inA; split <;> omega
theorem inE_iff {L : List Int} {a e n e' : Int} (h : e' = U.inE L a e n) : e' = 0 ↔ e = 0 ∧ a + n ≤ 8 * L.length := by
  rw [h]; unfold U.inE
  split
  · split <;> omega
  · omega
theorem inA_of {L : List Int} {a e n a' : Int} (h : a' = U.inA L a e n) (he : e = 0) (hf : a + n ≤ 8 * L.length) : a' = a + n := by
  rw [h]; unfold U.inA; rw [if_pos ⟨he, hf⟩]
theorem inV_of {L : List Int} {a e n z : Int} (h : z = U.inV L a e n) (he : e = 0) (hf : a + n ≤ 8 * L.length) : z = U.loa L a n := by
  rw [h]; unfold U.inV; rw [if_pos ⟨he, hf⟩]
theorem loa_bnd (L : List Int) (a n : Int) : 0 ≤ U.loa L a n ∧ U.loa L a n < 2 ^ n.toNat := by
  unfold U.loa
  have := val_lt (span (L.map Int.toNat) a.toNat n.toNat)
  rw [span_length] at this
  refine ⟨by omega, ?_⟩
  have h2 : (2 : Int) ^ n.toNat = ((2 ^ n.toNat : Nat) : Int) := by simp
  rw [h2]; omega
theorem inV_bnd {L : List Int} {a e n z : Int} (h : z = U.inV L a e n) : 0 ≤ z ∧ z < 2 ^ n.toNat := by
  rw [h]; unfold U.inV
  split
  · exact loa_bnd L a n
  · refine ⟨Int.le_refl _, ?_⟩
    have h2 : (2 : Int) ^ n.toNat = ((2 ^ n.toNat : Nat) : Int) := by simp
    rw [h2]
    have := Nat.two_pow_pos n.toNat
    omega
theorem inV8 {L : List Int} {a e z : Int} (h : z = U.inV L a e 8) : 0 ≤ z ∧ z ≤ 255 := by have := inV_bnd h; simp at this; omega
theorem inV16 {L : List Int} {a e z : Int} (h : z = U.inV L a e 16) : 0 ≤ z ∧ z ≤ 65535 := by have := inV_bnd h; simp at this; omega
theorem val_bits (l : List Bool) (v : Nat) (h : ∀ i, i < l.length → l.getD i false = v.testBit (l.length - 1 - i)) : val l = v % 2 ^ l.length := by
  induction hn : l.length generalizing l v with
  | zero => obtain rfl := List.eq_nil_of_length_eq_zero hn; simp [val, Nat.mod_one]
  | succ n ih =>
    have hne : l ≠ [] := by rintro rfl; cases hn
    obtain ⟨m, b, rfl⟩ : ∃ m b, l = m ++ [b] := ⟨l.dropLast, l.getLast hne, (List.dropLast_concat_getLast hne).symm⟩
    simp only [List.length_append, List.length_singleton] at hn h
    have hm : m.length = n := by omega
    rw [val_snoc, ih m (v / 2) (fun i hi => by
      have := h i (by omega)
      rw [List.getD_eq_getElem?_getD, List.getElem?_append_left hi, ← List.getD_eq_getElem?_getD] at this
      rw [this, Nat.testBit_div_two]
      congr 1; omega) hm]
    have hb := h m.length (by omega)
    rw [List.getD_eq_getElem?_getD, List.getElem?_append_right (Nat.le_refl _)] at hb
    simp at hb
    have h2 : b.toNat = v % 2 := by
      rw [hb]
      have := Nat.mod_two_eq_zero_or_one v
      rcases this with h0 | h0 <;> simp [h0]
    rw [h2, Nat.pow_succ, Nat.mul_comm (2 ^ n) 2, Nat.mod_mul]; omega
theorem loa_at {L : List Int} {a n : Nat} {v : Int} (h : ∀ i, i < n → bitOf (L.map Int.toNat) (a + i) = v.toNat.testBit (n - 1 - i)) (hv : 0 ≤ v ∧ v < 2 ^ n) : U.loa L a n = v := by
  unfold U.loa
  have e := val_bits (span (L.map Int.toNat) a n) v.toNat (fun i hi => by
    rw [span_length] at hi ⊢
    rw [← h i hi]; simp [span, hi])
  rw [span_length] at e
  have e2 : v.toNat % 2 ^ n = v.toNat := Nat.mod_eq_of_lt (by have := hv.2; have h2 : ((2 ^ n : Nat) : Int) = 2 ^ n := by push_cast; rfl
                                                              omega)
  simp only [Int.toNat_natCast]
  rw [e, e2]; omega
theorem inV64 {L : List Int} {a e z : Int} (h : z = U.inV L a e 64) : 0 ≤ z ∧ z ≤ 18446744073709551615 := by have := inV_bnd h; simp at this; omega
theorem getD_app_l {l m : List Bool} {i : Nat} (h : i < l.length) : (l ++ m).getD i false = l.getD i false := by
  rw [List.getD_eq_getElem?_getD, List.getElem?_append_left h, ← List.getD_eq_getElem?_getD]
theorem getD_drop (l : List Bool) (a i : Nat) : l.getD (a + i) false = (l.drop a).getD i false := by
  rw [List.getD_eq_getElem?_getD, List.getD_eq_getElem?_getD, List.getElem?_drop]
/-- What is left to be read from bit a on, if nothing was wrong so far. -/
structure Rest (L : List Int) (a e : Int) (r : List Bool) : Prop where
  ok : e = 0
  lo : 0 ≤ a
  out : ∃ l, U.Out L l.length l ∧ 8 * L.length = l.length ∧ a ≤ l.length ∧ l.drop a.toNat = r
theorem Rest.start {L : List Int} {N : Int} {l : List Bool} (h : U.Out L N l) (h8 : 8 * L.length = l.length) : Rest L 0 0 l := by
  have hN : N = l.length := by obtain ⟨_, _, _, h, _⟩ := h; exact h
  exact ⟨rfl, Int.le_refl _, l, hN ▸ h, h8, by omega, rfl⟩
theorem Rest.len {L : List Int} {a e : Int} {r : List Bool} (h : Rest L a e r) : (8 * L.length : Int) = a + r.length := by
  obtain ⟨_, lo, l, h1, h2, h3, rfl⟩ := h
  rw [List.length_drop]; omega
theorem Rest.bit {L : List Int} {a e : Int} {r : List Bool} (h : Rest L a e r) (i : Nat) : bitOf (L.map Int.toNat) (a.toNat + i) = r.getD i false := by
  obtain ⟨_, lo, l, ⟨cs, rfl, hp, _⟩, h2, h3, rfl⟩ := h
  rw [nz_back, hp.2.2, getD_drop]
theorem Rest.skip {L : List Int} {a e : Int} {r : List Bool} (h : Rest L a e r) {n : Int} (hn : 0 ≤ n ∧ n ≤ r.length) : Rest L (U.inA L a e n) (U.inE L a e n) (r.drop n.toNat) := by
  have hl := h.len
  obtain ⟨he, lo, l, h1, h2, h3, rfl⟩ := h
  have hc : e = 0 ∧ a + n ≤ 8 * L.length := ⟨he, by omega⟩
  refine ⟨?_, ?_, l, h1, h2, ?_, ?_⟩
  · unfold U.inE; rw [if_pos he, if_pos hc.2]
  · unfold U.inA; rw [if_pos hc]; omega
  · unfold U.inA; rw [if_pos hc]; omega
  · unfold U.inA; rw [if_pos hc, List.drop_drop, show (a + n).toNat = a.toNat + n.toNat by omega]
theorem Rest.num {L : List Int} {a e : Int} {r : List Bool} {n v : Int} (h : Rest L a e (Proofs.YtdpcahblhjbgjaaDoor.num n.toNat v.toNat ++ r)) (hn : 0 ≤ n) (hv : 0 ≤ v ∧ v < 2 ^ n.toNat) : U.inV L a e n = v ∧ Rest L (U.inA L a e n) (U.inE L a e n) r := by
  have hlen : (Proofs.YtdpcahblhjbgjaaDoor.num n.toNat v.toNat ++ r).length = n.toNat + r.length := by rw [List.length_append, num_length]
  have hl := h.len
  rw [hlen] at hl
  have h2 := h.skip (n := n) ⟨hn, by rw [hlen]; omega⟩
  have e2 : (Proofs.YtdpcahblhjbgjaaDoor.num n.toNat v.toNat ++ r).drop n.toNat = r := by
    rw [List.drop_append_of_le_length (by rw [num_length]; exact Nat.le_refl _), List.drop_eq_nil_of_le (by rw [num_length]; exact Nat.le_refl _), List.nil_append]
  rw [e2] at h2
  refine ⟨?_, h2⟩
  unfold U.inV
  rw [if_pos ⟨h.ok, by omega⟩]
  have e3 := loa_at (L := L) (a := a.toNat) (n := n.toNat) (v := v) (fun i hi => by
    rw [h.bit i, getD_app_l (by rw [num_length]; exact hi), getD_num, if_pos hi]) hv
  rw [Int.toNat_of_nonneg h.lo, Int.toNat_of_nonneg hn] at e3
  exact e3
theorem nums_get : ∀ (bs : List Nat) (i : Nat), (nums 8 bs).getD i false = bitOf bs i
  | [], i => by simp [nums, bitOf]
  | b :: bs, i => by
    have e : nums 8 (b :: bs) = Proofs.YtdpcahblhjbgjaaDoor.num 8 b ++ nums 8 bs := by simp [nums]
    rw [e]
    by_cases hi : i < 8
    · rw [getD_app_l (by rw [num_length]; exact hi), getD_num, if_pos hi]
      unfold bitOf
      have h1 : i / 8 = 0 := by omega
      have h2 : i % 8 = i := by omega
      rw [h1, h2]; simp
    · have := nums_get bs (i - 8)
      rw [List.getD_eq_getElem?_getD, List.getElem?_append_right (by rw [num_length]; omega), num_length, ← List.getD_eq_getElem?_getD, this]
      unfold bitOf
      have h1 : i / 8 = (i - 8) / 8 + 1 := by omega
      have h2 : i % 8 = (i - 8) % 8 := by omega
      rw [h1, h2]; simp
/-- Bytes. -/
theorem Rest.bytes {L : List Int} {a e : Int} {r : List Bool} {cs : List Nat} (h : Rest L a e (nums 8 cs ++ r)) (ha : a % 8 = 0) (hc : ∀ c ∈ cs, c < 256) : U.inB L a e cs.length = nz cs ∧ Rest L (U.inA L a e (8 * cs.length)) (U.inE L a e (8 * cs.length)) r := by
  have hlen : (nums 8 cs ++ r).length = cs.length * 8 + r.length := by rw [List.length_append, nums_length]
  have hl := h.len
  rw [hlen] at hl
  have h2 := h.skip (n := 8 * cs.length) ⟨by omega, by rw [hlen]; omega⟩
  have e2 : (nums 8 cs ++ r).drop (8 * (cs.length : Int)).toNat = r := by
    have : (8 * (cs.length : Int)).toNat = (nums 8 cs).length := by rw [nums_length]; omega
    rw [this, List.drop_append_of_le_length (Nat.le_refl _), List.drop_length, List.nil_append]
  rw [e2] at h2
  refine ⟨?_, h2⟩
  unfold U.inB
  rw [if_pos ⟨h.ok, by omega⟩]
  have hbit : ∀ i, i < 8 * cs.length → bitOf (L.map Int.toNat) (a.toNat + i) = bitOf cs i := fun i hi => by
    rw [h.bit i, getD_app_l (by rw [nums_length]; omega), nums_get]
  obtain ⟨he, lo, l, ⟨ds, rfl, hp, _⟩, k2, k3, k4⟩ := h
  rw [nz_drop, nz_take]
  congr 1
  rw [nz_length] at hl
  refine bytes_ext (by rw [List.length_take, List.length_drop]; omega) (fun x hx => hp.1 x (List.mem_of_mem_drop (List.mem_of_mem_take hx))) hc fun i hi => ?_
  have hi' : i < 8 * cs.length := by rw [List.length_take, List.length_drop] at hi; omega
  rw [← hbit i hi', nz_back]
  unfold bitOf
  have e5 : (a.toNat + i) / 8 = a.toNat / 8 + i / 8 := by omega
  have e6 : (a.toNat + i) % 8 = i % 8 := by omega
  rw [e5, e6]
  congr 1
  rw [List.getD_eq_getElem?_getD, List.getD_eq_getElem?_getD, List.getElem?_take, if_pos (by simp; omega), List.getElem?_drop]
theorem inA_mod {L : List Int} {a e n : Int} (ha : a % 8 = 0) (hn : n % 8 = 0) : U.inA L a e n % 8 = 0 := by
  unfold U.inA; split <;> omega
end Rd
end Go.Proofs.YtdpcahblhjbgjaaDoor
end
