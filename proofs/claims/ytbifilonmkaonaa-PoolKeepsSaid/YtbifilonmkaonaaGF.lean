/- Parts of a proof, one behind the other: QR1 QR2 QR3 QR4. No condition. -/
import Derived.Test.YtbifilonmkaonaaGD
section
namespace Go.Proofs.Ytbifilonmkaonaa
open Go Reck Ost
set_option linter.unusedVariables false
set_option maxRecDepth 100000
def qbB (B : Rws) (c : Nat) : ABlk := rowB 4 [.b] B c false
def qmB (R : Rws) (c : Nat) : ABlk := rowB 66 qlvK R c false
def qrB (b t : Int) (s u : Cell) : Option Blk := some ⟨61, [xintC .u32 b, xintC .i64 t, s, u], none, 4, false⟩
def qrSt (b t : Int) (n : Nat) (B R : Rws) : St := ⟨[qrB b t (rslC ⟨0, 1, 0, n, n⟩) (rslC ⟨1, 3, 0, n, n⟩)], [], 0, [some (qbB B n), some (qmB R n)], 0⟩
structure U.qiI (n : Nat) (i : Int) : Prop where
  out : 0 ≤ i ∧ i ≤ n
def qcInv (J : List Nat) (s : Nat) (n : Nat) (tm : List AV) (σ : St) : Inv where
  X := Int
  tags := [0]
  tag _ _ := 0
  J := J
  val _ x := [(s, xi .i64 x)]
  st _ _ σ' := σ'
  I _ x := U.qiI n x
  m _ x := (n : Int).toNat - x.toNat
  ren := noRen
structure U.qaI (n : Nat) (i : Int) (O : Rws) (r co : Nat) : Prop where
  out : 0 ≤ i ∧ i ≤ n ∧ r = O.length ∧ (r : Int) = i ∧ r ≤ co
def qaInv (n : Nat) (tm : List AV) (σ : St) : Inv where
  X := Int × (Rws × (Nat × Nat))
  tags := [0]
  tag _ _ := 0
  J := [0, 1, 2, 4, 5, 9, 10, 11, 12, 13, 14, 15, 16, 17, 18]
  val _ x := [(8, xi .i64 x.1), (3, cell (rslC ⟨σ.arrs.length, 3, 0, x.2.2.1, x.2.2.2⟩))]
  st _ x σ' := ⟨σ'.heap, σ'.ints, σ'.opqs, σ'.arrs.dropLast ++ [some (qmB x.2.1 x.2.2.2)], σ'.junks⟩
  I _ x := U.qaI n x.1 x.2.1 x.2.2.1 x.2.2.2
  m _ x := (n : Int).toNat - x.1.toNat
  ren tm' σ' := ([], [(slotR tm' 3).a])
def invQr (n : Nat) : InvF := fun c tm σ => match tm.length, firstReg c with
  | 35, some 2 => some (qcInv [2, 3, 4, 5, 6, 7, 8, 9, 12, 13, 14, 15, 16, 17, 18, 19, 20, 21, 22, 23, 24, 25, 26, 27, 28, 29, 30, 31, 32, 33, 34] 11 n tm σ)
  | 26, some 2 => some (qcInv [2, 3, 4, 5, 6, 7, 8, 9, 12, 13, 14, 15, 16, 17, 18, 19, 20, 21, 22, 23, 24, 25] 11 n tm σ)
  | 26, some 4 => some (qcInv [2, 3, 4, 5, 6, 7, 8, 9, 10, 11, 14, 15, 16, 17, 18, 19, 20, 21, 22, 23, 24, 25] 13 n tm σ)
  | 60, some 5 => some (qcInv [3, 4, 5, 6, 7, 8, 9, 10, 11, 12, 13, 14, 15, 16, 17, 18, 19, 20, 21, 22, 23, 24, 25, 26, 29, 30, 31, 32, 33, 34, 35, 36, 37, 38, 39, 40, 41, 42, 43, 44, 45, 46, 47, 48, 49, 50, 51, 52, 53, 54, 55, 56, 57, 58, 59] 28 n tm σ)
  | 19, some 3 => some (qaInv n tm σ)
  | _, _ => none
--PLAIN
theorem rnew_vc (K : AV → St → Prop) (b n t : Int) : (runR inv0 tbl0 8 [xi .u32 b, xi .i64 n, xi .i64 t] emptySt K) = ((n < (1 : Int) → K (Sum.inr [Sum.inl (Sum.inl (Value.pointer none)), Sum.inl (Sum.inl (Value.bool false))]) { heap := [], ints := [], opqs := (0 : Nat), arrs := [], junks := (0 : Nat) }) ∧ (¬n < (1 : Int) → ((64 : Int) < n → K (Sum.inr [Sum.inl (Sum.inl (Value.pointer none)), Sum.inl (Sum.inl (Value.bool false))]) { heap := [], ints := [], opqs := (0 : Nat), arrs := [], junks := (0 : Nat) }) ∧ (¬(64 : Int) < n → (t < (1 : Int) → K (Sum.inr [Sum.inl (Sum.inl (Value.pointer none)), Sum.inl (Sum.inl (Value.bool false))]) { heap := [], ints := [], opqs := (0 : Nat), arrs := [], junks := (0 : Nat) }) ∧ (¬t < (1 : Int) → ((1048576 : Int) < t → K (Sum.inr [Sum.inl (Sum.inl (Value.pointer none)), Sum.inl (Sum.inl (Value.bool false))]) { heap := [], ints := [], opqs := (0 : Nat), arrs := [], junks := (0 : Nat) }) ∧ (¬(1048576 : Int) < t → ∀ (z0 : Int), z0 = IntKind.wrap IntKind.i64 b → ∀ (z1 : Int), z1 = IntKind.wrap IntKind.i64 (z0 + n) → ((4294967295 : Int) < z1 → K (Sum.inr [Sum.inl (Sum.inl (Value.pointer none)), Sum.inl (Sum.inl (Value.bool false))]) { heap := [], ints := [], opqs := (0 : Nat), arrs := [], junks := (0 : Nat) }) ∧ (¬(4294967295 : Int) < z1 → (((0 : Int) ≤ n ∧ n ≤ n ∧ n ≤ (16777216 : Int)) ∧ ∀ (n2 m3 : Nat) (L'4 : List (List CV)), (↑n2 : Int) = n → (↑m3 : Int) = n → L'4 = List.replicate m3 [CV.b false] → ((0 : Int) ≤ n ∧ n ≤ n ∧ n ≤ (16777216 : Int)) ∧ ∀ (n5 m6 : Nat) (L'7 : List (List CV)), (↑n5 : Int) = n → (↑m6 : Int) = n → L'7 = List.replicate m6 [CV.i (0 : Int), CV.i (0 : Int), CV.i (0 : Int)] → K (Sum.inr [Sum.inl (Sum.inr (Sum.inl ((0 : Nat), (0 : Nat)))), Sum.inl (Sum.inl (Value.bool true))]) { heap := [some { elem := nat_lit 61, cells := [Sum.inr (Sum.inr (Sum.inr (Sum.inr (Sum.inr (Sum.inr (Sum.inl (IntKind.u32, b))))))), Sum.inr (Sum.inr (Sum.inr (Sum.inr (Sum.inr (Sum.inr (Sum.inl (IntKind.i64, t))))))), Sum.inr (Sum.inr (Sum.inr (Sum.inr (Sum.inr (Sum.inr (Sum.inr (Sum.inr (Sum.inr (Sum.inr (Sum.inr (Sum.inl { a := (0 : Nat), u := (1 : Nat), o := (0 : Nat), n := n2, c := m3 }))))))))))), Sum.inr (Sum.inr (Sum.inr (Sum.inr (Sum.inr (Sum.inr (Sum.inr (Sum.inr (Sum.inr (Sum.inr (Sum.inr (Sum.inl { a := (1 : Nat), u := (3 : Nat), o := (0 : Nat), n := n5, c := m6 })))))))))))], j := none, c := (0 : Nat) + (1 : Nat) + (1 : Nat) + (1 : Nat) + (1 : Nat), z := false }], ints := [], opqs := (0 : Nat), arrs := [some { elem := (4 : Nat), k := AK.o (Obj.rows [CK.b] L'4), l := [], cap := m3, ro := false }, some { elem := (66 : Nat), k := AK.o (Obj.rows [CK.n IntKind.u64, CK.n IntKind.u32, CK.n IntKind.i64] L'7), l := [], cap := m6, ro := false }], junks := (0 : Nat) }) ∧ ((0 : Int) ≤ n ∧ n ≤ n ∧ n ≤ (16777216 : Int)) ∧ ∀ (n8 m9 : Nat) (L'10 : List (List CV)), (↑n8 : Int) = n → (↑m9 : Int) = n → L'10 = List.replicate m9 [CV.i (0 : Int), CV.i (0 : Int), CV.i (0 : Int)] → ((0 : Int) ≤ n ∧ n ≤ n ∧ n ≤ (16777216 : Int)) ∧ ∀ (n11 m12 : Nat) (L'13 : List (List CV)), (↑n11 : Int) = n → (↑m12 : Int) = n → L'13 = List.replicate m12 [CV.b false] → K (Sum.inr [Sum.inl (Sum.inr (Sum.inl ((0 : Nat), (0 : Nat)))), Sum.inl (Sum.inl (Value.bool true))]) { heap := [some { elem := nat_lit 61, cells := [Sum.inr (Sum.inr (Sum.inr (Sum.inr (Sum.inr (Sum.inr (Sum.inl (IntKind.u32, b))))))), Sum.inr (Sum.inr (Sum.inr (Sum.inr (Sum.inr (Sum.inr (Sum.inl (IntKind.i64, t))))))), Sum.inr (Sum.inr (Sum.inr (Sum.inr (Sum.inr (Sum.inr (Sum.inr (Sum.inr (Sum.inr (Sum.inr (Sum.inr (Sum.inl { a := (0 : Nat), u := (1 : Nat), o := (0 : Nat), n := n11, c := m12 }))))))))))), Sum.inr (Sum.inr (Sum.inr (Sum.inr (Sum.inr (Sum.inr (Sum.inr (Sum.inr (Sum.inr (Sum.inr (Sum.inr (Sum.inl { a := (1 : Nat), u := (3 : Nat), o := (0 : Nat), n := n8, c := m9 })))))))))))], j := none, c := (0 : Nat) + (1 : Nat) + (1 : Nat) + (1 : Nat) + (1 : Nat), z := false }], ints := [], opqs := (0 : Nat), arrs := [some { elem := (4 : Nat), k := AK.o (Obj.rows [CK.b] L'13), l := [], cap := m12, ro := false }, some { elem := (66 : Nat), k := AK.o (Obj.rows [CK.n IntKind.u64, CK.n IntKind.u32, CK.n IntKind.i64] L'10), l := [], cap := m9, ro := false }], junks := (0 : Nat) })))))) := by kernel_rfl
theorem rat_vc (K : AV → St → Prop) (b t : Int) (n : Nat) (B R : Rws) (ip : Int) : (runR (invQr n) tbl0 37 [ptr 0 0, xi .u32 ip] (qrSt b t n B R) K) = (∀ (z0 : Int), z0 = (↑n : Int) → (∃ (y1 : Int), ip = ip ∧ z0 = z0 ∧ (0 : Int) = y1 ∧ b = b ∧ t = t ∧ ((0 : Nat) = (0 : Nat) ∧ n = n ∧ n = n) ∧ ((0 : Nat) = (0 : Nat) ∧ n = n ∧ n = n) ∧ (B = B ∧ n = n ∧ false = false) ∧ (R = R ∧ n = n ∧ false = false) ∧ U.qiI n y1) ∧ ∀ (x2 : Int), U.qiI n x2 → (x2 < z0 → ∀ (z3 : Int), z3 = IntKind.wrap IntKind.u32 (b + (1 : Int)) → ∀ (z4 : Int), z4 = IntKind.wrap IntKind.u32 x2 → ∀ (z5 : Int), z5 = IntKind.wrap IntKind.u32 (z3 + z4) → (z5 = ip → K (Sum.inl (Sum.inl (Sum.inr (Sum.inr (Sum.inr (Sum.inr (Sum.inr (Sum.inr (Sum.inl (IntKind.i64, x2)))))))))) { heap := [some { elem := nat_lit 61, cells := [Sum.inr (Sum.inr (Sum.inr (Sum.inr (Sum.inr (Sum.inr (Sum.inl (IntKind.u32, b))))))), Sum.inr (Sum.inr (Sum.inr (Sum.inr (Sum.inr (Sum.inr (Sum.inl (IntKind.i64, t))))))), Sum.inr (Sum.inr (Sum.inr (Sum.inr (Sum.inr (Sum.inr (Sum.inr (Sum.inr (Sum.inr (Sum.inr (Sum.inr (Sum.inl { a := (0 : Nat), u := (1 : Nat), o := (0 : Nat), n := n, c := n }))))))))))), Sum.inr (Sum.inr (Sum.inr (Sum.inr (Sum.inr (Sum.inr (Sum.inr (Sum.inr (Sum.inr (Sum.inr (Sum.inr (Sum.inl { a := (1 : Nat), u := (3 : Nat), o := (0 : Nat), n := n, c := n })))))))))))], j := none, c := (4 : Nat), z := false }], ints := [], opqs := (0 : Nat), arrs := [some { elem := (4 : Nat), k := AK.o (Obj.rows [CK.b] B), l := [], cap := n, ro := false }, some { elem := (66 : Nat), k := AK.o (Obj.rows [CK.n IntKind.u64, CK.n IntKind.u32, CK.n IntKind.i64] R), l := [], cap := n, ro := false }], junks := (0 : Nat) }) ∧ (¬z5 = ip → ∀ (z6 : Int), z6 = IntKind.wrap IntKind.i64 (x2 + (1 : Int)) → ∃ (y7 : Int), ip = ip ∧ z0 = z0 ∧ z6 = y7 ∧ b = b ∧ t = t ∧ ((0 : Nat) = (0 : Nat) ∧ n = n ∧ n = n) ∧ ((0 : Nat) = (0 : Nat) ∧ n = n ∧ n = n) ∧ (B = B ∧ n = n ∧ false = false) ∧ (R = R ∧ n = n ∧ false = false) ∧ U.qiI n y7 ∧ Int.toNat (↑n : Int) - Int.toNat y7 < Int.toNat (↑n : Int) - Int.toNat x2)) ∧ (¬x2 < z0 → K (Sum.inl (Sum.inl (Sum.inr (Sum.inr (Sum.inr (Sum.inr (Sum.inr (Sum.inr (Sum.inl (IntKind.i64, (-1 : Int))))))))))) { heap := [some { elem := nat_lit 61, cells := [Sum.inr (Sum.inr (Sum.inr (Sum.inr (Sum.inr (Sum.inr (Sum.inl (IntKind.u32, b))))))), Sum.inr (Sum.inr (Sum.inr (Sum.inr (Sum.inr (Sum.inr (Sum.inl (IntKind.i64, t))))))), Sum.inr (Sum.inr (Sum.inr (Sum.inr (Sum.inr (Sum.inr (Sum.inr (Sum.inr (Sum.inr (Sum.inr (Sum.inr (Sum.inl { a := (0 : Nat), u := (1 : Nat), o := (0 : Nat), n := n, c := n }))))))))))), Sum.inr (Sum.inr (Sum.inr (Sum.inr (Sum.inr (Sum.inr (Sum.inr (Sum.inr (Sum.inr (Sum.inr (Sum.inr (Sum.inl { a := (1 : Nat), u := (3 : Nat), o := (0 : Nat), n := n, c := n })))))))))))], j := none, c := (4 : Nat), z := false }], ints := [], opqs := (0 : Nat), arrs := [some { elem := (4 : Nat), k := AK.o (Obj.rows [CK.b] B), l := [], cap := n, ro := false }, some { elem := (66 : Nat), k := AK.o (Obj.rows [CK.n IntKind.u64, CK.n IntKind.u32, CK.n IntKind.i64] R), l := [], cap := n, ro := false }], junks := (0 : Nat) })) := by kernel_rfl
theorem rwhose_vc (K : AV → St → Prop) (b t : Int) (n : Nat) (B R : Rws) (m : Int) : (runR (invQr n) tbl0 36 [ptr 0 0, xi .u64 m] (qrSt b t n B R) K) = (∀ (z0 : Int), z0 = (↑n : Int) → (∃ (y1 : Int), m = m ∧ z0 = z0 ∧ (0 : Int) = y1 ∧ b = b ∧ t = t ∧ ((0 : Nat) = (0 : Nat) ∧ n = n ∧ n = n) ∧ ((0 : Nat) = (0 : Nat) ∧ n = n ∧ n = n) ∧ (B = B ∧ n = n ∧ false = false) ∧ (R = R ∧ n = n ∧ false = false) ∧ U.qiI n y1) ∧ ∀ (x2 : Int), U.qiI n x2 → (x2 < z0 → ((0 : Int) ≤ x2 ∧ x2 < (↑n : Int)) ∧ ∀ (j3 : Nat), (↑j3 : Int) = (↑((0 : Nat)) : Int) + x2 → j3 < List.length B ∧ (U.fb B j3 ((0 : Nat)) = true → ((0 : Int) ≤ x2 ∧ x2 < (↑n : Int)) ∧ ∀ (j4 : Nat), (↑j4 : Int) = (↑((0 : Nat)) : Int) + x2 → j4 < List.length R ∧ ∀ (z5 : Int), z5 = U.fi R j4 ((0 : Nat) + (0 : Nat)) → (z5 = m → K (Sum.inl (Sum.inl (Sum.inr (Sum.inr (Sum.inr (Sum.inr (Sum.inr (Sum.inr (Sum.inl (IntKind.i64, x2)))))))))) { heap := [some { elem := nat_lit 61, cells := [Sum.inr (Sum.inr (Sum.inr (Sum.inr (Sum.inr (Sum.inr (Sum.inl (IntKind.u32, b))))))), Sum.inr (Sum.inr (Sum.inr (Sum.inr (Sum.inr (Sum.inr (Sum.inl (IntKind.i64, t))))))), Sum.inr (Sum.inr (Sum.inr (Sum.inr (Sum.inr (Sum.inr (Sum.inr (Sum.inr (Sum.inr (Sum.inr (Sum.inr (Sum.inl { a := (0 : Nat), u := (1 : Nat), o := (0 : Nat), n := n, c := n }))))))))))), Sum.inr (Sum.inr (Sum.inr (Sum.inr (Sum.inr (Sum.inr (Sum.inr (Sum.inr (Sum.inr (Sum.inr (Sum.inr (Sum.inl { a := (1 : Nat), u := (3 : Nat), o := (0 : Nat), n := n, c := n })))))))))))], j := none, c := (4 : Nat), z := false }], ints := [], opqs := (0 : Nat), arrs := [some { elem := (4 : Nat), k := AK.o (Obj.rows [CK.b] B), l := [], cap := n, ro := false }, some { elem := (66 : Nat), k := AK.o (Obj.rows [CK.n IntKind.u64, CK.n IntKind.u32, CK.n IntKind.i64] R), l := [], cap := n, ro := false }], junks := (0 : Nat) }) ∧ (¬z5 = m → ∀ (z6 : Int), z6 = IntKind.wrap IntKind.i64 (x2 + (1 : Int)) → ∃ (y7 : Int), m = m ∧ z0 = z0 ∧ z6 = y7 ∧ b = b ∧ t = t ∧ ((0 : Nat) = (0 : Nat) ∧ n = n ∧ n = n) ∧ ((0 : Nat) = (0 : Nat) ∧ n = n ∧ n = n) ∧ (B = B ∧ n = n ∧ false = false) ∧ (R = R ∧ n = n ∧ false = false) ∧ U.qiI n y7 ∧ Int.toNat (↑n : Int) - Int.toNat y7 < Int.toNat (↑n : Int) - Int.toNat x2)) ∧ (U.fb B j3 ((0 : Nat)) = false → ∀ (z8 : Int), z8 = IntKind.wrap IntKind.i64 (x2 + (1 : Int)) → ∃ (y9 : Int), m = m ∧ z0 = z0 ∧ z8 = y9 ∧ b = b ∧ t = t ∧ ((0 : Nat) = (0 : Nat) ∧ n = n ∧ n = n) ∧ ((0 : Nat) = (0 : Nat) ∧ n = n ∧ n = n) ∧ (B = B ∧ n = n ∧ false = false) ∧ (R = R ∧ n = n ∧ false = false) ∧ U.qiI n y9 ∧ Int.toNat (↑n : Int) - Int.toNat y9 < Int.toNat (↑n : Int) - Int.toNat x2)) ∧ (¬x2 < z0 → K (Sum.inl (Sum.inl (Sum.inr (Sum.inr (Sum.inr (Sum.inr (Sum.inr (Sum.inr (Sum.inl (IntKind.i64, (-1 : Int))))))))))) { heap := [some { elem := nat_lit 61, cells := [Sum.inr (Sum.inr (Sum.inr (Sum.inr (Sum.inr (Sum.inr (Sum.inl (IntKind.u32, b))))))), Sum.inr (Sum.inr (Sum.inr (Sum.inr (Sum.inr (Sum.inr (Sum.inl (IntKind.i64, t))))))), Sum.inr (Sum.inr (Sum.inr (Sum.inr (Sum.inr (Sum.inr (Sum.inr (Sum.inr (Sum.inr (Sum.inr (Sum.inr (Sum.inl { a := (0 : Nat), u := (1 : Nat), o := (0 : Nat), n := n, c := n }))))))))))), Sum.inr (Sum.inr (Sum.inr (Sum.inr (Sum.inr (Sum.inr (Sum.inr (Sum.inr (Sum.inr (Sum.inr (Sum.inr (Sum.inl { a := (1 : Nat), u := (3 : Nat), o := (0 : Nat), n := n, c := n })))))))))))], j := none, c := (4 : Nat), z := false }], ints := [], opqs := (0 : Nat), arrs := [some { elem := (4 : Nat), k := AK.o (Obj.rows [CK.b] B), l := [], cap := n, ro := false }, some { elem := (66 : Nat), k := AK.o (Obj.rows [CK.n IntKind.u64, CK.n IntKind.u32, CK.n IntKind.i64] R), l := [], cap := n, ro := false }], junks := (0 : Nat) })) := by kernel_rfl
theorem rsame_vc (K : AV → St → Prop) (A B : Rws) (n c m d : Nat) : (runR (invQr n) tbl0 24 [cell (rslC ⟨0, 3, 0, n, c⟩), cell (rslC ⟨1, 3, 0, m, d⟩)] ⟨[], [], 0, [some (qmB A c), some (qmB B d)], 0⟩ K) = (∀ (z0 : Int), z0 = (↑n : Int) → ∀ (z1 : Int), z1 = (↑m : Int) → (¬z0 = z1 → K (Sum.inl (Sum.inl (Sum.inl (Value.bool false)))) { heap := [], ints := [], opqs := (0 : Nat), arrs := [some { elem := (66 : Nat), k := AK.o (Obj.rows [CK.n IntKind.u64, CK.n IntKind.u32, CK.n IntKind.i64] A), l := [], cap := c, ro := false }, some { elem := (66 : Nat), k := AK.o (Obj.rows [CK.n IntKind.u64, CK.n IntKind.u32, CK.n IntKind.i64] B), l := [], cap := d, ro := false }], junks := (0 : Nat) }) ∧ (¬¬z0 = z1 → ∀ (z2 : Int), z2 = (↑n : Int) → (∃ (y3 : Int), ((0 : Nat) = (0 : Nat) ∧ n = n ∧ c = c) ∧ ((0 : Nat) = (0 : Nat) ∧ m = m ∧ d = d) ∧ z2 = z2 ∧ (0 : Int) = y3 ∧ (A = A ∧ c = c ∧ false = false) ∧ (B = B ∧ d = d ∧ false = false) ∧ U.qiI n y3) ∧ ∀ (x4 : Int), U.qiI n x4 → (x4 < z2 → ((0 : Int) ≤ x4 ∧ x4 < (↑n : Int)) ∧ ∀ (j5 : Nat), (↑j5 : Int) = (↑((0 : Nat)) : Int) + x4 → j5 < List.length A ∧ ∀ (z6 : Int), z6 = U.fi A j5 ((0 : Nat)) → ∀ (z7 : Int), z7 = U.fi A j5 ((0 : Nat) + (1 : Nat)) → ∀ (z8 : Int), z8 = U.fi A j5 ((0 : Nat) + (1 : Nat) + (1 : Nat)) → ((0 : Int) ≤ x4 ∧ x4 < (↑m : Int)) ∧ ∀ (j9 : Nat), (↑j9 : Int) = (↑((0 : Nat)) : Int) + x4 → j9 < List.length B ∧ ∀ (z10 : Int), z10 = U.fi B j9 ((0 : Nat)) → ∀ (z11 : Int), z11 = U.fi B j9 ((0 : Nat) + (1 : Nat)) → ∀ (z12 : Int), z12 = U.fi B j9 ((0 : Nat) + (1 : Nat) + (1 : Nat)) → (¬(z6 = z10 ∧ z7 = z11 ∧ z8 = z12 ∧ True) → K (Sum.inl (Sum.inl (Sum.inl (Value.bool false)))) { heap := [], ints := [], opqs := (0 : Nat), arrs := [some { elem := (66 : Nat), k := AK.o (Obj.rows [CK.n IntKind.u64, CK.n IntKind.u32, CK.n IntKind.i64] A), l := [], cap := c, ro := false }, some { elem := (66 : Nat), k := AK.o (Obj.rows [CK.n IntKind.u64, CK.n IntKind.u32, CK.n IntKind.i64] B), l := [], cap := d, ro := false }], junks := (0 : Nat) }) ∧ (¬¬(z6 = z10 ∧ z7 = z11 ∧ z8 = z12 ∧ True) → ∀ (z13 : Int), z13 = IntKind.wrap IntKind.i64 (x4 + (1 : Int)) → ∃ (y14 : Int), ((0 : Nat) = (0 : Nat) ∧ n = n ∧ c = c) ∧ ((0 : Nat) = (0 : Nat) ∧ m = m ∧ d = d) ∧ z2 = z2 ∧ z13 = y14 ∧ (A = A ∧ c = c ∧ false = false) ∧ (B = B ∧ d = d ∧ false = false) ∧ U.qiI n y14 ∧ Int.toNat (↑n : Int) - Int.toNat y14 < Int.toNat (↑n : Int) - Int.toNat x4)) ∧ (¬x4 < z2 → K (Sum.inl (Sum.inl (Sum.inl (Value.bool true)))) { heap := [], ints := [], opqs := (0 : Nat), arrs := [some { elem := (66 : Nat), k := AK.o (Obj.rows [CK.n IntKind.u64, CK.n IntKind.u32, CK.n IntKind.i64] A), l := [], cap := c, ro := false }, some { elem := (66 : Nat), k := AK.o (Obj.rows [CK.n IntKind.u64, CK.n IntKind.u32, CK.n IntKind.i64] B), l := [], cap := d, ro := false }], junks := (0 : Nat) }))) := by kernel_rfl
theorem rplain_vc (K : AV → St → Prop) (A : Rws) (n c : Nat) : (runR (invQr n) tbl0 25 [cell (rslC ⟨0, 3, 0, n, c⟩)] ⟨[], [], 0, [some (qlvB A c)], 0⟩ K) = (∀ (z0 : Int), z0 = (↑n : Int) → (∃ (y1 : Int × Rws × Nat × Nat), ((0 : Nat) = (0 : Nat) ∧ (0 : Nat) = Prod.fst (Prod.snd (Prod.snd y1)) ∧ (0 : Nat) = Prod.snd (Prod.snd (Prod.snd y1))) ∧ ((0 : Nat) = (0 : Nat) ∧ n = n ∧ c = c) ∧ z0 = z0 ∧ (0 : Int) = Prod.fst y1 ∧ (A = A ∧ c = c ∧ false = false) ∧ (U.nilL = U.nilL ∧ (0 : Nat) = (0 : Nat) ∧ false = false) ∧ (U.nilL = Prod.fst (Prod.snd y1) ∧ (0 : Nat) = Prod.snd (Prod.snd (Prod.snd y1)) ∧ false = false) ∧ U.qaI n (Prod.fst y1) (Prod.fst (Prod.snd y1)) (Prod.fst (Prod.snd (Prod.snd y1))) (Prod.snd (Prod.snd (Prod.snd y1)))) ∧ ∀ (x2 : Int × Rws × Nat × Nat), U.qaI n (Prod.fst x2) (Prod.fst (Prod.snd x2)) (Prod.fst (Prod.snd (Prod.snd x2))) (Prod.snd (Prod.snd (Prod.snd x2))) → (Prod.fst x2 < z0 → ((0 : Int) ≤ Prod.fst x2 ∧ Prod.fst x2 < (↑n : Int)) ∧ ∀ (j3 : Nat), (↑j3 : Int) = (↑((0 : Nat)) : Int) + Prod.fst x2 → j3 < List.length A ∧ ∀ (z4 : Int), z4 = U.fi A j3 ((0 : Nat)) → ∀ (z5 : Int), z5 = U.fi A j3 ((0 : Nat) + (1 : Nat)) → ∀ (z6 : Int), z6 = U.fi A j3 ((0 : Nat) + (1 : Nat) + (1 : Nat)) → ((0 : Nat) + Prod.fst (Prod.snd (Prod.snd x2)) ≤ List.length (Prod.fst (Prod.snd x2)) ∧ (0 : Nat) + Prod.snd (Prod.snd (Prod.snd x2)) ≤ Prod.snd (Prod.snd (Prod.snd x2))) ∧ True ∧ Prod.fst (Prod.snd (Prod.snd x2)) ≤ (16777216 : Nat) ∧ (1 : Nat) ≤ (16777216 : Nat) ∧ ∀ (L'7 : List (List CV)) (n'8 c'9 : Nat), L'7 = List.take (Prod.fst (Prod.snd (Prod.snd x2))) (List.drop ((0 : Nat)) (Prod.fst (Prod.snd x2))) ++ [CV.i z4, CV.i z5, CV.i z6] :: U.nilL → n'8 = Prod.fst (Prod.snd (Prod.snd x2)) + (1 : Nat) → n'8 ≤ c'9 → ∀ (z10 : Int), z10 = IntKind.wrap IntKind.i64 (Prod.fst x2 + (1 : Int)) → ∃ (y11 : Int × Rws × Nat × Nat), ((0 : Nat) = (0 : Nat) ∧ n'8 = Prod.fst (Prod.snd (Prod.snd y11)) ∧ c'9 = Prod.snd (Prod.snd (Prod.snd y11))) ∧ ((0 : Nat) = (0 : Nat) ∧ n = n ∧ c = c) ∧ z0 = z0 ∧ z10 = Prod.fst y11 ∧ (A = A ∧ c = c ∧ false = false) ∧ (U.nilL = U.nilL ∧ (0 : Nat) = (0 : Nat) ∧ false = false) ∧ (L'7 = Prod.fst (Prod.snd y11) ∧ c'9 = Prod.snd (Prod.snd (Prod.snd y11)) ∧ false = false) ∧ U.qaI n (Prod.fst y11) (Prod.fst (Prod.snd y11)) (Prod.fst (Prod.snd (Prod.snd y11))) (Prod.snd (Prod.snd (Prod.snd y11))) ∧ Int.toNat (↑n : Int) - Int.toNat (Prod.fst y11) < Int.toNat (↑n : Int) - Int.toNat (Prod.fst x2)) ∧ (¬Prod.fst x2 < z0 → K (Sum.inl (Sum.inl (Sum.inr (Sum.inr (Sum.inr (Sum.inr (Sum.inr (Sum.inr (Sum.inr (Sum.inr (Sum.inr (Sum.inr (Sum.inr (Sum.inl { a := (1 : Nat), u := (3 : Nat), o := (0 : Nat), n := Prod.fst (Prod.snd (Prod.snd x2)), c := Prod.snd (Prod.snd (Prod.snd x2)) })))))))))))))) { heap := [], ints := [], opqs := (0 : Nat), arrs := [some { elem := (41 : Nat), k := AK.o (Obj.rows [CK.n IntKind.u64, CK.n IntKind.u32, CK.n IntKind.i64] A), l := [], cap := c, ro := false }, some { elem := (66 : Nat), k := AK.o (Obj.rows [CK.n IntKind.u64, CK.n IntKind.u32, CK.n IntKind.i64] (Prod.fst (Prod.snd x2))), l := [], cap := Prod.snd (Prod.snd (Prod.snd x2)), ro := false }], junks := (0 : Nat) })) := by kernel_rfl
end Go.Proofs.Ytbifilonmkaonaa
end

section
set_option linter.unusedVariables false
set_option linter.unusedSimpArgs false
set_option maxRecDepth 10000
namespace Go.Proofs.Ytbifilonmkaonaa
open Go Reck Ost
structure U.Qr (n : Nat) (B R : Rws) : Prop where
  out : n ≤ 64 ∧ B.length = n ∧ R.length = n
def qrC (σ : St) : Option (Int × Int × Nat × Rws × Rws) := match σ with
  | ⟨[some ⟨61, [x, y, s, u], none, 4, false⟩], [], 0, [some ⟨4, .o (.rows [.b] B), [], c0, false⟩, some ⟨66, .o (.rows ks R), [], d0, false⟩], 0⟩ => match cIntK .u32 x, cInt y, cRsl s, cRsl u, sameK ks qlvK with
    | some b, some t, some ⟨0, 1, 0, n, c⟩, some ⟨1, 3, 0, m, d⟩, true => some (b, t, n, B, R)
    | _, _, _, _, _ => none
  | _ => none
def qrD (σ : St) : Prop := match σ with
  | ⟨[some ⟨_, [_, _, s, u], _, _, _⟩], _, _, [some ⟨_, _, _, c0, _⟩, some ⟨_, _, _, d0, _⟩], _⟩ => (match cRsl s, cRsl u with
    | some ⟨_, _, _, n, c⟩, some ⟨_, _, _, m, d⟩ => c = n ∧ c0 = n ∧ m = n ∧ d = n ∧ d0 = n
    | _, _ => False)
  | _ => False
theorem qrC_eq {σ : St} {b t : Int} {n : Nat} {B R : Rws} (h : qrC σ = some (b, t, n, B, R)) (hy : qrD σ) : σ = qrSt b t n B R := by
  unfold qrC at h
  split at h
  · split at h
    · rename_i h1 h2 h3 h4 h5
      simp only [Option.some.injEq, Prod.mk.injEq] at h
      obtain ⟨rfl, rfl, rfl, rfl, rfl⟩ := h
      simp only [qrD, h3, h4] at hy
      obtain ⟨rfl, rfl, rfl, rfl, rfl⟩ := hy
      rw [cIntK_eq h1, cInt_eq h2, cRsl_eq h3, cRsl_eq h4, sameK_eq h5]
      rfl
    · cases h
  · cases h
theorem rnew_run (K : AV → St → Prop) (b n t : Int) (hb : 0 ≤ b ∧ b ≤ 4294967295) (h1 : ¬ U.qGood b n t → K (.inr [.inl (.inl (.pointer none)), .inl (.inl (.bool false))]) emptySt) (h2 : U.qGood b n t → ∀ (m : Nat) (B R : Rws), (m : Int) = n → U.Qr m B R → K (.inr [.inl (.inr (.inl (0, 0))), .inl (.inl (.bool true))]) (qrSt b t m B R)) : runR inv0 tbl0 8 [xi .u32 b, xi .i64 n, xi .i64 t] emptySt K := by
  rw [rnew_vc]
  refine ⟨fun h => h1 fun g => by have := g.out; omega, fun g1 => ⟨fun h => h1 fun g => by have := g.out; omega, fun g2 => ⟨fun h => h1 fun g => by have := g.out; omega, fun g3 => ⟨fun h => h1 fun g => by have := g.out; omega, fun g4 z0 e0 z1 e1 => ?_⟩⟩⟩⟩
  have e0 := iw e0 (by omega)
  have e1 := iw e1 (by omega)
  refine ⟨fun h => h1 fun g => by have := g.out; omega, fun g5 => ⟨⟨by omega, fun n2 m3 L4 a1 a2 a3 => ⟨by omega, fun n5 m6 L7 a4 a5 a6 => ?_⟩⟩, by omega, fun n2 m3 L4 a1 a2 a3 => ⟨by omega, fun n5 m6 L7 a4 a5 a6 => ?_⟩⟩⟩
  all_goals
    obtain rfl : m3 = n2 := by omega
    obtain rfl : m6 = m3 := by omega
    obtain rfl : n5 = m6 := by omega
    exact h2 ⟨by omega⟩ _ _ _ a1 ⟨by omega, by (first | rw [a3] | rw [a6]); simp, by (first | rw [a6]; simp; done | rw [a3]; simp)⟩
def prnew : Pat := fun args σ => match args, σ with
  | [x, y, z], ⟨[], [], 0, [], 0⟩ => match aIntK .u32 x, aInt y, aInt z with
    | some b, some n, some t => some fun K => (0 ≤ b ∧ b ≤ 4294967295) ∧ (¬ U.qGood b n t → K (.inr [.inl (.inl (.pointer none)), .inl (.inl (.bool false))]) emptySt) ∧ (U.qGood b n t → ∀ (m : Nat) (B R : Rws), (m : Int) = n → U.Qr m B R → K (.inr [.inl (.inr (.inl (0, 0))), .inl (.inl (.bool true))]) (qrSt b t m B R))
    | _, _, _ => none
  | _, _ => none
theorem prnew_ok : PatOk 8 prnew := by
  intro tm σ C h K hK w0 e w hk vs hvs
  unfold prnew at h
  split at h
  · split at h
    · rename_i h0 h1 h2
      simp only [Option.some.injEq] at h; subst h
      obtain ⟨y0, y1, y2, rfl, q0, q1, q2⟩ := threes hvs
      exact knownC noOv names (conOk_ofR tbl0_ok) (rnew_run K _ _ _ hK.1 hK.2.1 hK.2.2) w0 e w hk _ (map3 (as_aIntK h0 q0) (as_aInt h1 q1) (as_aInt h2 q2))
    · cases h
  · cases h
structure U.qK (n : Nat) (k : Int) : Prop where
  out : -1 ≤ k ∧ k < n
theorem rat_run (K : AV → St → Prop) (b t : Int) (n : Nat) (B R : Rws) (hQ : U.Qr n B R) (ip : Int) (hK : ∀ k : Int, U.qK n k → K (xi .i64 k) (qrSt b t n B R)) : runR (invQr n) tbl0 37 [ptr 0 0, xi .u32 ip] (qrSt b t n B R) K := by
  have hn := hQ.out
  rw [rat_vc]
  refine fun z0 h0 => ⟨?_, ?_⟩
  · refine ⟨0, ?_⟩
    repeat' (first | exact rfl | with_reducible apply And.intro)
    exact ⟨by omega, by omega⟩
  rintro i ⟨i1, i2⟩
  refine ⟨fun hi z3 _ z4 _ z5 _ => ⟨fun _ => hK i ⟨by omega, by omega⟩, fun _ z6 h6 => ?_⟩, fun _ => hK (-1) ⟨by omega, by omega⟩⟩
  have e6 := iw h6 (by omega)
  refine ⟨z6, ?_⟩
  repeat' (first | exact rfl | with_reducible apply And.intro)
  · exact ⟨by omega, by omega⟩
  · omega
def prat : Pat := fun args σ => match args with
  | [.inl (.inl (.inr (.inl (0, 0)))), a0] => match aIntK .u32 a0, qrC σ with
    | some ip, some (b, t, n, B, R) => some fun K => (qrD σ ∧ U.Qr n B R) ∧ ∀ k : Int, U.qK n k → K (xi .i64 k) (qrSt b t n B R)
    | _, _ => none
  | _ => none
theorem prat_ok : PatOk 37 prat := by
  intro tm σ C h K hK w0 e w hk vs hvs
  unfold prat at h
  split at h
  · split at h
    · rename_i h0 hσ
      simp only [Option.some.injEq] at h; subst h
      obtain ⟨⟨hd, hQ⟩, hP⟩ := hK
      obtain rfl := qrC_eq hσ hd
      obtain ⟨y0, y1, rfl, q0, q1⟩ := twos hvs
      exact knownC noOv names (conOk_ofR tbl0_ok) (rat_run K _ _ _ _ _ hQ _ hP) w0 e w hk _ (map2 q0 (as_aIntK h0 q1))
    · cases h
  · cases h
theorem rwhose_run (K : AV → St → Prop) (b t : Int) (n : Nat) (B R : Rws) (hQ : U.Qr n B R) (m : Int) (hK : ∀ k : Int, U.qK n k → K (xi .i64 k) (qrSt b t n B R)) : runR (invQr n) tbl0 36 [ptr 0 0, xi .u64 m] (qrSt b t n B R) K := by
  have hn := hQ.out
  rw [rwhose_vc]
  refine fun z0 h0 => ⟨?_, ?_⟩
  · refine ⟨0, ?_⟩
    repeat' (first | exact rfl | with_reducible apply And.intro)
    exact ⟨by omega, by omega⟩
  rintro i ⟨i1, i2⟩
  refine ⟨fun hi => ⟨by omega, fun j hj => ⟨by omega, fun _ => ⟨by omega, fun j4 hj4 => ⟨by omega, fun z5 _ => ⟨fun _ => hK i ⟨by omega, by omega⟩, fun _ z6 h6 => ?_⟩⟩⟩, fun _ z6 h6 => ?_⟩⟩, fun _ => hK (-1) ⟨by omega, by omega⟩⟩
  all_goals
    have e6 := iw h6 (by omega)
    refine ⟨z6, ?_⟩
    repeat' (first | exact rfl | with_reducible apply And.intro)
    · exact ⟨by omega, by omega⟩
    · omega
def prwhose : Pat := fun args σ => match args with
  | [.inl (.inl (.inr (.inl (0, 0)))), a0] => match aIntK .u64 a0, qrC σ with
    | some m, some (b, t, n, B, R) => some fun K => (qrD σ ∧ U.Qr n B R) ∧ ∀ k : Int, U.qK n k → K (xi .i64 k) (qrSt b t n B R)
    | _, _ => none
  | _ => none
theorem prwhose_ok : PatOk 36 prwhose := by
  intro tm σ C h K hK w0 e w hk vs hvs
  unfold prwhose at h
  split at h
  · split at h
    · rename_i h0 hσ
      simp only [Option.some.injEq] at h; subst h
      obtain ⟨⟨hd, hQ⟩, hP⟩ := hK
      obtain rfl := qrC_eq hσ hd
      obtain ⟨y0, y1, rfl, q0, q1⟩ := twos hvs
      exact knownC noOv names (conOk_ofR tbl0_ok) (rwhose_run K _ _ _ _ _ hQ _ hP) w0 e w hk _ (map2 q0 (as_aIntK h0 q1))
    · cases h
  · cases h
theorem rsame_run (K : AV → St → Prop) (A B : Rws) (n c m d : Nat) (hA : n ≤ A.length) (hB : m ≤ B.length) (hn : n ≤ 1000) (h1 : K (lit (.bool true)) ⟨[], [], 0, [some (qmB A c), some (qmB B d)], 0⟩) (h2 : K (lit (.bool false)) ⟨[], [], 0, [some (qmB A c), some (qmB B d)], 0⟩) : runR (invQr n) tbl0 24 [cell (rslC ⟨0, 3, 0, n, c⟩), cell (rslC ⟨1, 3, 0, m, d⟩)] ⟨[], [], 0, [some (qmB A c), some (qmB B d)], 0⟩ K := by
  rw [rsame_vc]
  refine fun z0 h0 z1 h1' => ⟨fun _ => h2, fun hnn z2 h2' => ⟨?_, ?_⟩⟩
  · refine ⟨0, ?_⟩
    repeat' (first | exact rfl | with_reducible apply And.intro)
    exact ⟨by omega, by omega⟩
  have hz : z0 = z1 := Classical.not_not.1 hnn
  rintro i ⟨i1, i2⟩
  refine ⟨fun hi => ⟨by omega, fun j hj => ⟨by omega, fun z6 _ z7 _ z8 _ => ⟨by omega, fun j9 hj9 => ⟨by omega, fun z10 _ z11 _ z12 _ => ⟨fun _ => h2, fun _ z13 h13 => ?_⟩⟩⟩⟩⟩, fun _ => h1⟩
  have e13 := iw h13 (by omega)
  refine ⟨z13, ?_⟩
  repeat' (first | exact rfl | with_reducible apply And.intro)
  · exact ⟨by omega, by omega⟩
  · omega
def prsame : Pat := fun args σ => match args, σ with
  | [x, y], ⟨[], [], 0, [some ⟨66, .o (.rows ks A), [], c0, false⟩, some ⟨66, .o (.rows ls B), [], d0, false⟩], 0⟩ => match rslX x, rslX y, sameK ks qlvK, sameK ls qlvK with
    | some ⟨0, 3, 0, n, c⟩, some ⟨1, 3, 0, m, d⟩, true, true => some fun K => (c = c0 ∧ d = d0 ∧ n ≤ A.length ∧ m ≤ B.length ∧ n ≤ 1000) ∧ K (lit (.bool true)) ⟨[], [], 0, [some (qmB A c0), some (qmB B d0)], 0⟩ ∧ K (lit (.bool false)) ⟨[], [], 0, [some (qmB A c0), some (qmB B d0)], 0⟩
    | _, _, _, _ => none
  | _, _ => none
theorem prsame_ok : PatOk 24 prsame := by
  intro tm σ C h K hK w0 e w hk vs hvs
  unfold prsame at h
  split at h
  · split at h
    · rename_i h0 h1 h2 h3
      simp only [Option.some.injEq] at h; subst h
      obtain ⟨⟨rfl, rfl, a1, a2, a3⟩, h4, h5⟩ := hK
      obtain rfl := rslX_eq h0
      obtain rfl := rslX_eq h1
      obtain rfl := sameK_eq h2
      obtain rfl := sameK_eq h3
      exact knownC noOv names (conOk_ofR tbl0_ok) (rsame_run K _ _ _ _ _ _ a1 a2 a3 h4 h5) w0 e w hk vs hvs
    · cases h
  · cases h
theorem rplain_run (K : AV → St → Prop) (A : Rws) (n c : Nat) (hA : n ≤ A.length) (hn : n ≤ 1000) (hK : ∀ (O : Rws) (r co : Nat), r = n → r ≤ O.length → r ≤ co → K (cell (rslC ⟨1, 3, 0, r, co⟩)) ⟨[], [], 0, [some (qlvB A c), some (qmB O co)], 0⟩) : runR (invQr n) tbl0 25 [cell (rslC ⟨0, 3, 0, n, c⟩)] ⟨[], [], 0, [some (qlvB A c)], 0⟩ K := by
  rw [rplain_vc]
  refine fun z0 h0 => ⟨?_, ?_⟩
  · refine ⟨(0, ([], (0, 0))), ?_⟩
    repeat' (first | exact rfl | with_reducible apply And.intro)
    exact ⟨by decide, by dsimp only; omega, rfl, rfl, Nat.le_refl _⟩
  rintro ⟨i, O, r, co⟩ hI
  obtain ⟨i1, i2, i3, i4, i5⟩ := hI.out
  dsimp only at i1 i2 i3 i4 i5 ⊢
  refine ⟨fun hi => ⟨by omega, fun j hj => ⟨by omega, fun z4 _ z5 _ z6 _ => ⟨by omega, trivial, by omega, by decide, fun L7 n8 c9 e7 e8 e9 z10 h10 => ?_⟩⟩⟩, fun hi => hK O r co (by omega) (by omega) i5⟩
  have e10 := iw h10 (by omega)
  refine ⟨(z10, (L7, (n8, c9))), ?_⟩
  repeat' (first | exact rfl | with_reducible apply And.intro)
  · refine ⟨by dsimp only; omega, by dsimp only; omega, ?_, by dsimp only; omega, e9⟩
    dsimp only
    have hnl : List.length ([CV.i 0] :: (U.nilL : List (List CV))) = 1 := rfl
    rw [List.length_cons] at hnl
    rw [e7, List.length_append, List.drop_zero, List.length_take, e8, List.length_cons]
    omega
  · dsimp only; omega
def prplain : Pat := fun args σ => match args, σ with
  | [x], ⟨[], [], 0, [some ⟨41, .o (.rows ks A), [], c0, false⟩], 0⟩ => match rslX x, sameK ks qlvK with
    | some ⟨0, 3, 0, n, c⟩, true => some fun K => (c = c0 ∧ n ≤ A.length ∧ n ≤ 1000) ∧ ∀ (O : Rws) (r co : Nat), r = n → r ≤ O.length → r ≤ co → K (cell (rslC ⟨1, 3, 0, r, co⟩)) ⟨[], [], 0, [some (qlvB A c0), some (qmB O co)], 0⟩
    | _, _ => none
  | _, _ => none
theorem prplain_ok : PatOk 25 prplain := by
  intro tm σ C h K hK w0 e w hk vs hvs
  unfold prplain at h
  split at h
  · split at h
    · rename_i h0 h1
      simp only [Option.some.injEq] at h; subst h
      obtain ⟨⟨rfl, a1, a2⟩, h4⟩ := hK
      obtain rfl := rslX_eq h0
      obtain rfl := sameK_eq h1
      exact knownC noOv names (conOk_ofR tbl0_ok) (rplain_run K _ _ _ a1 a2 h4) w0 e w hk vs hvs
    · cases h
  · cases h
def tR2 : Tbl := tblOr (tblIf 8 prnew) (tblOr (tblIf 37 prat) (tblOr (tblIf 36 prwhose) (tblOr (tblIf 24 prsame) (tblIf 25 prplain))))
theorem tR2_ok : TblOk Try.prog tR2 := tblOr_ok (tblIf_ok prnew_ok) (tblOr_ok (tblIf_ok prat_ok) (tblOr_ok (tblIf_ok prwhose_ok) (tblOr_ok (tblIf_ok prsame_ok) (tblIf_ok prplain_ok))))
end Go.Proofs.Ytbifilonmkaonaa
end

section
namespace Go.Proofs.Ytbifilonmkaonaa
open Go Reck Ost
set_option linter.unusedVariables false
set_option maxRecDepth 100000
structure U.qtI (n : Nat) (i : Int) (B R O : Rws) (r co : Nat) : Prop where
  out : (0 ≤ i ∧ i ≤ n) ∧ B.length = n ∧ R.length = n ∧ r = O.length ∧ (r : Int) ≤ i ∧ r ≤ co
def qtInv (n : Nat) (tm : List AV) (σ : St) : Inv where
  X := Int × (Rws × (Rws × (Rws × (Nat × Nat))))
  tags := [0]
  tag _ _ := 0
  J := [2, 3, 4, 6, 7, 8, 9, 10, 13, 14, 15, 16, 17, 18, 19, 20, 21, 22, 23, 24, 25, 26, 27, 28, 29, 30, 31, 32, 33, 34, 35, 36, 37, 38, 39, 40, 41, 42, 43, 44, 45, 46, 47, 48, 49, 50, 51, 52, 53, 54, 55, 56, 57, 58]
  val _ x := [(12, xi .i64 x.1), (5, cell (rslC ⟨σ.arrs.length, 3, 0, x.2.2.2.2.1, x.2.2.2.2.2⟩))]
  st _ x σ' := ⟨σ'.heap, σ'.ints, σ'.opqs, ((σ'.arrs.dropLast ++ [some (qmB x.2.2.2.1 x.2.2.2.2.2)]).set 0 (some (qbB x.2.1 n))).set 1 (some (qmB x.2.2.1 n)), σ'.junks⟩
  I _ x := U.qtI n x.1 x.2.1 x.2.2.1 x.2.2.2.1 x.2.2.2.2.1 x.2.2.2.2.2
  m _ x := (n : Int).toNat - x.1.toNat
  ren tm' σ' := ([], [(slotR tm' 5).a])
def invQt (n : Nat) : InvF := fun c tm σ => match tm.length, firstReg c with
  | 59, some 3 => some (qtInv n tm σ)
  | _, _ => none
--PLAIN
theorem roffer_vc (K : AV → St → Prop) (b t : Int) (n : Nat) (B R : Rws) (m now : Int) : (runR (invQr n) tR2 20 [ptr 0 0, xi .u64 m, xi .i64 now] (qrSt b t n B R) K) = (((n = n ∧ n = n ∧ n = n ∧ n = n ∧ n = n) ∧ U.Qr n B R) ∧ ∀ (k0 : Int), U.qK n k0 → ((0 : Int) ≤ k0 → ((0 : Int) ≤ k0 ∧ k0 < (↑n : Int)) ∧ ∀ (j1 : Nat), (↑j1 : Int) = (↑((0 : Nat)) : Int) + k0 → j1 < List.length R ∧ ∀ (z2 : Int), z2 = U.fi R j1 ((0 : Nat) + (1 : Nat)) → K (Sum.inr [Sum.inl (Sum.inr (Sum.inr (Sum.inr (Sum.inr (Sum.inr (Sum.inr (Sum.inl (IntKind.u32, z2)))))))), Sum.inl (Sum.inr (Sum.inr (Sum.inr (Sum.inr (Sum.inr (Sum.inr (Sum.inl (IntKind.i64, (0 : Int)))))))))]) { heap := [some { elem := nat_lit 61, cells := [Sum.inr (Sum.inr (Sum.inr (Sum.inr (Sum.inr (Sum.inr (Sum.inl (IntKind.u32, b))))))), Sum.inr (Sum.inr (Sum.inr (Sum.inr (Sum.inr (Sum.inr (Sum.inl (IntKind.i64, t))))))), Sum.inr (Sum.inr (Sum.inr (Sum.inr (Sum.inr (Sum.inr (Sum.inr (Sum.inr (Sum.inr (Sum.inr (Sum.inr (Sum.inl { a := (0 : Nat), u := (1 : Nat), o := (0 : Nat), n := n, c := n }))))))))))), Sum.inr (Sum.inr (Sum.inr (Sum.inr (Sum.inr (Sum.inr (Sum.inr (Sum.inr (Sum.inr (Sum.inr (Sum.inr (Sum.inl { a := (1 : Nat), u := (3 : Nat), o := (0 : Nat), n := n, c := n })))))))))))], j := none, c := (4 : Nat), z := false }], ints := [], opqs := (0 : Nat), arrs := [some { elem := (4 : Nat), k := AK.o (Obj.rows [CK.b] B), l := [], cap := n, ro := false }, some { elem := (66 : Nat), k := AK.o (Obj.rows [CK.n IntKind.u64, CK.n IntKind.u32, CK.n IntKind.i64] R), l := [], cap := n, ro := false }], junks := (0 : Nat) }) ∧ (¬(0 : Int) ≤ k0 → ∀ (z3 : Int), z3 = (↑n : Int) → (∃ (y4 : Int), m = m ∧ now = now ∧ z3 = z3 ∧ (0 : Int) = y4 ∧ b = b ∧ t = t ∧ ((0 : Nat) = (0 : Nat) ∧ n = n ∧ n = n) ∧ ((0 : Nat) = (0 : Nat) ∧ n = n ∧ n = n) ∧ (B = B ∧ n = n ∧ false = false) ∧ (R = R ∧ n = n ∧ false = false) ∧ U.qiI n y4) ∧ ∀ (x5 : Int), U.qiI n x5 → (x5 < z3 → ((0 : Int) ≤ x5 ∧ x5 < (↑n : Int)) ∧ ∀ (j6 : Nat), (↑j6 : Int) = (↑((0 : Nat)) : Int) + x5 → j6 < List.length B ∧ (U.fb B j6 ((0 : Nat)) = true → ((0 : Int) ≤ x5 ∧ x5 < (↑n : Int)) ∧ ∀ (j7 : Nat), (↑j7 : Int) = (↑((0 : Nat)) : Int) + x5 → j7 < List.length R ∧ ∀ (z8 : Int), z8 = U.fi R j7 ((0 : Nat) + (2 : Nat)) → (z8 ≤ now → ∀ (z9 : Int), z9 = IntKind.wrap IntKind.u32 (b + (1 : Int)) → ∀ (z10 : Int), z10 = IntKind.wrap IntKind.u32 x5 → ∀ (z11 : Int), z11 = IntKind.wrap IntKind.u32 (z9 + z10) → K (Sum.inr [Sum.inl (Sum.inr (Sum.inr (Sum.inr (Sum.inr (Sum.inr (Sum.inr (Sum.inl (IntKind.u32, z11)))))))), Sum.inl (Sum.inr (Sum.inr (Sum.inr (Sum.inr (Sum.inr (Sum.inr (Sum.inl (IntKind.i64, (0 : Int)))))))))]) { heap := [some { elem := nat_lit 61, cells := [Sum.inr (Sum.inr (Sum.inr (Sum.inr (Sum.inr (Sum.inr (Sum.inl (IntKind.u32, b))))))), Sum.inr (Sum.inr (Sum.inr (Sum.inr (Sum.inr (Sum.inr (Sum.inl (IntKind.i64, t))))))), Sum.inr (Sum.inr (Sum.inr (Sum.inr (Sum.inr (Sum.inr (Sum.inr (Sum.inr (Sum.inr (Sum.inr (Sum.inr (Sum.inl { a := (0 : Nat), u := (1 : Nat), o := (0 : Nat), n := n, c := n }))))))))))), Sum.inr (Sum.inr (Sum.inr (Sum.inr (Sum.inr (Sum.inr (Sum.inr (Sum.inr (Sum.inr (Sum.inr (Sum.inr (Sum.inl { a := (1 : Nat), u := (3 : Nat), o := (0 : Nat), n := n, c := n })))))))))))], j := none, c := (4 : Nat), z := false }], ints := [], opqs := (0 : Nat), arrs := [some { elem := (4 : Nat), k := AK.o (Obj.rows [CK.b] B), l := [], cap := n, ro := false }, some { elem := (66 : Nat), k := AK.o (Obj.rows [CK.n IntKind.u64, CK.n IntKind.u32, CK.n IntKind.i64] R), l := [], cap := n, ro := false }], junks := (0 : Nat) }) ∧ (¬z8 ≤ now → ∀ (z12 : Int), z12 = IntKind.wrap IntKind.i64 (x5 + (1 : Int)) → ∃ (y13 : Int), m = m ∧ now = now ∧ z3 = z3 ∧ z12 = y13 ∧ b = b ∧ t = t ∧ ((0 : Nat) = (0 : Nat) ∧ n = n ∧ n = n) ∧ ((0 : Nat) = (0 : Nat) ∧ n = n ∧ n = n) ∧ (B = B ∧ n = n ∧ false = false) ∧ (R = R ∧ n = n ∧ false = false) ∧ U.qiI n y13 ∧ Int.toNat (↑n : Int) - Int.toNat y13 < Int.toNat (↑n : Int) - Int.toNat x5)) ∧ (U.fb B j6 ((0 : Nat)) = false → ∀ (z14 : Int), z14 = IntKind.wrap IntKind.u32 (b + (1 : Int)) → ∀ (z15 : Int), z15 = IntKind.wrap IntKind.u32 x5 → ∀ (z16 : Int), z16 = IntKind.wrap IntKind.u32 (z14 + z15) → K (Sum.inr [Sum.inl (Sum.inr (Sum.inr (Sum.inr (Sum.inr (Sum.inr (Sum.inr (Sum.inl (IntKind.u32, z16)))))))), Sum.inl (Sum.inr (Sum.inr (Sum.inr (Sum.inr (Sum.inr (Sum.inr (Sum.inl (IntKind.i64, (0 : Int)))))))))]) { heap := [some { elem := nat_lit 61, cells := [Sum.inr (Sum.inr (Sum.inr (Sum.inr (Sum.inr (Sum.inr (Sum.inl (IntKind.u32, b))))))), Sum.inr (Sum.inr (Sum.inr (Sum.inr (Sum.inr (Sum.inr (Sum.inl (IntKind.i64, t))))))), Sum.inr (Sum.inr (Sum.inr (Sum.inr (Sum.inr (Sum.inr (Sum.inr (Sum.inr (Sum.inr (Sum.inr (Sum.inr (Sum.inl { a := (0 : Nat), u := (1 : Nat), o := (0 : Nat), n := n, c := n }))))))))))), Sum.inr (Sum.inr (Sum.inr (Sum.inr (Sum.inr (Sum.inr (Sum.inr (Sum.inr (Sum.inr (Sum.inr (Sum.inr (Sum.inl { a := (1 : Nat), u := (3 : Nat), o := (0 : Nat), n := n, c := n })))))))))))], j := none, c := (4 : Nat), z := false }], ints := [], opqs := (0 : Nat), arrs := [some { elem := (4 : Nat), k := AK.o (Obj.rows [CK.b] B), l := [], cap := n, ro := false }, some { elem := (66 : Nat), k := AK.o (Obj.rows [CK.n IntKind.u64, CK.n IntKind.u32, CK.n IntKind.i64] R), l := [], cap := n, ro := false }], junks := (0 : Nat) })) ∧ (¬x5 < z3 → K (Sum.inr [Sum.inl (Sum.inr (Sum.inr (Sum.inr (Sum.inr (Sum.inr (Sum.inr (Sum.inl (IntKind.u32, (0 : Int))))))))), Sum.inl (Sum.inr (Sum.inr (Sum.inr (Sum.inr (Sum.inr (Sum.inr (Sum.inl (IntKind.i64, (4 : Int)))))))))]) { heap := [some { elem := nat_lit 61, cells := [Sum.inr (Sum.inr (Sum.inr (Sum.inr (Sum.inr (Sum.inr (Sum.inl (IntKind.u32, b))))))), Sum.inr (Sum.inr (Sum.inr (Sum.inr (Sum.inr (Sum.inr (Sum.inl (IntKind.i64, t))))))), Sum.inr (Sum.inr (Sum.inr (Sum.inr (Sum.inr (Sum.inr (Sum.inr (Sum.inr (Sum.inr (Sum.inr (Sum.inr (Sum.inl { a := (0 : Nat), u := (1 : Nat), o := (0 : Nat), n := n, c := n }))))))))))), Sum.inr (Sum.inr (Sum.inr (Sum.inr (Sum.inr (Sum.inr (Sum.inr (Sum.inr (Sum.inr (Sum.inr (Sum.inr (Sum.inl { a := (1 : Nat), u := (3 : Nat), o := (0 : Nat), n := n, c := n })))))))))))], j := none, c := (4 : Nat), z := false }], ints := [], opqs := (0 : Nat), arrs := [some { elem := (4 : Nat), k := AK.o (Obj.rows [CK.b] B), l := [], cap := n, ro := false }, some { elem := (66 : Nat), k := AK.o (Obj.rows [CK.n IntKind.u64, CK.n IntKind.u32, CK.n IntKind.i64] R), l := [], cap := n, ro := false }], junks := (0 : Nat) }))) := by kernel_rfl
theorem rgrant_vc (K : AV → St → Prop) (b t : Int) (n : Nat) (B R : Rws) (m ip now : Int) : (runR (invQr n) tR2 21 [ptr 0 0, xi .u64 m, xi .u32 ip, xi .i64 now] (qrSt b t n B R) K) = (((n = n ∧ n = n ∧ n = n ∧ n = n ∧ n = n) ∧ U.Qr n B R) ∧ ∀ (k0 : Int), U.qK n k0 → (k0 < (0 : Int) → K (Sum.inr [Sum.inl (Sum.inr (Sum.inr (Sum.inr (Sum.inr (Sum.inr (Sum.inr (Sum.inl (IntKind.i64, (0 : Int))))))))), Sum.inl (Sum.inr (Sum.inr (Sum.inr (Sum.inr (Sum.inr (Sum.inr (Sum.inl (IntKind.i64, (7 : Int)))))))))]) { heap := [some { elem := nat_lit 61, cells := [Sum.inr (Sum.inr (Sum.inr (Sum.inr (Sum.inr (Sum.inr (Sum.inl (IntKind.u32, b))))))), Sum.inr (Sum.inr (Sum.inr (Sum.inr (Sum.inr (Sum.inr (Sum.inl (IntKind.i64, t))))))), Sum.inr (Sum.inr (Sum.inr (Sum.inr (Sum.inr (Sum.inr (Sum.inr (Sum.inr (Sum.inr (Sum.inr (Sum.inr (Sum.inl { a := (0 : Nat), u := (1 : Nat), o := (0 : Nat), n := n, c := n }))))))))))), Sum.inr (Sum.inr (Sum.inr (Sum.inr (Sum.inr (Sum.inr (Sum.inr (Sum.inr (Sum.inr (Sum.inr (Sum.inr (Sum.inl { a := (1 : Nat), u := (3 : Nat), o := (0 : Nat), n := n, c := n })))))))))))], j := none, c := (4 : Nat), z := false }], ints := [], opqs := (0 : Nat), arrs := [some { elem := (4 : Nat), k := AK.o (Obj.rows [CK.b] B), l := [], cap := n, ro := false }, some { elem := (66 : Nat), k := AK.o (Obj.rows [CK.n IntKind.u64, CK.n IntKind.u32, CK.n IntKind.i64] R), l := [], cap := n, ro := false }], junks := (0 : Nat) }) ∧ (¬k0 < (0 : Int) → ((0 : Int) ≤ k0 ∧ k0 < (↑n : Int)) ∧ ∀ (j1 : Nat), (↑j1 : Int) = (↑((0 : Nat)) : Int) + k0 → j1 < List.length B ∧ (U.fb B j1 ((0 : Nat)) = true → ((0 : Int) ≤ k0 ∧ k0 < (↑n : Int)) ∧ ∀ (j2 : Nat), (↑j2 : Int) = (↑((0 : Nat)) : Int) + k0 → j2 < List.length R ∧ ∀ (z3 : Int), z3 = U.fi R j2 ((0 : Nat) + (0 : Nat)) → (¬z3 = m → ((0 : Int) ≤ k0 ∧ k0 < (↑n : Int)) ∧ ∀ (j4 : Nat), (↑j4 : Int) = (↑((0 : Nat)) : Int) + k0 → j4 < List.length R ∧ ∀ (z5 : Int), z5 = U.fi R j4 ((0 : Nat) + (2 : Nat)) → (now < z5 → K (Sum.inr [Sum.inl (Sum.inr (Sum.inr (Sum.inr (Sum.inr (Sum.inr (Sum.inr (Sum.inl (IntKind.i64, (0 : Int))))))))), Sum.inl (Sum.inr (Sum.inr (Sum.inr (Sum.inr (Sum.inr (Sum.inr (Sum.inl (IntKind.i64, (3 : Int)))))))))]) { heap := [some { elem := nat_lit 61, cells := [Sum.inr (Sum.inr (Sum.inr (Sum.inr (Sum.inr (Sum.inr (Sum.inl (IntKind.u32, b))))))), Sum.inr (Sum.inr (Sum.inr (Sum.inr (Sum.inr (Sum.inr (Sum.inl (IntKind.i64, t))))))), Sum.inr (Sum.inr (Sum.inr (Sum.inr (Sum.inr (Sum.inr (Sum.inr (Sum.inr (Sum.inr (Sum.inr (Sum.inr (Sum.inl { a := (0 : Nat), u := (1 : Nat), o := (0 : Nat), n := n, c := n }))))))))))), Sum.inr (Sum.inr (Sum.inr (Sum.inr (Sum.inr (Sum.inr (Sum.inr (Sum.inr (Sum.inr (Sum.inr (Sum.inr (Sum.inl { a := (1 : Nat), u := (3 : Nat), o := (0 : Nat), n := n, c := n })))))))))))], j := none, c := (4 : Nat), z := false }], ints := [], opqs := (0 : Nat), arrs := [some { elem := (4 : Nat), k := AK.o (Obj.rows [CK.b] B), l := [], cap := n, ro := false }, some { elem := (66 : Nat), k := AK.o (Obj.rows [CK.n IntKind.u64, CK.n IntKind.u32, CK.n IntKind.i64] R), l := [], cap := n, ro := false }], junks := (0 : Nat) }) ∧ (¬now < z5 → ((n = n ∧ n = n ∧ n = n ∧ n = n ∧ n = n) ∧ U.Qr n B R) ∧ ∀ (k6 : Int), U.qK n k6 → ((0 : Int) ≤ k6 → ((0 : Int) ≤ k6 ∧ k6 < (↑n : Int)) ∧ ∀ (j7 : Nat), (↑j7 : Int) = (↑((0 : Nat)) : Int) + k6 → j7 < List.length B ∧ ∀ (L'8 : List (List CV)), L'8 = U.put B j7 ((0 : Nat)) [CV.b false] → ((0 : Int) ≤ k6 ∧ k6 < (↑n : Int)) ∧ ∀ (j9 : Nat), (↑j9 : Int) = (↑((0 : Nat)) : Int) + k6 → j9 < List.length R ∧ ∀ (L'10 : List (List CV)), L'10 = U.put R j9 ((0 : Nat)) [CV.i (0 : Int), CV.i (0 : Int), CV.i (0 : Int)] → ((0 : Int) ≤ k0 ∧ k0 < (↑n : Int)) ∧ ∀ (j11 : Nat), (↑j11 : Int) = (↑((0 : Nat)) : Int) + k0 → j11 < List.length L'8 ∧ ∀ (L'12 : List (List CV)), L'12 = U.put L'8 j11 ((0 : Nat)) [CV.b true] → ∀ (z13 : Int), z13 = IntKind.wrap IntKind.i64 (now + t) → ((0 : Int) ≤ k0 ∧ k0 < (↑n : Int)) ∧ ∀ (j14 : Nat), (↑j14 : Int) = (↑((0 : Nat)) : Int) + k0 → j14 < List.length L'10 ∧ ∀ (L'15 : List (List CV)), L'15 = U.put L'10 j14 ((0 : Nat)) [CV.i m, CV.i ip, CV.i z13] → ∀ (z16 : Int), z16 = IntKind.wrap IntKind.i64 (now + t) → K (Sum.inr [Sum.inl (Sum.inr (Sum.inr (Sum.inr (Sum.inr (Sum.inr (Sum.inr (Sum.inl (IntKind.i64, z16)))))))), Sum.inl (Sum.inr (Sum.inr (Sum.inr (Sum.inr (Sum.inr (Sum.inr (Sum.inl (IntKind.i64, (0 : Int)))))))))]) { heap := [some { elem := nat_lit 61, cells := [Sum.inr (Sum.inr (Sum.inr (Sum.inr (Sum.inr (Sum.inr (Sum.inl (IntKind.u32, b))))))), Sum.inr (Sum.inr (Sum.inr (Sum.inr (Sum.inr (Sum.inr (Sum.inl (IntKind.i64, t))))))), Sum.inr (Sum.inr (Sum.inr (Sum.inr (Sum.inr (Sum.inr (Sum.inr (Sum.inr (Sum.inr (Sum.inr (Sum.inr (Sum.inl { a := (0 : Nat), u := (1 : Nat), o := (0 : Nat), n := n, c := n }))))))))))), Sum.inr (Sum.inr (Sum.inr (Sum.inr (Sum.inr (Sum.inr (Sum.inr (Sum.inr (Sum.inr (Sum.inr (Sum.inr (Sum.inl { a := (1 : Nat), u := (3 : Nat), o := (0 : Nat), n := n, c := n })))))))))))], j := none, c := (4 : Nat), z := false }], ints := [], opqs := (0 : Nat), arrs := [some { elem := nat_lit 4, k := AK.o (Obj.rows [CK.b] L'12), l := [], cap := n, ro := false }, some { elem := nat_lit 66, k := AK.o (Obj.rows [CK.n IntKind.u64, CK.n IntKind.u32, CK.n IntKind.i64] L'15), l := [], cap := n, ro := false }], junks := (0 : Nat) }) ∧ (¬(0 : Int) ≤ k6 → ((0 : Int) ≤ k0 ∧ k0 < (↑n : Int)) ∧ ∀ (j17 : Nat), (↑j17 : Int) = (↑((0 : Nat)) : Int) + k0 → j17 < List.length B ∧ ∀ (L'18 : List (List CV)), L'18 = U.put B j17 ((0 : Nat)) [CV.b true] → ∀ (z19 : Int), z19 = IntKind.wrap IntKind.i64 (now + t) → ((0 : Int) ≤ k0 ∧ k0 < (↑n : Int)) ∧ ∀ (j20 : Nat), (↑j20 : Int) = (↑((0 : Nat)) : Int) + k0 → j20 < List.length R ∧ ∀ (L'21 : List (List CV)), L'21 = U.put R j20 ((0 : Nat)) [CV.i m, CV.i ip, CV.i z19] → ∀ (z22 : Int), z22 = IntKind.wrap IntKind.i64 (now + t) → K (Sum.inr [Sum.inl (Sum.inr (Sum.inr (Sum.inr (Sum.inr (Sum.inr (Sum.inr (Sum.inl (IntKind.i64, z22)))))))), Sum.inl (Sum.inr (Sum.inr (Sum.inr (Sum.inr (Sum.inr (Sum.inr (Sum.inl (IntKind.i64, (0 : Int)))))))))]) { heap := [some { elem := nat_lit 61, cells := [Sum.inr (Sum.inr (Sum.inr (Sum.inr (Sum.inr (Sum.inr (Sum.inl (IntKind.u32, b))))))), Sum.inr (Sum.inr (Sum.inr (Sum.inr (Sum.inr (Sum.inr (Sum.inl (IntKind.i64, t))))))), Sum.inr (Sum.inr (Sum.inr (Sum.inr (Sum.inr (Sum.inr (Sum.inr (Sum.inr (Sum.inr (Sum.inr (Sum.inr (Sum.inl { a := (0 : Nat), u := (1 : Nat), o := (0 : Nat), n := n, c := n }))))))))))), Sum.inr (Sum.inr (Sum.inr (Sum.inr (Sum.inr (Sum.inr (Sum.inr (Sum.inr (Sum.inr (Sum.inr (Sum.inr (Sum.inl { a := (1 : Nat), u := (3 : Nat), o := (0 : Nat), n := n, c := n })))))))))))], j := none, c := (4 : Nat), z := false }], ints := [], opqs := (0 : Nat), arrs := [some { elem := nat_lit 4, k := AK.o (Obj.rows [CK.b] L'18), l := [], cap := n, ro := false }, some { elem := nat_lit 66, k := AK.o (Obj.rows [CK.n IntKind.u64, CK.n IntKind.u32, CK.n IntKind.i64] L'21), l := [], cap := n, ro := false }], junks := (0 : Nat) }))) ∧ (¬¬z3 = m → ((n = n ∧ n = n ∧ n = n ∧ n = n ∧ n = n) ∧ U.Qr n B R) ∧ ∀ (k23 : Int), U.qK n k23 → ((0 : Int) ≤ k23 → ((0 : Int) ≤ k23 ∧ k23 < (↑n : Int)) ∧ ∀ (j24 : Nat), (↑j24 : Int) = (↑((0 : Nat)) : Int) + k23 → j24 < List.length B ∧ ∀ (L'25 : List (List CV)), L'25 = U.put B j24 ((0 : Nat)) [CV.b false] → ((0 : Int) ≤ k23 ∧ k23 < (↑n : Int)) ∧ ∀ (j26 : Nat), (↑j26 : Int) = (↑((0 : Nat)) : Int) + k23 → j26 < List.length R ∧ ∀ (L'27 : List (List CV)), L'27 = U.put R j26 ((0 : Nat)) [CV.i (0 : Int), CV.i (0 : Int), CV.i (0 : Int)] → ((0 : Int) ≤ k0 ∧ k0 < (↑n : Int)) ∧ ∀ (j28 : Nat), (↑j28 : Int) = (↑((0 : Nat)) : Int) + k0 → j28 < List.length L'25 ∧ ∀ (L'29 : List (List CV)), L'29 = U.put L'25 j28 ((0 : Nat)) [CV.b true] → ∀ (z30 : Int), z30 = IntKind.wrap IntKind.i64 (now + t) → ((0 : Int) ≤ k0 ∧ k0 < (↑n : Int)) ∧ ∀ (j31 : Nat), (↑j31 : Int) = (↑((0 : Nat)) : Int) + k0 → j31 < List.length L'27 ∧ ∀ (L'32 : List (List CV)), L'32 = U.put L'27 j31 ((0 : Nat)) [CV.i m, CV.i ip, CV.i z30] → ∀ (z33 : Int), z33 = IntKind.wrap IntKind.i64 (now + t) → K (Sum.inr [Sum.inl (Sum.inr (Sum.inr (Sum.inr (Sum.inr (Sum.inr (Sum.inr (Sum.inl (IntKind.i64, z33)))))))), Sum.inl (Sum.inr (Sum.inr (Sum.inr (Sum.inr (Sum.inr (Sum.inr (Sum.inl (IntKind.i64, (0 : Int)))))))))]) { heap := [some { elem := nat_lit 61, cells := [Sum.inr (Sum.inr (Sum.inr (Sum.inr (Sum.inr (Sum.inr (Sum.inl (IntKind.u32, b))))))), Sum.inr (Sum.inr (Sum.inr (Sum.inr (Sum.inr (Sum.inr (Sum.inl (IntKind.i64, t))))))), Sum.inr (Sum.inr (Sum.inr (Sum.inr (Sum.inr (Sum.inr (Sum.inr (Sum.inr (Sum.inr (Sum.inr (Sum.inr (Sum.inl { a := (0 : Nat), u := (1 : Nat), o := (0 : Nat), n := n, c := n }))))))))))), Sum.inr (Sum.inr (Sum.inr (Sum.inr (Sum.inr (Sum.inr (Sum.inr (Sum.inr (Sum.inr (Sum.inr (Sum.inr (Sum.inl { a := (1 : Nat), u := (3 : Nat), o := (0 : Nat), n := n, c := n })))))))))))], j := none, c := (4 : Nat), z := false }], ints := [], opqs := (0 : Nat), arrs := [some { elem := nat_lit 4, k := AK.o (Obj.rows [CK.b] L'29), l := [], cap := n, ro := false }, some { elem := nat_lit 66, k := AK.o (Obj.rows [CK.n IntKind.u64, CK.n IntKind.u32, CK.n IntKind.i64] L'32), l := [], cap := n, ro := false }], junks := (0 : Nat) }) ∧ (¬(0 : Int) ≤ k23 → ((0 : Int) ≤ k0 ∧ k0 < (↑n : Int)) ∧ ∀ (j34 : Nat), (↑j34 : Int) = (↑((0 : Nat)) : Int) + k0 → j34 < List.length B ∧ ∀ (L'35 : List (List CV)), L'35 = U.put B j34 ((0 : Nat)) [CV.b true] → ∀ (z36 : Int), z36 = IntKind.wrap IntKind.i64 (now + t) → ((0 : Int) ≤ k0 ∧ k0 < (↑n : Int)) ∧ ∀ (j37 : Nat), (↑j37 : Int) = (↑((0 : Nat)) : Int) + k0 → j37 < List.length R ∧ ∀ (L'38 : List (List CV)), L'38 = U.put R j37 ((0 : Nat)) [CV.i m, CV.i ip, CV.i z36] → ∀ (z39 : Int), z39 = IntKind.wrap IntKind.i64 (now + t) → K (Sum.inr [Sum.inl (Sum.inr (Sum.inr (Sum.inr (Sum.inr (Sum.inr (Sum.inr (Sum.inl (IntKind.i64, z39)))))))), Sum.inl (Sum.inr (Sum.inr (Sum.inr (Sum.inr (Sum.inr (Sum.inr (Sum.inl (IntKind.i64, (0 : Int)))))))))]) { heap := [some { elem := nat_lit 61, cells := [Sum.inr (Sum.inr (Sum.inr (Sum.inr (Sum.inr (Sum.inr (Sum.inl (IntKind.u32, b))))))), Sum.inr (Sum.inr (Sum.inr (Sum.inr (Sum.inr (Sum.inr (Sum.inl (IntKind.i64, t))))))), Sum.inr (Sum.inr (Sum.inr (Sum.inr (Sum.inr (Sum.inr (Sum.inr (Sum.inr (Sum.inr (Sum.inr (Sum.inr (Sum.inl { a := (0 : Nat), u := (1 : Nat), o := (0 : Nat), n := n, c := n }))))))))))), Sum.inr (Sum.inr (Sum.inr (Sum.inr (Sum.inr (Sum.inr (Sum.inr (Sum.inr (Sum.inr (Sum.inr (Sum.inr (Sum.inl { a := (1 : Nat), u := (3 : Nat), o := (0 : Nat), n := n, c := n })))))))))))], j := none, c := (4 : Nat), z := false }], ints := [], opqs := (0 : Nat), arrs := [some { elem := nat_lit 4, k := AK.o (Obj.rows [CK.b] L'35), l := [], cap := n, ro := false }, some { elem := nat_lit 66, k := AK.o (Obj.rows [CK.n IntKind.u64, CK.n IntKind.u32, CK.n IntKind.i64] L'38), l := [], cap := n, ro := false }], junks := (0 : Nat) }))) ∧ (U.fb B j1 ((0 : Nat)) = false → ((n = n ∧ n = n ∧ n = n ∧ n = n ∧ n = n) ∧ U.Qr n B R) ∧ ∀ (k40 : Int), U.qK n k40 → ((0 : Int) ≤ k40 → ((0 : Int) ≤ k40 ∧ k40 < (↑n : Int)) ∧ ∀ (j41 : Nat), (↑j41 : Int) = (↑((0 : Nat)) : Int) + k40 → j41 < List.length B ∧ ∀ (L'42 : List (List CV)), L'42 = U.put B j41 ((0 : Nat)) [CV.b false] → ((0 : Int) ≤ k40 ∧ k40 < (↑n : Int)) ∧ ∀ (j43 : Nat), (↑j43 : Int) = (↑((0 : Nat)) : Int) + k40 → j43 < List.length R ∧ ∀ (L'44 : List (List CV)), L'44 = U.put R j43 ((0 : Nat)) [CV.i (0 : Int), CV.i (0 : Int), CV.i (0 : Int)] → ((0 : Int) ≤ k0 ∧ k0 < (↑n : Int)) ∧ ∀ (j45 : Nat), (↑j45 : Int) = (↑((0 : Nat)) : Int) + k0 → j45 < List.length L'42 ∧ ∀ (L'46 : List (List CV)), L'46 = U.put L'42 j45 ((0 : Nat)) [CV.b true] → ∀ (z47 : Int), z47 = IntKind.wrap IntKind.i64 (now + t) → ((0 : Int) ≤ k0 ∧ k0 < (↑n : Int)) ∧ ∀ (j48 : Nat), (↑j48 : Int) = (↑((0 : Nat)) : Int) + k0 → j48 < List.length L'44 ∧ ∀ (L'49 : List (List CV)), L'49 = U.put L'44 j48 ((0 : Nat)) [CV.i m, CV.i ip, CV.i z47] → ∀ (z50 : Int), z50 = IntKind.wrap IntKind.i64 (now + t) → K (Sum.inr [Sum.inl (Sum.inr (Sum.inr (Sum.inr (Sum.inr (Sum.inr (Sum.inr (Sum.inl (IntKind.i64, z50)))))))), Sum.inl (Sum.inr (Sum.inr (Sum.inr (Sum.inr (Sum.inr (Sum.inr (Sum.inl (IntKind.i64, (0 : Int)))))))))]) { heap := [some { elem := nat_lit 61, cells := [Sum.inr (Sum.inr (Sum.inr (Sum.inr (Sum.inr (Sum.inr (Sum.inl (IntKind.u32, b))))))), Sum.inr (Sum.inr (Sum.inr (Sum.inr (Sum.inr (Sum.inr (Sum.inl (IntKind.i64, t))))))), Sum.inr (Sum.inr (Sum.inr (Sum.inr (Sum.inr (Sum.inr (Sum.inr (Sum.inr (Sum.inr (Sum.inr (Sum.inr (Sum.inl { a := (0 : Nat), u := (1 : Nat), o := (0 : Nat), n := n, c := n }))))))))))), Sum.inr (Sum.inr (Sum.inr (Sum.inr (Sum.inr (Sum.inr (Sum.inr (Sum.inr (Sum.inr (Sum.inr (Sum.inr (Sum.inl { a := (1 : Nat), u := (3 : Nat), o := (0 : Nat), n := n, c := n })))))))))))], j := none, c := (4 : Nat), z := false }], ints := [], opqs := (0 : Nat), arrs := [some { elem := nat_lit 4, k := AK.o (Obj.rows [CK.b] L'46), l := [], cap := n, ro := false }, some { elem := nat_lit 66, k := AK.o (Obj.rows [CK.n IntKind.u64, CK.n IntKind.u32, CK.n IntKind.i64] L'49), l := [], cap := n, ro := false }], junks := (0 : Nat) }) ∧ (¬(0 : Int) ≤ k40 → ((0 : Int) ≤ k0 ∧ k0 < (↑n : Int)) ∧ ∀ (j51 : Nat), (↑j51 : Int) = (↑((0 : Nat)) : Int) + k0 → j51 < List.length B ∧ ∀ (L'52 : List (List CV)), L'52 = U.put B j51 ((0 : Nat)) [CV.b true] → ∀ (z53 : Int), z53 = IntKind.wrap IntKind.i64 (now + t) → ((0 : Int) ≤ k0 ∧ k0 < (↑n : Int)) ∧ ∀ (j54 : Nat), (↑j54 : Int) = (↑((0 : Nat)) : Int) + k0 → j54 < List.length R ∧ ∀ (L'55 : List (List CV)), L'55 = U.put R j54 ((0 : Nat)) [CV.i m, CV.i ip, CV.i z53] → ∀ (z56 : Int), z56 = IntKind.wrap IntKind.i64 (now + t) → K (Sum.inr [Sum.inl (Sum.inr (Sum.inr (Sum.inr (Sum.inr (Sum.inr (Sum.inr (Sum.inl (IntKind.i64, z56)))))))), Sum.inl (Sum.inr (Sum.inr (Sum.inr (Sum.inr (Sum.inr (Sum.inr (Sum.inl (IntKind.i64, (0 : Int)))))))))]) { heap := [some { elem := nat_lit 61, cells := [Sum.inr (Sum.inr (Sum.inr (Sum.inr (Sum.inr (Sum.inr (Sum.inl (IntKind.u32, b))))))), Sum.inr (Sum.inr (Sum.inr (Sum.inr (Sum.inr (Sum.inr (Sum.inl (IntKind.i64, t))))))), Sum.inr (Sum.inr (Sum.inr (Sum.inr (Sum.inr (Sum.inr (Sum.inr (Sum.inr (Sum.inr (Sum.inr (Sum.inr (Sum.inl { a := (0 : Nat), u := (1 : Nat), o := (0 : Nat), n := n, c := n }))))))))))), Sum.inr (Sum.inr (Sum.inr (Sum.inr (Sum.inr (Sum.inr (Sum.inr (Sum.inr (Sum.inr (Sum.inr (Sum.inr (Sum.inl { a := (1 : Nat), u := (3 : Nat), o := (0 : Nat), n := n, c := n })))))))))))], j := none, c := (4 : Nat), z := false }], ints := [], opqs := (0 : Nat), arrs := [some { elem := nat_lit 4, k := AK.o (Obj.rows [CK.b] L'52), l := [], cap := n, ro := false }, some { elem := nat_lit 66, k := AK.o (Obj.rows [CK.n IntKind.u64, CK.n IntKind.u32, CK.n IntKind.i64] L'55), l := [], cap := n, ro := false }], junks := (0 : Nat) })))) := by kernel_rfl
theorem rfree_vc (K : AV → St → Prop) (b t : Int) (n : Nat) (B R : Rws) (m : Int) : (runR (invQr n) tR2 22 [ptr 0 0, xi .u64 m] (qrSt b t n B R) K) = (((n = n ∧ n = n ∧ n = n ∧ n = n ∧ n = n) ∧ U.Qr n B R) ∧ ∀ (k0 : Int), U.qK n k0 → (k0 < (0 : Int) → K (Sum.inr [Sum.inr [Sum.inr (Sum.inr (Sum.inr (Sum.inr (Sum.inr (Sum.inr (Sum.inl (IntKind.u64, (0 : Int)))))))), Sum.inr (Sum.inr (Sum.inr (Sum.inr (Sum.inr (Sum.inr (Sum.inl (IntKind.u32, (0 : Int)))))))), Sum.inr (Sum.inr (Sum.inr (Sum.inr (Sum.inr (Sum.inr (Sum.inl (IntKind.i64, (0 : Int))))))))], Sum.inl (Sum.inl (Value.bool false))]) { heap := [some { elem := nat_lit 61, cells := [Sum.inr (Sum.inr (Sum.inr (Sum.inr (Sum.inr (Sum.inr (Sum.inl (IntKind.u32, b))))))), Sum.inr (Sum.inr (Sum.inr (Sum.inr (Sum.inr (Sum.inr (Sum.inl (IntKind.i64, t))))))), Sum.inr (Sum.inr (Sum.inr (Sum.inr (Sum.inr (Sum.inr (Sum.inr (Sum.inr (Sum.inr (Sum.inr (Sum.inr (Sum.inl { a := (0 : Nat), u := (1 : Nat), o := (0 : Nat), n := n, c := n }))))))))))), Sum.inr (Sum.inr (Sum.inr (Sum.inr (Sum.inr (Sum.inr (Sum.inr (Sum.inr (Sum.inr (Sum.inr (Sum.inr (Sum.inl { a := (1 : Nat), u := (3 : Nat), o := (0 : Nat), n := n, c := n })))))))))))], j := none, c := (4 : Nat), z := false }], ints := [], opqs := (0 : Nat), arrs := [some { elem := (4 : TypeId), k := AK.o (Obj.rows [CK.b] B), l := [], cap := n, ro := false }, some { elem := (66 : TypeId), k := AK.o (Obj.rows [CK.n IntKind.u64, CK.n IntKind.u32, CK.n IntKind.i64] R), l := [], cap := n, ro := false }], junks := (0 : Nat) }) ∧ (¬k0 < (0 : Int) → ((0 : Int) ≤ k0 ∧ k0 < (↑n : Int)) ∧ ∀ (j1 : Nat), (↑j1 : Int) = (↑((0 : Nat)) : Int) + k0 → j1 < List.length R ∧ ∀ (z2 : Int), z2 = U.fi R j1 ((0 : Nat)) → ∀ (z3 : Int), z3 = U.fi R j1 ((0 : Nat) + (1 : Nat)) → ∀ (z4 : Int), z4 = U.fi R j1 ((0 : Nat) + (1 : Nat) + (1 : Nat)) → ((0 : Int) ≤ k0 ∧ k0 < (↑n : Int)) ∧ ∀ (j5 : Nat), (↑j5 : Int) = (↑((0 : Nat)) : Int) + k0 → j5 < List.length B ∧ ∀ (L'6 : List (List CV)), L'6 = U.put B j5 ((0 : Nat)) [CV.b false] → ((0 : Int) ≤ k0 ∧ k0 < (↑n : Int)) ∧ ∀ (j7 : Nat), (↑j7 : Int) = (↑((0 : Nat)) : Int) + k0 → j7 < List.length R ∧ ∀ (L'8 : List (List CV)), L'8 = U.put R j7 ((0 : Nat)) [CV.i (0 : Int), CV.i (0 : Int), CV.i (0 : Int)] → K (Sum.inr [Sum.inr [Sum.inr (Sum.inr (Sum.inr (Sum.inr (Sum.inr (Sum.inr (Sum.inl (IntKind.u64, z2))))))), Sum.inr (Sum.inr (Sum.inr (Sum.inr (Sum.inr (Sum.inr (Sum.inl (IntKind.u32, z3))))))), Sum.inr (Sum.inr (Sum.inr (Sum.inr (Sum.inr (Sum.inr (Sum.inl (IntKind.i64, z4)))))))], Sum.inl (Sum.inl (Value.bool true))]) { heap := [some { elem := nat_lit 61, cells := [Sum.inr (Sum.inr (Sum.inr (Sum.inr (Sum.inr (Sum.inr (Sum.inl (IntKind.u32, b))))))), Sum.inr (Sum.inr (Sum.inr (Sum.inr (Sum.inr (Sum.inr (Sum.inl (IntKind.i64, t))))))), Sum.inr (Sum.inr (Sum.inr (Sum.inr (Sum.inr (Sum.inr (Sum.inr (Sum.inr (Sum.inr (Sum.inr (Sum.inr (Sum.inl { a := (0 : Nat), u := (1 : Nat), o := (0 : Nat), n := n, c := n }))))))))))), Sum.inr (Sum.inr (Sum.inr (Sum.inr (Sum.inr (Sum.inr (Sum.inr (Sum.inr (Sum.inr (Sum.inr (Sum.inr (Sum.inl { a := (1 : Nat), u := (3 : Nat), o := (0 : Nat), n := n, c := n })))))))))))], j := none, c := (4 : Nat), z := false }], ints := [], opqs := (0 : Nat), arrs := [some { elem := nat_lit 4, k := AK.o (Obj.rows [CK.b] L'6), l := [], cap := n, ro := false }, some { elem := nat_lit 66, k := AK.o (Obj.rows [CK.n IntKind.u64, CK.n IntKind.u32, CK.n IntKind.i64] L'8), l := [], cap := n, ro := false }], junks := (0 : Nat) })) := by kernel_rfl
theorem rput_vc (K : AV → St → Prop) (b t : Int) (n : Nat) (B R : Rws) (x0 x1 x2 : Int) : (runR (invQr n) tR2 27 [ptr 0 0, .inl (.inr (qlC x0 x1 x2))] (qrSt b t n B R) K) = (((n = n ∧ n = n ∧ n = n ∧ n = n ∧ n = n) ∧ U.Qr n B R) ∧ ∀ (k0 : Int), U.qK n k0 → (k0 < (0 : Int) → K (Sum.inl (Sum.inl (Sum.inr (Sum.inr (Sum.inr (Sum.inr (Sum.inr (Sum.inr (Sum.inl (IntKind.i64, (7 : Int))))))))))) { heap := [some { elem := nat_lit 61, cells := [Sum.inr (Sum.inr (Sum.inr (Sum.inr (Sum.inr (Sum.inr (Sum.inl (IntKind.u32, b))))))), Sum.inr (Sum.inr (Sum.inr (Sum.inr (Sum.inr (Sum.inr (Sum.inl (IntKind.i64, t))))))), Sum.inr (Sum.inr (Sum.inr (Sum.inr (Sum.inr (Sum.inr (Sum.inr (Sum.inr (Sum.inr (Sum.inr (Sum.inr (Sum.inl { a := (0 : Nat), u := (1 : Nat), o := (0 : Nat), n := n, c := n }))))))))))), Sum.inr (Sum.inr (Sum.inr (Sum.inr (Sum.inr (Sum.inr (Sum.inr (Sum.inr (Sum.inr (Sum.inr (Sum.inr (Sum.inl { a := (1 : Nat), u := (3 : Nat), o := (0 : Nat), n := n, c := n })))))))))))], j := none, c := (4 : Nat), z := false }], ints := [], opqs := (0 : Nat), arrs := [some { elem := (4 : TypeId), k := AK.o (Obj.rows [CK.b] B), l := [], cap := n, ro := false }, some { elem := (66 : TypeId), k := AK.o (Obj.rows [CK.n IntKind.u64, CK.n IntKind.u32, CK.n IntKind.i64] R), l := [], cap := n, ro := false }], junks := (0 : Nat) }) ∧ (¬k0 < (0 : Int) → ((0 : Int) ≤ k0 ∧ k0 < (↑n : Int)) ∧ ∀ (j1 : Nat), (↑j1 : Int) = (↑((0 : Nat)) : Int) + k0 → j1 < List.length B ∧ (U.fb B j1 ((0 : Nat)) = true → K (Sum.inl (Sum.inl (Sum.inr (Sum.inr (Sum.inr (Sum.inr (Sum.inr (Sum.inr (Sum.inl (IntKind.i64, (3 : Int))))))))))) { heap := [some { elem := nat_lit 61, cells := [Sum.inr (Sum.inr (Sum.inr (Sum.inr (Sum.inr (Sum.inr (Sum.inl (IntKind.u32, b))))))), Sum.inr (Sum.inr (Sum.inr (Sum.inr (Sum.inr (Sum.inr (Sum.inl (IntKind.i64, t))))))), Sum.inr (Sum.inr (Sum.inr (Sum.inr (Sum.inr (Sum.inr (Sum.inr (Sum.inr (Sum.inr (Sum.inr (Sum.inr (Sum.inl { a := (0 : Nat), u := (1 : Nat), o := (0 : Nat), n := n, c := n }))))))))))), Sum.inr (Sum.inr (Sum.inr (Sum.inr (Sum.inr (Sum.inr (Sum.inr (Sum.inr (Sum.inr (Sum.inr (Sum.inr (Sum.inl { a := (1 : Nat), u := (3 : Nat), o := (0 : Nat), n := n, c := n })))))))))))], j := none, c := (4 : Nat), z := false }], ints := [], opqs := (0 : Nat), arrs := [some { elem := (4 : TypeId), k := AK.o (Obj.rows [CK.b] B), l := [], cap := n, ro := false }, some { elem := (66 : TypeId), k := AK.o (Obj.rows [CK.n IntKind.u64, CK.n IntKind.u32, CK.n IntKind.i64] R), l := [], cap := n, ro := false }], junks := (0 : Nat) }) ∧ (U.fb B j1 ((0 : Nat)) = false → ((n = n ∧ n = n ∧ n = n ∧ n = n ∧ n = n) ∧ U.Qr n B R) ∧ ∀ (k2 : Int), U.qK n k2 → ((0 : Int) ≤ k2 → K (Sum.inl (Sum.inl (Sum.inr (Sum.inr (Sum.inr (Sum.inr (Sum.inr (Sum.inr (Sum.inl (IntKind.i64, (3 : Int))))))))))) { heap := [some { elem := nat_lit 61, cells := [Sum.inr (Sum.inr (Sum.inr (Sum.inr (Sum.inr (Sum.inr (Sum.inl (IntKind.u32, b))))))), Sum.inr (Sum.inr (Sum.inr (Sum.inr (Sum.inr (Sum.inr (Sum.inl (IntKind.i64, t))))))), Sum.inr (Sum.inr (Sum.inr (Sum.inr (Sum.inr (Sum.inr (Sum.inr (Sum.inr (Sum.inr (Sum.inr (Sum.inr (Sum.inl { a := (0 : Nat), u := (1 : Nat), o := (0 : Nat), n := n, c := n }))))))))))), Sum.inr (Sum.inr (Sum.inr (Sum.inr (Sum.inr (Sum.inr (Sum.inr (Sum.inr (Sum.inr (Sum.inr (Sum.inr (Sum.inl { a := (1 : Nat), u := (3 : Nat), o := (0 : Nat), n := n, c := n })))))))))))], j := none, c := (4 : Nat), z := false }], ints := [], opqs := (0 : Nat), arrs := [some { elem := (4 : TypeId), k := AK.o (Obj.rows [CK.b] B), l := [], cap := n, ro := false }, some { elem := (66 : TypeId), k := AK.o (Obj.rows [CK.n IntKind.u64, CK.n IntKind.u32, CK.n IntKind.i64] R), l := [], cap := n, ro := false }], junks := (0 : Nat) }) ∧ (¬(0 : Int) ≤ k2 → ((0 : Int) ≤ k0 ∧ k0 < (↑n : Int)) ∧ ∀ (j3 : Nat), (↑j3 : Int) = (↑((0 : Nat)) : Int) + k0 → j3 < List.length B ∧ ∀ (L'4 : List (List CV)), L'4 = U.put B j3 ((0 : Nat)) [CV.b true] → ((0 : Int) ≤ k0 ∧ k0 < (↑n : Int)) ∧ ∀ (j5 : Nat), (↑j5 : Int) = (↑((0 : Nat)) : Int) + k0 → j5 < List.length R ∧ ∀ (L'6 : List (List CV)), L'6 = U.put R j5 ((0 : Nat)) [CV.i x0, CV.i x1, CV.i x2] → K (Sum.inl (Sum.inl (Sum.inr (Sum.inr (Sum.inr (Sum.inr (Sum.inr (Sum.inr (Sum.inl (IntKind.i64, (0 : Int))))))))))) { heap := [some { elem := nat_lit 61, cells := [Sum.inr (Sum.inr (Sum.inr (Sum.inr (Sum.inr (Sum.inr (Sum.inl (IntKind.u32, b))))))), Sum.inr (Sum.inr (Sum.inr (Sum.inr (Sum.inr (Sum.inr (Sum.inl (IntKind.i64, t))))))), Sum.inr (Sum.inr (Sum.inr (Sum.inr (Sum.inr (Sum.inr (Sum.inr (Sum.inr (Sum.inr (Sum.inr (Sum.inr (Sum.inl { a := (0 : Nat), u := (1 : Nat), o := (0 : Nat), n := n, c := n }))))))))))), Sum.inr (Sum.inr (Sum.inr (Sum.inr (Sum.inr (Sum.inr (Sum.inr (Sum.inr (Sum.inr (Sum.inr (Sum.inr (Sum.inl { a := (1 : Nat), u := (3 : Nat), o := (0 : Nat), n := n, c := n })))))))))))], j := none, c := (4 : Nat), z := false }], ints := [], opqs := (0 : Nat), arrs := [some { elem := nat_lit 4, k := AK.o (Obj.rows [CK.b] L'4), l := [], cap := n, ro := false }, some { elem := nat_lit 66, k := AK.o (Obj.rows [CK.n IntKind.u64, CK.n IntKind.u32, CK.n IntKind.i64] L'6), l := [], cap := n, ro := false }], junks := (0 : Nat) })))) := by kernel_rfl
theorem rtick_vc (K : AV → St → Prop) (b t : Int) (n : Nat) (B R : Rws) (now : Int) : (runR (invQt n) tR2 26 [ptr 0 0, xi .i64 now] (qrSt b t n B R) K) = (∀ (z0 : Int), z0 = (↑n : Int) → (∃ (y1 : Int × Rws × Rws × Rws × Nat × Nat), now = now ∧ ((0 : Nat) = (0 : Nat) ∧ (0 : Nat) = Prod.fst (Prod.snd (Prod.snd (Prod.snd (Prod.snd y1)))) ∧ (0 : Nat) = Prod.snd (Prod.snd (Prod.snd (Prod.snd (Prod.snd y1))))) ∧ z0 = z0 ∧ (0 : Int) = Prod.fst y1 ∧ b = b ∧ t = t ∧ ((0 : Nat) = (0 : Nat) ∧ n = n ∧ n = n) ∧ ((0 : Nat) = (0 : Nat) ∧ n = n ∧ n = n) ∧ (B = Prod.fst (Prod.snd y1) ∧ n = n ∧ false = false) ∧ (R = Prod.fst (Prod.snd (Prod.snd y1)) ∧ n = n ∧ false = false) ∧ (U.nilL = U.nilL ∧ (0 : Nat) = (0 : Nat) ∧ false = false) ∧ (U.nilL = Prod.fst (Prod.snd (Prod.snd (Prod.snd y1))) ∧ (0 : Nat) = Prod.snd (Prod.snd (Prod.snd (Prod.snd (Prod.snd y1)))) ∧ false = false) ∧ U.qtI n (Prod.fst y1) (Prod.fst (Prod.snd y1)) (Prod.fst (Prod.snd (Prod.snd y1))) (Prod.fst (Prod.snd (Prod.snd (Prod.snd y1)))) (Prod.fst (Prod.snd (Prod.snd (Prod.snd (Prod.snd y1))))) (Prod.snd (Prod.snd (Prod.snd (Prod.snd (Prod.snd y1)))))) ∧ ∀ (x2 : Int × Rws × Rws × Rws × Nat × Nat), U.qtI n (Prod.fst x2) (Prod.fst (Prod.snd x2)) (Prod.fst (Prod.snd (Prod.snd x2))) (Prod.fst (Prod.snd (Prod.snd (Prod.snd x2)))) (Prod.fst (Prod.snd (Prod.snd (Prod.snd (Prod.snd x2))))) (Prod.snd (Prod.snd (Prod.snd (Prod.snd (Prod.snd x2))))) → (Prod.fst x2 < z0 → ((0 : Int) ≤ Prod.fst x2 ∧ Prod.fst x2 < (↑n : Int)) ∧ ∀ (j3 : Nat), (↑j3 : Int) = (↑((0 : Nat)) : Int) + Prod.fst x2 → j3 < List.length (Prod.fst (Prod.snd x2)) ∧ (U.fb (Prod.fst (Prod.snd x2)) j3 ((0 : Nat)) = true → ((0 : Int) ≤ Prod.fst x2 ∧ Prod.fst x2 < (↑n : Int)) ∧ ∀ (j4 : Nat), (↑j4 : Int) = (↑((0 : Nat)) : Int) + Prod.fst x2 → j4 < List.length (Prod.fst (Prod.snd (Prod.snd x2))) ∧ ∀ (z5 : Int), z5 = U.fi (Prod.fst (Prod.snd (Prod.snd x2))) j4 ((0 : Nat) + (2 : Nat)) → (z5 ≤ now → ((0 : Int) ≤ Prod.fst x2 ∧ Prod.fst x2 < (↑n : Int)) ∧ ∀ (j6 : Nat), (↑j6 : Int) = (↑((0 : Nat)) : Int) + Prod.fst x2 → j6 < List.length (Prod.fst (Prod.snd (Prod.snd x2))) ∧ ∀ (z7 : Int), z7 = U.fi (Prod.fst (Prod.snd (Prod.snd x2))) j6 ((0 : Nat)) → ∀ (z8 : Int), z8 = U.fi (Prod.fst (Prod.snd (Prod.snd x2))) j6 ((0 : Nat) + (1 : Nat)) → ∀ (z9 : Int), z9 = U.fi (Prod.fst (Prod.snd (Prod.snd x2))) j6 ((0 : Nat) + (1 : Nat) + (1 : Nat)) → ((0 : Nat) + Prod.fst (Prod.snd (Prod.snd (Prod.snd (Prod.snd x2)))) ≤ List.length (Prod.fst (Prod.snd (Prod.snd (Prod.snd x2)))) ∧ (0 : Nat) + Prod.snd (Prod.snd (Prod.snd (Prod.snd (Prod.snd x2)))) ≤ Prod.snd (Prod.snd (Prod.snd (Prod.snd (Prod.snd x2))))) ∧ True ∧ Prod.fst (Prod.snd (Prod.snd (Prod.snd (Prod.snd x2)))) ≤ (16777216 : Nat) ∧ (1 : Nat) ≤ (16777216 : Nat) ∧ ∀ (L'10 : List (List CV)) (n'11 c'12 : Nat), L'10 = List.take (Prod.fst (Prod.snd (Prod.snd (Prod.snd (Prod.snd x2))))) (List.drop ((0 : Nat)) (Prod.fst (Prod.snd (Prod.snd (Prod.snd x2))))) ++ [CV.i z7, CV.i z8, CV.i z9] :: U.nilL → n'11 = Prod.fst (Prod.snd (Prod.snd (Prod.snd (Prod.snd x2)))) + (1 : Nat) → n'11 ≤ c'12 → ((0 : Int) ≤ Prod.fst x2 ∧ Prod.fst x2 < (↑n : Int)) ∧ ∀ (j13 : Nat), (↑j13 : Int) = (↑((0 : Nat)) : Int) + Prod.fst x2 → j13 < List.length (Prod.fst (Prod.snd x2)) ∧ ∀ (L'14 : List (List CV)), L'14 = U.put (Prod.fst (Prod.snd x2)) j13 ((0 : Nat)) [CV.b false] → ((0 : Int) ≤ Prod.fst x2 ∧ Prod.fst x2 < (↑n : Int)) ∧ ∀ (j15 : Nat), (↑j15 : Int) = (↑((0 : Nat)) : Int) + Prod.fst x2 → j15 < List.length (Prod.fst (Prod.snd (Prod.snd x2))) ∧ ∀ (L'16 : List (List CV)), L'16 = U.put (Prod.fst (Prod.snd (Prod.snd x2))) j15 ((0 : Nat)) [CV.i (0 : Int), CV.i (0 : Int), CV.i (0 : Int)] → ∀ (z17 : Int), z17 = IntKind.wrap IntKind.i64 (Prod.fst x2 + (1 : Int)) → ∃ (y18 : Int × Rws × Rws × Rws × Nat × Nat), now = now ∧ ((0 : Nat) = (0 : Nat) ∧ n'11 = Prod.fst (Prod.snd (Prod.snd (Prod.snd (Prod.snd y18)))) ∧ c'12 = Prod.snd (Prod.snd (Prod.snd (Prod.snd (Prod.snd y18))))) ∧ z0 = z0 ∧ z17 = Prod.fst y18 ∧ b = b ∧ t = t ∧ ((0 : Nat) = (0 : Nat) ∧ n = n ∧ n = n) ∧ ((0 : Nat) = (0 : Nat) ∧ n = n ∧ n = n) ∧ (L'14 = Prod.fst (Prod.snd y18) ∧ n = n ∧ false = false) ∧ (L'16 = Prod.fst (Prod.snd (Prod.snd y18)) ∧ n = n ∧ false = false) ∧ (U.nilL = U.nilL ∧ (0 : Nat) = (0 : Nat) ∧ false = false) ∧ (L'10 = Prod.fst (Prod.snd (Prod.snd (Prod.snd y18))) ∧ c'12 = Prod.snd (Prod.snd (Prod.snd (Prod.snd (Prod.snd y18)))) ∧ false = false) ∧ U.qtI n (Prod.fst y18) (Prod.fst (Prod.snd y18)) (Prod.fst (Prod.snd (Prod.snd y18))) (Prod.fst (Prod.snd (Prod.snd (Prod.snd y18)))) (Prod.fst (Prod.snd (Prod.snd (Prod.snd (Prod.snd y18))))) (Prod.snd (Prod.snd (Prod.snd (Prod.snd (Prod.snd y18))))) ∧ Int.toNat (↑n : Int) - Int.toNat (Prod.fst y18) < Int.toNat (↑n : Int) - Int.toNat (Prod.fst x2)) ∧ (¬z5 ≤ now → ∀ (z19 : Int), z19 = IntKind.wrap IntKind.i64 (Prod.fst x2 + (1 : Int)) → ∃ (y20 : Int × Rws × Rws × Rws × Nat × Nat), now = now ∧ ((0 : Nat) = (0 : Nat) ∧ Prod.fst (Prod.snd (Prod.snd (Prod.snd (Prod.snd x2)))) = Prod.fst (Prod.snd (Prod.snd (Prod.snd (Prod.snd y20)))) ∧ Prod.snd (Prod.snd (Prod.snd (Prod.snd (Prod.snd x2)))) = Prod.snd (Prod.snd (Prod.snd (Prod.snd (Prod.snd y20))))) ∧ z0 = z0 ∧ z19 = Prod.fst y20 ∧ b = b ∧ t = t ∧ ((0 : Nat) = (0 : Nat) ∧ n = n ∧ n = n) ∧ ((0 : Nat) = (0 : Nat) ∧ n = n ∧ n = n) ∧ (Prod.fst (Prod.snd x2) = Prod.fst (Prod.snd y20) ∧ n = n ∧ false = false) ∧ (Prod.fst (Prod.snd (Prod.snd x2)) = Prod.fst (Prod.snd (Prod.snd y20)) ∧ n = n ∧ false = false) ∧ (U.nilL = U.nilL ∧ (0 : Nat) = (0 : Nat) ∧ false = false) ∧ (Prod.fst (Prod.snd (Prod.snd (Prod.snd x2))) = Prod.fst (Prod.snd (Prod.snd (Prod.snd y20))) ∧ Prod.snd (Prod.snd (Prod.snd (Prod.snd (Prod.snd x2)))) = Prod.snd (Prod.snd (Prod.snd (Prod.snd (Prod.snd y20)))) ∧ false = false) ∧ U.qtI n (Prod.fst y20) (Prod.fst (Prod.snd y20)) (Prod.fst (Prod.snd (Prod.snd y20))) (Prod.fst (Prod.snd (Prod.snd (Prod.snd y20)))) (Prod.fst (Prod.snd (Prod.snd (Prod.snd (Prod.snd y20))))) (Prod.snd (Prod.snd (Prod.snd (Prod.snd (Prod.snd y20))))) ∧ Int.toNat (↑n : Int) - Int.toNat (Prod.fst y20) < Int.toNat (↑n : Int) - Int.toNat (Prod.fst x2))) ∧ (U.fb (Prod.fst (Prod.snd x2)) j3 ((0 : Nat)) = false → ∀ (z21 : Int), z21 = IntKind.wrap IntKind.i64 (Prod.fst x2 + (1 : Int)) → ∃ (y22 : Int × Rws × Rws × Rws × Nat × Nat), now = now ∧ ((0 : Nat) = (0 : Nat) ∧ Prod.fst (Prod.snd (Prod.snd (Prod.snd (Prod.snd x2)))) = Prod.fst (Prod.snd (Prod.snd (Prod.snd (Prod.snd y22)))) ∧ Prod.snd (Prod.snd (Prod.snd (Prod.snd (Prod.snd x2)))) = Prod.snd (Prod.snd (Prod.snd (Prod.snd (Prod.snd y22))))) ∧ z0 = z0 ∧ z21 = Prod.fst y22 ∧ b = b ∧ t = t ∧ ((0 : Nat) = (0 : Nat) ∧ n = n ∧ n = n) ∧ ((0 : Nat) = (0 : Nat) ∧ n = n ∧ n = n) ∧ (Prod.fst (Prod.snd x2) = Prod.fst (Prod.snd y22) ∧ n = n ∧ false = false) ∧ (Prod.fst (Prod.snd (Prod.snd x2)) = Prod.fst (Prod.snd (Prod.snd y22)) ∧ n = n ∧ false = false) ∧ (U.nilL = U.nilL ∧ (0 : Nat) = (0 : Nat) ∧ false = false) ∧ (Prod.fst (Prod.snd (Prod.snd (Prod.snd x2))) = Prod.fst (Prod.snd (Prod.snd (Prod.snd y22))) ∧ Prod.snd (Prod.snd (Prod.snd (Prod.snd (Prod.snd x2)))) = Prod.snd (Prod.snd (Prod.snd (Prod.snd (Prod.snd y22)))) ∧ false = false) ∧ U.qtI n (Prod.fst y22) (Prod.fst (Prod.snd y22)) (Prod.fst (Prod.snd (Prod.snd y22))) (Prod.fst (Prod.snd (Prod.snd (Prod.snd y22)))) (Prod.fst (Prod.snd (Prod.snd (Prod.snd (Prod.snd y22))))) (Prod.snd (Prod.snd (Prod.snd (Prod.snd (Prod.snd y22))))) ∧ Int.toNat (↑n : Int) - Int.toNat (Prod.fst y22) < Int.toNat (↑n : Int) - Int.toNat (Prod.fst x2))) ∧ (¬Prod.fst x2 < z0 → K (Sum.inl (Sum.inl (Sum.inr (Sum.inr (Sum.inr (Sum.inr (Sum.inr (Sum.inr (Sum.inr (Sum.inr (Sum.inr (Sum.inr (Sum.inr (Sum.inl { a := (2 : Nat), u := (3 : Nat), o := (0 : Nat), n := Prod.fst (Prod.snd (Prod.snd (Prod.snd (Prod.snd x2)))), c := Prod.snd (Prod.snd (Prod.snd (Prod.snd (Prod.snd x2)))) })))))))))))))) { heap := [some { elem := nat_lit 61, cells := [Sum.inr (Sum.inr (Sum.inr (Sum.inr (Sum.inr (Sum.inr (Sum.inl (IntKind.u32, b))))))), Sum.inr (Sum.inr (Sum.inr (Sum.inr (Sum.inr (Sum.inr (Sum.inl (IntKind.i64, t))))))), Sum.inr (Sum.inr (Sum.inr (Sum.inr (Sum.inr (Sum.inr (Sum.inr (Sum.inr (Sum.inr (Sum.inr (Sum.inr (Sum.inl { a := (0 : Nat), u := (1 : Nat), o := (0 : Nat), n := n, c := n }))))))))))), Sum.inr (Sum.inr (Sum.inr (Sum.inr (Sum.inr (Sum.inr (Sum.inr (Sum.inr (Sum.inr (Sum.inr (Sum.inr (Sum.inl { a := (1 : Nat), u := (3 : Nat), o := (0 : Nat), n := n, c := n })))))))))))], j := none, c := (4 : Nat), z := false }], ints := [], opqs := (0 : Nat), arrs := [some { elem := (4 : TypeId), k := AK.o (Obj.rows [CK.b] (Prod.fst (Prod.snd x2))), l := [], cap := n, ro := false }, some { elem := (66 : TypeId), k := AK.o (Obj.rows [CK.n IntKind.u64, CK.n IntKind.u32, CK.n IntKind.i64] (Prod.fst (Prod.snd (Prod.snd x2)))), l := [], cap := n, ro := false }, some { elem := (66 : TypeId), k := AK.o (Obj.rows [CK.n IntKind.u64, CK.n IntKind.u32, CK.n IntKind.i64] (Prod.fst (Prod.snd (Prod.snd (Prod.snd x2))))), l := [], cap := Prod.snd (Prod.snd (Prod.snd (Prod.snd (Prod.snd x2)))), ro := false }], junks := (0 : Nat) })) := by kernel_rfl
end Go.Proofs.Ytbifilonmkaonaa
end

section
set_option linter.unusedVariables false
set_option linter.unusedSimpArgs false
set_option maxRecDepth 10000
namespace Go.Proofs.Ytbifilonmkaonaa
open Go Reck Ost
theorem rput_len (L : Rws) (j f : Nat) (cs : List CV) : (U.put L j f cs).length = L.length := by
  unfold U.put
  exact List.length_set ..
theorem qk_out {n : Nat} {k : Int} (h : U.qK n k) : -1 ≤ k ∧ k < n := h.out
abbrev gaA (u e : Int) : AV := .inr [.inl (xintC .i64 u), .inl (xintC .i64 e)]
def qrSx (b t : Int) (n : Nat) (B R O : Rws) (co : Nat) : St := ⟨[qrB b t (rslC ⟨0, 1, 0, n, n⟩) (rslC ⟨1, 3, 0, n, n⟩)], [], 0, [some (qbB B n), some (qmB R n), some (qmB O co)], 0⟩
theorem qr1 {n : Nat} {B R : Rws} (h : U.Qr n B R) (j f : Nat) (cs : List CV) : U.Qr n (U.put B j f cs) R := ⟨by rw [rput_len]; exact h.out⟩
theorem qr2 {n : Nat} {B R : Rws} (h : U.Qr n B R) (j f : Nat) (cs : List CV) : U.Qr n B (U.put R j f cs) := ⟨by rw [rput_len]; exact h.out⟩
theorem roffer_run (K : AV → St → Prop) (b t : Int) (n : Nat) (B R : Rws) (hQ : U.Qr n B R) (m now : Int) (hK : ∀ ip e : Int, K (erA ip e) (qrSt b t n B R)) : runR (invQr n) tR2 20 [ptr 0 0, xi .u64 m, xi .i64 now] (qrSt b t n B R) K := by
  have hn := hQ.out
  rw [roffer_vc]
  refine ⟨⟨⟨rfl, rfl, rfl, rfl, rfl⟩, hQ⟩, fun k hk => ⟨fun hk0 => ?_, fun hk0 z3 h3 => ⟨?_, ?_⟩⟩⟩
  · have hk := hk.out
    exact ⟨by omega, fun j hj => ⟨by omega, fun z2 _ => hK _ _⟩⟩
  · refine ⟨0, ?_⟩
    repeat' (first | exact rfl | with_reducible apply And.intro)
    exact ⟨by omega, by omega⟩
  rintro i ⟨i1, i2⟩
  refine ⟨fun hi => ⟨by omega, fun j hj => ⟨by omega, fun _ => ⟨by omega, fun j7 hj7 => ⟨by omega, fun z8 _ => ⟨fun _ z9 _ z10 _ z11 _ => hK _ _, fun _ z12 h12 => ?_⟩⟩⟩, fun _ z14 _ z15 _ z16 _ => hK _ _⟩⟩, fun _ => hK _ _⟩
  have e12 := iw h12 (by omega)
  refine ⟨z12, ?_⟩
  repeat' (first | exact rfl | with_reducible apply And.intro)
  · exact ⟨by omega, by omega⟩
  · omega
def proffer : Pat := fun args σ => match args with
  | [.inl (.inl (.inr (.inl (0, 0)))), a0, a1] => match aIntK .u64 a0, aInt a1, qrC σ with
    | some m, some now, some (b, t, n, B, R) => some fun K => (qrD σ ∧ U.Qr n B R) ∧ ∀ ip e : Int, K (erA ip e) (qrSt b t n B R)
    | _, _, _ => none
  | _ => none
theorem proffer_ok : PatOk 20 proffer := by
  intro tm σ C h K hK w0 e w hk vs hvs
  unfold proffer at h
  split at h
  · split at h
    · rename_i h0 h1 hσ
      simp only [Option.some.injEq] at h; subst h
      obtain ⟨⟨hd, hQ⟩, hP⟩ := hK
      obtain rfl := qrC_eq hσ hd
      obtain ⟨y0, y1, y2, rfl, q0, q1, q2⟩ := threes hvs
      exact knownC noOv names (conOk_ofR tR2_ok) (roffer_run K _ _ _ _ _ hQ _ _ hP) w0 e w hk _ (map3 q0 (as_aIntK h0 q1) (as_aInt h1 q2))
    · cases h
  · cases h
set_option maxHeartbeats 2000000 in
theorem rgrant_run (K : AV → St → Prop) (b t : Int) (n : Nat) (B R : Rws) (hQ : U.Qr n B R) (m ip now : Int) (hK : ∀ (u e : Int) (B' R' : Rws), U.Qr n B' R' → K (gaA u e) (qrSt b t n B' R')) : runR (invQr n) tR2 21 [ptr 0 0, xi .u64 m, xi .u32 ip, xi .i64 now] (qrSt b t n B R) K := by
  have hn := hQ.out
  rw [rgrant_vc]
  repeat' (first | exact rfl | exact hQ | with_reducible apply And.intro | (intro (hk : U.qK _ _); have := qk_out hk; clear hk) | intro _)
  all_goals try subst_vars
  all_goals try simp only [rput_len]
  all_goals first
    | omega
    | exact hK _ _ _ _ hQ
    | exact hK _ _ _ _ (qr1 (qr2 hQ _ _ _) _ _ _)
    | exact hK _ _ _ _ (qr1 (qr1 (qr2 (qr2 hQ _ _ _) _ _ _) _ _ _) _ _ _)
def prgrant : Pat := fun args σ => match args with
  | [.inl (.inl (.inr (.inl (0, 0)))), a0, a1, a2] => match aIntK .u64 a0, aIntK .u32 a1, aInt a2, qrC σ with
    | some m, some ip, some now, some (b, t, n, B, R) => some fun K => (qrD σ ∧ U.Qr n B R) ∧ ∀ (u e : Int) (B' R' : Rws), U.Qr n B' R' → K (gaA u e) (qrSt b t n B' R')
    | _, _, _, _ => none
  | _ => none
theorem prgrant_ok : PatOk 21 prgrant := by
  intro tm σ C h K hK w0 e w hk vs hvs
  unfold prgrant at h
  split at h
  · split at h
    · rename_i h0 h1 h2 hσ
      simp only [Option.some.injEq] at h; subst h
      obtain ⟨⟨hd, hQ⟩, hP⟩ := hK
      obtain rfl := qrC_eq hσ hd
      obtain ⟨y0, y1, y2, y3, rfl, q0, q1, q2, q3⟩ := fours hvs
      exact knownC noOv names (conOk_ofR tR2_ok) (rgrant_run K _ _ _ _ _ hQ _ _ _ hP) w0 e w hk _ (map4 q0 (as_aIntK h0 q1) (as_aIntK h1 q2) (as_aInt h2 q3))
    · cases h
  · cases h
theorem rfree_run (K : AV → St → Prop) (b t : Int) (n : Nat) (B R : Rws) (hQ : U.Qr n B R) (m : Int) (hK : ∀ (v0 v1 v2 : Int) (ok : Bool) (B' R' : Rws), U.Qr n B' R' → K (qlge v0 v1 v2 ok) (qrSt b t n B' R')) : runR (invQr n) tR2 22 [ptr 0 0, xi .u64 m] (qrSt b t n B R) K := by
  have hn := hQ.out
  rw [rfree_vc]
  repeat' (first | exact rfl | exact hQ | with_reducible apply And.intro | (intro (hk : U.qK _ _); have := qk_out hk; clear hk) | intro _)
  all_goals try subst_vars
  all_goals try simp only [rput_len]
  all_goals first
    | omega
    | exact hK _ _ _ _ _ _ hQ
    | exact hK _ _ _ _ _ _ (qr1 (qr2 hQ _ _ _) _ _ _)
def prfree : Pat := fun args σ => match args with
  | [.inl (.inl (.inr (.inl (0, 0)))), a0] => match aIntK .u64 a0, qrC σ with
    | some m, some (b, t, n, B, R) => some fun K => (qrD σ ∧ U.Qr n B R) ∧ ∀ (v0 v1 v2 : Int) (ok : Bool) (B' R' : Rws), U.Qr n B' R' → K (qlge v0 v1 v2 ok) (qrSt b t n B' R')
    | _, _ => none
  | _ => none
theorem prfree_ok : PatOk 22 prfree := by
  intro tm σ C h K hK w0 e w hk vs hvs
  unfold prfree at h
  split at h
  · split at h
    · rename_i h0 hσ
      simp only [Option.some.injEq] at h; subst h
      obtain ⟨⟨hd, hQ⟩, hP⟩ := hK
      obtain rfl := qrC_eq hσ hd
      obtain ⟨y0, y1, rfl, q0, q1⟩ := twos hvs
      exact knownC noOv names (conOk_ofR tR2_ok) (rfree_run K _ _ _ _ _ hQ _ hP) w0 e w hk _ (map2 q0 (as_aIntK h0 q1))
    · cases h
  · cases h
theorem rput_run (K : AV → St → Prop) (b t : Int) (n : Nat) (B R : Rws) (hQ : U.Qr n B R) (x0 x1 x2 : Int) (hK : ∀ (e : Int) (B' R' : Rws), U.Qr n B' R' → K (xi .i64 e) (qrSt b t n B' R')) : runR (invQr n) tR2 27 [ptr 0 0, .inl (.inr (qlC x0 x1 x2))] (qrSt b t n B R) K := by
  have hn := hQ.out
  rw [rput_vc]
  repeat' (first | exact rfl | exact hQ | with_reducible apply And.intro | (intro (hk : U.qK _ _); have := qk_out hk; clear hk) | intro _)
  all_goals try subst_vars
  all_goals try simp only [rput_len]
  all_goals first
    | omega
    | exact hK _ _ _ hQ
    | exact hK _ _ _ (qr1 (qr2 hQ _ _ _) _ _ _)
def prput : Pat := fun args σ => match args with
  | [.inl (.inl (.inr (.inl (0, 0)))), a0] => match aLe a0, qrC σ with
    | some (x0, x1, x2), some (b, t, n, B, R) => some fun K => (qrD σ ∧ U.Qr n B R) ∧ ∀ (e : Int) (B' R' : Rws), U.Qr n B' R' → K (xi .i64 e) (qrSt b t n B' R')
    | _, _ => none
  | _ => none
theorem prput_ok : PatOk 27 prput := by
  intro tm σ C h K hK w0 e w hk vs hvs
  unfold prput at h
  split at h
  · split at h
    · rename_i h0 hσ
      simp only [Option.some.injEq] at h; subst h
      obtain ⟨⟨hd, hQ⟩, hP⟩ := hK
      obtain rfl := qrC_eq hσ hd
      obtain ⟨y0, y1, rfl, q0, q1⟩ := twos hvs
      exact knownC noOv names (conOk_ofR tR2_ok) (rput_run K _ _ _ _ _ hQ _ _ _ hP) w0 e w hk _ (map2 q0 (as_aLe h0 q1))
    · cases h
  · cases h
set_option maxHeartbeats 1000000 in
theorem rtick_run (K : AV → St → Prop) (b t : Int) (n : Nat) (B R : Rws) (hQ : U.Qr n B R) (now : Int) (hK : ∀ (B' R' O : Rws) (r co : Nat), U.Qr n B' R' → r = O.length → r ≤ co → r ≤ 64 → K (cell (rslC ⟨2, 3, 0, r, co⟩)) (qrSx b t n B' R' O co)) : runR (invQt n) tR2 26 [ptr 0 0, xi .i64 now] (qrSt b t n B R) K := by
  have hn := hQ.out
  rw [rtick_vc]
  refine fun z0 h0 => ⟨?_, ?_⟩
  · refine ⟨(0, (B, (R, ([], (0, 0))))), ?_⟩
    repeat' (first | exact rfl | with_reducible apply And.intro)
    exact ⟨⟨Int.le_refl _, by dsimp only; omega⟩, hn.2.1, hn.2.2, rfl, Int.le_refl _, Nat.le_refl _⟩
  rintro ⟨i, B1, R1, O, r, co⟩ hI
  obtain ⟨⟨i1, i2⟩, b1, r1, o1, o2, o3⟩ := hI.out
  dsimp only at i1 i2 b1 r1 o1 o2 o3 ⊢
  refine ⟨fun hi => ⟨by omega, fun j hj => ⟨by omega, fun _ => ⟨by omega, fun j4 hj4 => ⟨by omega, fun z5 _ => ⟨fun _ => ⟨by omega, fun j6 hj6 => ⟨by omega, fun z7 _ z8 _ z9 _ => ⟨by omega, trivial, by omega, by decide, fun L10 n11 c12 e10 e11 e12 => ⟨by omega, fun j13 hj13 => ⟨by omega, fun L14 e14 => ⟨by omega, fun j15 hj15 => ⟨by omega, fun L16 e16 z17 h17 => ?_⟩⟩⟩⟩⟩⟩⟩, fun _ z17 h17 => ?_⟩⟩⟩, fun _ z17 h17 => ?_⟩⟩, fun hi => hK B1 R1 O r co ⟨⟨hn.1, b1, r1⟩⟩ o1 o3 (by omega)⟩
  all_goals have e17 := iw h17 (by omega)
  · refine ⟨(z17, (L14, (L16, (L10, (n11, c12))))), ?_⟩
    repeat' (first | exact rfl | with_reducible apply And.intro)
    · have hnl : List.length ([CV.i 0] :: (U.nilL : List (List CV))) = 1 := rfl
      rw [List.length_cons] at hnl
      refine ⟨by dsimp only; omega, by dsimp only; rw [e14, rput_len]; exact b1, by dsimp only; rw [e16, rput_len]; exact r1, ?_, by dsimp only; omega, e12⟩
      dsimp only
      rw [e10, List.length_append, List.drop_zero, List.length_take, e11, List.length_cons]
      omega
    · dsimp only; omega
  · refine ⟨(z17, (B1, (R1, (O, (r, co))))), ?_⟩
    repeat' (first | exact rfl | with_reducible apply And.intro)
    · exact ⟨by dsimp only; omega, b1, r1, o1, by dsimp only; omega, o3⟩
    · dsimp only; omega
  · refine ⟨(z17, (B1, (R1, (O, (r, co))))), ?_⟩
    repeat' (first | exact rfl | with_reducible apply And.intro)
    · exact ⟨by dsimp only; omega, b1, r1, o1, by dsimp only; omega, o3⟩
    · dsimp only; omega
def prtick : Pat := fun args σ => match args with
  | [.inl (.inl (.inr (.inl (0, 0)))), a0] => match aInt a0, qrC σ with
    | some now, some (b, t, n, B, R) => some fun K => (qrD σ ∧ U.Qr n B R) ∧ ∀ (B' R' O : Rws) (r co : Nat), U.Qr n B' R' → r = O.length → r ≤ co → r ≤ 64 → K (cell (rslC ⟨2, 3, 0, r, co⟩)) (qrSx b t n B' R' O co)
    | _, _ => none
  | _ => none
theorem prtick_ok : PatOk 26 prtick := by
  intro tm σ C h K hK w0 e w hk vs hvs
  unfold prtick at h
  split at h
  · split at h
    · rename_i h0 hσ
      simp only [Option.some.injEq] at h; subst h
      obtain ⟨⟨hd, hQ⟩, hP⟩ := hK
      obtain rfl := qrC_eq hσ hd
      obtain ⟨y0, y1, rfl, q0, q1⟩ := twos hvs
      exact knownC noOv names (conOk_ofR tR2_ok) (rtick_run K _ _ _ _ _ hQ _ hP) w0 e w hk _ (map2 q0 (as_aInt h0 q1))
    · cases h
  · cases h
def tR4 : Tbl := tblOr (tblIf 20 proffer) (tblOr (tblIf 21 prgrant) (tblOr (tblIf 22 prfree) (tblOr (tblIf 27 prput) (tblOr (tblIf 26 prtick) tR2))))
theorem tR4_ok : TblOk Try.prog tR4 := tblOr_ok (tblIf_ok proffer_ok) (tblOr_ok (tblIf_ok prgrant_ok) (tblOr_ok (tblIf_ok prfree_ok) (tblOr_ok (tblIf_ok prput_ok) (tblOr_ok (tblIf_ok prtick_ok) tR2_ok))))
end Go.Proofs.Ytbifilonmkaonaa
end
