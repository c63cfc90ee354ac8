/- Parts of a proof, one behind the other: XR1 XR2 XR3 XR4. No condition. -/
import Derived.Test.YtmahbhoblhhamaaGD
section
namespace Go.Proofs.Ytmahbhoblhhamaa
open Go Reck Ost
set_option linter.unusedVariables false
set_option maxRecDepth 100000
def caK : List CK := [.n .i64, .n .i64, .n .i64, .n .i64, .n .i64, .b]
def caB (R : Rws) (cap : Nat) : ABlk := rowB 77 caK R cap false
def rwI (r : List CV) (f : Nat) : Int := match r.getD f (.i 0) with
  | .i z => z
  | _ => 0
def rwB (r : List CV) (f : Nat) : Bool := match r.getD f (.i 0) with
  | .b x => x
  | _ => false
/-- What is at a port. -/
def U.rO : Rws → Int → Int → CSv
  | [], _, _ => ⟨0, 0, 0, 0⟩
  | r :: l, a, b => if rwI r 0 = a ∧ rwI r 1 = b then (if rwB r 5 = true then ⟨2, 0, 0, rwI r 4⟩ else ⟨1, rwI r 2, rwI r 3, 0⟩) else if rwI r 2 = a ∧ rwI r 3 = b ∧ rwB r 5 = false then ⟨1, rwI r 0, rwI r 1, 0⟩ else U.rO l a b
/-- Where a machine is. -/
def U.rW : Rws → Int → Option (Int × Int)
  | [], _ => none
  | r :: l, h => if rwB r 5 = true ∧ rwI r 4 = h then some (rwI r 0, rwI r 1) else U.rW l h
/-- Without what is at a port. -/
def U.rPr (a b : Int) (r : List CV) : Bool := !(decide (rwI r 0 = a ∧ rwI r 1 = b)) && (rwB r 5 || !(decide (rwI r 2 = a ∧ rwI r 3 = b)))
def U.rP (R : Rws) (a b : Int) : Rws := R.filter (U.rPr a b)
structure U.rOI (R : Rws) (n : Nat) (a b i : Int) : Prop where
  out : 0 ≤ i ∧ i ≤ n ∧ U.rO R a b = U.rO (R.drop i.toNat) a b
structure U.rWI (R : Rws) (n : Nat) (h i : Int) : Prop where
  out : 0 ≤ i ∧ i ≤ n ∧ U.rW R h = U.rW (R.drop i.toNat) h
structure U.rPI (R : Rws) (n : Nat) (a b i : Int) (O : Rws) (q c : Nat) : Prop where
  out : 0 ≤ i ∧ i ≤ n ∧ O = U.rP (R.take i.toNat) a b ∧ q = O.length ∧ q ≤ i ∧ q ≤ c
def ptA (tm : List AV) (σ : St) (t : Nat) : Int × Int := match tm.getD t (lit undef) with
  | .inl (.inl (.inr (.inl (b, 0)))) => (match getBlk σ b with
    | some x => (match x.cells with
      | [a, b] => (match cInt a, cInt b with
        | some a, some b => (a, b)
        | _, _ => (0, 0))
      | _ => (0, 0))
    | none => (0, 0))
  | _ => (0, 0)
def roInv (tm : List AV) (σ : St) : Inv where
  X := Int
  tags := [0]
  tag _ _ := 0
  J := [0, 1, 2, 5, 6, 10, 11, 12, 13, 14, 15, 16, 17, 18, 19, 20, 21, 22, 23, 24, 25, 26, 27, 28, 29, 30, 31, 32, 33, 34, 35, 36, 37, 38, 39, 40, 41, 42, 43, 44]
  val _ x := [(9, xi .i64 x)]
  st _ _ σ' := σ'
  I _ x := U.rOI (rowsAt σ (slotR tm 7).a) (slotR tm 7).n (ptA tm σ 3).1 (ptA tm σ 3).2 x
  m _ x := ((slotR tm 7).n : Int).toNat - x.toNat
  ren := noRen
def rwInv (tm : List AV) (σ : St) : Inv where
  X := Int
  tags := [0]
  tag _ _ := 0
  J := [0, 2, 3, 5, 6, 7, 11, 12, 13, 14, 15, 16, 17, 18, 19, 20, 21, 22, 23, 24, 25]
  val _ x := [(10, xi .i64 x)]
  st _ _ σ' := σ'
  I _ x := U.rWI (rowsAt σ (slotR tm 8).a) (slotR tm 8).n (slotI tm 1) x
  m _ x := ((slotR tm 8).n : Int).toNat - x.toNat
  ren := noRen
def rpInv (tm : List AV) (σ : St) : Inv where
  X := Int × (Rws × (Nat × Nat))
  tags := [0]
  tag _ _ := 0
  J := [0, 1, 2, 4, 6, 7, 11, 12, 13, 14, 15, 16, 17, 18, 19, 20, 21, 22, 23, 24, 25, 26, 27, 28, 29, 30, 31, 32, 33]
  val _ x := [(10, xi .i64 x.1), (5, cell (rslC ⟨σ.arrs.length, 6, 0, x.2.2.1, x.2.2.2⟩))]
  st _ x σ' := ⟨σ'.heap, σ'.ints, σ'.opqs, σ'.arrs.dropLast ++ [some (caB x.2.1 x.2.2.2)], σ'.junks⟩
  I _ x := U.rPI (rowsAt σ (slotR tm 8).a) (slotR tm 8).n (ptA tm σ 3).1 (ptA tm σ 3).2 x.1 x.2.1 x.2.2.1 x.2.2.2
  m _ x := ((slotR tm 8).n : Int).toNat - x.1.toNat
  ren tm' σ' := ([], [(slotR tm' 5).a])
def invR19 : InvF := fun c tm σ => match tm.length, firstReg c with
  | 45, some 2 => some (roInv tm σ)
  | 26, some 2 => some (rwInv tm σ)
  | 34, some 3 => some (rpInv tm σ)
  | _, _ => none
def caSt (R : Rws) (c : Nat) : St := ⟨[], [], 0, [some (caB R c)], 0⟩
--PLAIN
theorem rOther_vc (K : AV → St → Prop) (R : Rws) (n c a b : Nat) (x y : Int) : (runR invR19 tbl0 20 [cell (rslC ⟨0, 6, 0, n, c⟩), plA x y] (caSt R c) K) = (∀ (z0 : Int), z0 = (↑n : Int) → (∃ (y1 : Int), ((0 : Nat) = (0 : Nat) ∧ n = n ∧ c = c) ∧ z0 = z0 ∧ (0 : Int) = y1 ∧ x = x ∧ y = y ∧ (R = R ∧ c = c ∧ false = false) ∧ U.rOI R n x y y1) ∧ ∀ (x2 : Int), U.rOI R n x y x2 → (x2 < z0 → ((0 : Int) ≤ x2 ∧ x2 < (↑n : Int)) ∧ ∀ (j3 : Nat), (↑j3 : Int) = (↑((0 : Nat)) : Int) + x2 → j3 < List.length R ∧ ∀ (z4 : Int), z4 = U.fi R j3 ((0 : Nat)) → ∀ (z5 : Int), z5 = U.fi R j3 ((0 : Nat) + (1 : Nat)) → ∀ (z6 : Int), z6 = U.fi R j3 ((0 : Nat) + (1 : Nat) + (1 : Nat)) → ∀ (z7 : Int), z7 = U.fi R j3 ((0 : Nat) + (1 : Nat) + (1 : Nat) + (1 : Nat)) → ∀ (z8 : Int), z8 = U.fi R j3 ((0 : Nat) + (1 : Nat) + (1 : Nat) + (1 : Nat) + (1 : Nat)) → (U.fb R j3 ((0 : Nat) + (1 : Nat) + (1 : Nat) + (1 : Nat) + (1 : Nat) + (1 : Nat)) = true → (z4 = x ∧ z5 = y ∧ True → K (Sum.inl (Sum.inr [Sum.inr (Sum.inr (Sum.inr (Sum.inr (Sum.inr (Sum.inr (Sum.inl (IntKind.i64, (2 : Int)))))))), Sum.inr (Sum.inr (Sum.inr (Sum.inr (Sum.inr (Sum.inr (Sum.inl (IntKind.i64, (0 : Int)))))))), Sum.inr (Sum.inr (Sum.inr (Sum.inr (Sum.inr (Sum.inr (Sum.inl (IntKind.i64, (0 : Int)))))))), Sum.inr (Sum.inr (Sum.inr (Sum.inr (Sum.inr (Sum.inr (Sum.inl (IntKind.i64, z8)))))))])) { heap := [], ints := [], opqs := (0 : Nat), arrs := [some { elem := (77 : Nat), k := AK.o (Obj.rows [CK.n IntKind.i64, CK.n IntKind.i64, CK.n IntKind.i64, CK.n IntKind.i64, CK.n IntKind.i64, CK.b] R), l := [], cap := c, ro := false }], junks := (0 : Nat) }) ∧ (¬(z4 = x ∧ z5 = y ∧ True) → (z4 = x ∧ z5 = y ∧ True → K (Sum.inl (Sum.inr [Sum.inr (Sum.inr (Sum.inr (Sum.inr (Sum.inr (Sum.inr (Sum.inl (IntKind.i64, (1 : Int)))))))), Sum.inr (Sum.inr (Sum.inr (Sum.inr (Sum.inr (Sum.inr (Sum.inl (IntKind.i64, z6))))))), Sum.inr (Sum.inr (Sum.inr (Sum.inr (Sum.inr (Sum.inr (Sum.inl (IntKind.i64, z7))))))), Sum.inr (Sum.inr (Sum.inr (Sum.inr (Sum.inr (Sum.inr (Sum.inl (IntKind.i64, (0 : Int))))))))])) { heap := [], ints := [], opqs := (0 : Nat), arrs := [some { elem := (77 : Nat), k := AK.o (Obj.rows [CK.n IntKind.i64, CK.n IntKind.i64, CK.n IntKind.i64, CK.n IntKind.i64, CK.n IntKind.i64, CK.b] R), l := [], cap := c, ro := false }], junks := (0 : Nat) }) ∧ (¬(z4 = x ∧ z5 = y ∧ True) → (z6 = x ∧ z7 = y ∧ True → ∀ (z9 : Int), z9 = IntKind.wrap IntKind.i64 (x2 + (1 : Int)) → ∃ (y10 : Int), ((0 : Nat) = (0 : Nat) ∧ n = n ∧ c = c) ∧ z0 = z0 ∧ z9 = y10 ∧ x = x ∧ y = y ∧ (R = R ∧ c = c ∧ false = false) ∧ U.rOI R n x y y10 ∧ Int.toNat (↑n : Int) - Int.toNat y10 < Int.toNat (↑n : Int) - Int.toNat x2) ∧ (¬(z6 = x ∧ z7 = y ∧ True) → ∀ (z11 : Int), z11 = IntKind.wrap IntKind.i64 (x2 + (1 : Int)) → ∃ (y12 : Int), ((0 : Nat) = (0 : Nat) ∧ n = n ∧ c = c) ∧ z0 = z0 ∧ z11 = y12 ∧ x = x ∧ y = y ∧ (R = R ∧ c = c ∧ false = false) ∧ U.rOI R n x y y12 ∧ Int.toNat (↑n : Int) - Int.toNat y12 < Int.toNat (↑n : Int) - Int.toNat x2)))) ∧ (U.fb R j3 ((0 : Nat) + (1 : Nat) + (1 : Nat) + (1 : Nat) + (1 : Nat) + (1 : Nat)) = false → (z4 = x ∧ z5 = y ∧ True → (z4 = x ∧ z5 = y ∧ True → K (Sum.inl (Sum.inr [Sum.inr (Sum.inr (Sum.inr (Sum.inr (Sum.inr (Sum.inr (Sum.inl (IntKind.i64, (1 : Int)))))))), Sum.inr (Sum.inr (Sum.inr (Sum.inr (Sum.inr (Sum.inr (Sum.inl (IntKind.i64, z6))))))), Sum.inr (Sum.inr (Sum.inr (Sum.inr (Sum.inr (Sum.inr (Sum.inl (IntKind.i64, z7))))))), Sum.inr (Sum.inr (Sum.inr (Sum.inr (Sum.inr (Sum.inr (Sum.inl (IntKind.i64, (0 : Int))))))))])) { heap := [], ints := [], opqs := (0 : Nat), arrs := [some { elem := (77 : Nat), k := AK.o (Obj.rows [CK.n IntKind.i64, CK.n IntKind.i64, CK.n IntKind.i64, CK.n IntKind.i64, CK.n IntKind.i64, CK.b] R), l := [], cap := c, ro := false }], junks := (0 : Nat) }) ∧ (¬(z4 = x ∧ z5 = y ∧ True) → (z6 = x ∧ z7 = y ∧ True → K (Sum.inl (Sum.inr [Sum.inr (Sum.inr (Sum.inr (Sum.inr (Sum.inr (Sum.inr (Sum.inl (IntKind.i64, (1 : Int)))))))), Sum.inr (Sum.inr (Sum.inr (Sum.inr (Sum.inr (Sum.inr (Sum.inl (IntKind.i64, z4))))))), Sum.inr (Sum.inr (Sum.inr (Sum.inr (Sum.inr (Sum.inr (Sum.inl (IntKind.i64, z5))))))), Sum.inr (Sum.inr (Sum.inr (Sum.inr (Sum.inr (Sum.inr (Sum.inl (IntKind.i64, (0 : Int))))))))])) { heap := [], ints := [], opqs := (0 : Nat), arrs := [some { elem := (77 : Nat), k := AK.o (Obj.rows [CK.n IntKind.i64, CK.n IntKind.i64, CK.n IntKind.i64, CK.n IntKind.i64, CK.n IntKind.i64, CK.b] R), l := [], cap := c, ro := false }], junks := (0 : Nat) }) ∧ (¬(z6 = x ∧ z7 = y ∧ True) → ∀ (z13 : Int), z13 = IntKind.wrap IntKind.i64 (x2 + (1 : Int)) → ∃ (y14 : Int), ((0 : Nat) = (0 : Nat) ∧ n = n ∧ c = c) ∧ z0 = z0 ∧ z13 = y14 ∧ x = x ∧ y = y ∧ (R = R ∧ c = c ∧ false = false) ∧ U.rOI R n x y y14 ∧ Int.toNat (↑n : Int) - Int.toNat y14 < Int.toNat (↑n : Int) - Int.toNat x2))) ∧ (¬(z4 = x ∧ z5 = y ∧ True) → (z4 = x ∧ z5 = y ∧ True → K (Sum.inl (Sum.inr [Sum.inr (Sum.inr (Sum.inr (Sum.inr (Sum.inr (Sum.inr (Sum.inl (IntKind.i64, (1 : Int)))))))), Sum.inr (Sum.inr (Sum.inr (Sum.inr (Sum.inr (Sum.inr (Sum.inl (IntKind.i64, z6))))))), Sum.inr (Sum.inr (Sum.inr (Sum.inr (Sum.inr (Sum.inr (Sum.inl (IntKind.i64, z7))))))), Sum.inr (Sum.inr (Sum.inr (Sum.inr (Sum.inr (Sum.inr (Sum.inl (IntKind.i64, (0 : Int))))))))])) { heap := [], ints := [], opqs := (0 : Nat), arrs := [some { elem := (77 : Nat), k := AK.o (Obj.rows [CK.n IntKind.i64, CK.n IntKind.i64, CK.n IntKind.i64, CK.n IntKind.i64, CK.n IntKind.i64, CK.b] R), l := [], cap := c, ro := false }], junks := (0 : Nat) }) ∧ (¬(z4 = x ∧ z5 = y ∧ True) → (z6 = x ∧ z7 = y ∧ True → K (Sum.inl (Sum.inr [Sum.inr (Sum.inr (Sum.inr (Sum.inr (Sum.inr (Sum.inr (Sum.inl (IntKind.i64, (1 : Int)))))))), Sum.inr (Sum.inr (Sum.inr (Sum.inr (Sum.inr (Sum.inr (Sum.inl (IntKind.i64, z4))))))), Sum.inr (Sum.inr (Sum.inr (Sum.inr (Sum.inr (Sum.inr (Sum.inl (IntKind.i64, z5))))))), Sum.inr (Sum.inr (Sum.inr (Sum.inr (Sum.inr (Sum.inr (Sum.inl (IntKind.i64, (0 : Int))))))))])) { heap := [], ints := [], opqs := (0 : Nat), arrs := [some { elem := (77 : Nat), k := AK.o (Obj.rows [CK.n IntKind.i64, CK.n IntKind.i64, CK.n IntKind.i64, CK.n IntKind.i64, CK.n IntKind.i64, CK.b] R), l := [], cap := c, ro := false }], junks := (0 : Nat) }) ∧ (¬(z6 = x ∧ z7 = y ∧ True) → ∀ (z15 : Int), z15 = IntKind.wrap IntKind.i64 (x2 + (1 : Int)) → ∃ (y16 : Int), ((0 : Nat) = (0 : Nat) ∧ n = n ∧ c = c) ∧ z0 = z0 ∧ z15 = y16 ∧ x = x ∧ y = y ∧ (R = R ∧ c = c ∧ false = false) ∧ U.rOI R n x y y16 ∧ Int.toNat (↑n : Int) - Int.toNat y16 < Int.toNat (↑n : Int) - Int.toNat x2))))) ∧ (¬x2 < z0 → K (Sum.inl (Sum.inr [Sum.inr (Sum.inr (Sum.inr (Sum.inr (Sum.inr (Sum.inr (Sum.inl (IntKind.i64, (0 : Int)))))))), Sum.inr (Sum.inr (Sum.inr (Sum.inr (Sum.inr (Sum.inr (Sum.inl (IntKind.i64, (0 : Int)))))))), Sum.inr (Sum.inr (Sum.inr (Sum.inr (Sum.inr (Sum.inr (Sum.inl (IntKind.i64, (0 : Int)))))))), Sum.inr (Sum.inr (Sum.inr (Sum.inr (Sum.inr (Sum.inr (Sum.inl (IntKind.i64, (0 : Int))))))))])) { heap := [], ints := [], opqs := (0 : Nat), arrs := [some { elem := (77 : Nat), k := AK.o (Obj.rows [CK.n IntKind.i64, CK.n IntKind.i64, CK.n IntKind.i64, CK.n IntKind.i64, CK.n IntKind.i64, CK.b] R), l := [], cap := c, ro := false }], junks := (0 : Nat) })) := by kernel_rfl
theorem rWhere_vc (K : AV → St → Prop) (R : Rws) (n c : Nat) (h : Int) : (runR invR19 tbl0 25 [cell (rslC ⟨0, 6, 0, n, c⟩), xi .i64 h] (caSt R c) K) = (∀ (z0 : Int), z0 = (↑n : Int) → (∃ (y1 : Int), h = h ∧ ((0 : Nat) = (0 : Nat) ∧ n = n ∧ c = c) ∧ z0 = z0 ∧ (0 : Int) = y1 ∧ (R = R ∧ c = c ∧ false = false) ∧ U.rWI R n h y1) ∧ ∀ (x2 : Int), U.rWI R n h x2 → (x2 < z0 → ((0 : Int) ≤ x2 ∧ x2 < (↑n : Int)) ∧ ∀ (j3 : Nat), (↑j3 : Int) = (↑((0 : Nat)) : Int) + x2 → j3 < List.length R ∧ ∀ (z4 : Int), z4 = U.fi R j3 ((0 : Nat)) → ∀ (z5 : Int), z5 = U.fi R j3 ((0 : Nat) + (1 : Nat)) → ∀ (z6 : Int), z6 = U.fi R j3 ((0 : Nat) + (1 : Nat) + (1 : Nat)) → ∀ (z7 : Int), z7 = U.fi R j3 ((0 : Nat) + (1 : Nat) + (1 : Nat) + (1 : Nat)) → ∀ (z8 : Int), z8 = U.fi R j3 ((0 : Nat) + (1 : Nat) + (1 : Nat) + (1 : Nat) + (1 : Nat)) → (U.fb R j3 ((0 : Nat) + (1 : Nat) + (1 : Nat) + (1 : Nat) + (1 : Nat) + (1 : Nat)) = true → (z8 = h → K (Sum.inr [Sum.inr [Sum.inr (Sum.inr (Sum.inr (Sum.inr (Sum.inr (Sum.inr (Sum.inl (IntKind.i64, z4))))))), Sum.inr (Sum.inr (Sum.inr (Sum.inr (Sum.inr (Sum.inr (Sum.inl (IntKind.i64, z5)))))))], Sum.inl (Sum.inl (Value.bool true))]) { heap := [], ints := [], opqs := (0 : Nat), arrs := [some { elem := (77 : TypeId), k := AK.o (Obj.rows [CK.n IntKind.i64, CK.n IntKind.i64, CK.n IntKind.i64, CK.n IntKind.i64, CK.n IntKind.i64, CK.b] R), l := [], cap := c, ro := false }], junks := (0 : Nat) }) ∧ (¬z8 = h → ∀ (z9 : Int), z9 = IntKind.wrap IntKind.i64 (x2 + (1 : Int)) → ∃ (y10 : Int), h = h ∧ ((0 : Nat) = (0 : Nat) ∧ n = n ∧ c = c) ∧ z0 = z0 ∧ z9 = y10 ∧ (R = R ∧ c = c ∧ false = false) ∧ U.rWI R n h y10 ∧ Int.toNat (↑n : Int) - Int.toNat y10 < Int.toNat (↑n : Int) - Int.toNat x2)) ∧ (U.fb R j3 ((0 : Nat) + (1 : Nat) + (1 : Nat) + (1 : Nat) + (1 : Nat) + (1 : Nat)) = false → ∀ (z11 : Int), z11 = IntKind.wrap IntKind.i64 (x2 + (1 : Int)) → ∃ (y12 : Int), h = h ∧ ((0 : Nat) = (0 : Nat) ∧ n = n ∧ c = c) ∧ z0 = z0 ∧ z11 = y12 ∧ (R = R ∧ c = c ∧ false = false) ∧ U.rWI R n h y12 ∧ Int.toNat (↑n : Int) - Int.toNat y12 < Int.toNat (↑n : Int) - Int.toNat x2)) ∧ (¬x2 < z0 → K (Sum.inr [Sum.inr [Sum.inr (Sum.inr (Sum.inr (Sum.inr (Sum.inr (Sum.inr (Sum.inl (IntKind.i64, (0 : Int)))))))), Sum.inr (Sum.inr (Sum.inr (Sum.inr (Sum.inr (Sum.inr (Sum.inl (IntKind.i64, (0 : Int))))))))], Sum.inl (Sum.inl (Value.bool false))]) { heap := [], ints := [], opqs := (0 : Nat), arrs := [some { elem := (77 : TypeId), k := AK.o (Obj.rows [CK.n IntKind.i64, CK.n IntKind.i64, CK.n IntKind.i64, CK.n IntKind.i64, CK.n IntKind.i64, CK.b] R), l := [], cap := c, ro := false }], junks := (0 : Nat) })) := by kernel_rfl
theorem rPull_vc (K : AV → St → Prop) (R : Rws) (n c : Nat) (x y : Int) : (runR invR19 tbl0 21 [cell (rslC ⟨0, 6, 0, n, c⟩), plA x y] (caSt R c) K) = (∀ (z0 : Int), z0 = (↑n : Int) → (∃ (y1 : Int × Rws × Nat × Nat), ((0 : Nat) = (0 : Nat) ∧ (0 : Nat) = Prod.fst (Prod.snd (Prod.snd y1)) ∧ (0 : Nat) = Prod.snd (Prod.snd (Prod.snd y1))) ∧ ((0 : Nat) = (0 : Nat) ∧ n = n ∧ c = c) ∧ z0 = z0 ∧ (0 : Int) = Prod.fst y1 ∧ x = x ∧ y = y ∧ (R = R ∧ c = c ∧ false = false) ∧ (U.nilL = U.nilL ∧ (0 : Nat) = (0 : Nat) ∧ false = false) ∧ (U.nilL = Prod.fst (Prod.snd y1) ∧ (0 : Nat) = Prod.snd (Prod.snd (Prod.snd y1)) ∧ false = false) ∧ U.rPI R n x y (Prod.fst y1) (Prod.fst (Prod.snd y1)) (Prod.fst (Prod.snd (Prod.snd y1))) (Prod.snd (Prod.snd (Prod.snd y1)))) ∧ ∀ (x2 : Int × Rws × Nat × Nat), U.rPI R n x y (Prod.fst x2) (Prod.fst (Prod.snd x2)) (Prod.fst (Prod.snd (Prod.snd x2))) (Prod.snd (Prod.snd (Prod.snd x2))) → (Prod.fst x2 < z0 → ((0 : Int) ≤ Prod.fst x2 ∧ Prod.fst x2 < (↑n : Int)) ∧ ∀ (j3 : Nat), (↑j3 : Int) = (↑((0 : Nat)) : Int) + Prod.fst x2 → j3 < List.length R ∧ ∀ (z4 : Int), z4 = U.fi R j3 ((0 : Nat)) → ∀ (z5 : Int), z5 = U.fi R j3 ((0 : Nat) + (1 : Nat)) → ∀ (z6 : Int), z6 = U.fi R j3 ((0 : Nat) + (1 : Nat) + (1 : Nat)) → ∀ (z7 : Int), z7 = U.fi R j3 ((0 : Nat) + (1 : Nat) + (1 : Nat) + (1 : Nat)) → ∀ (z8 : Int), z8 = U.fi R j3 ((0 : Nat) + (1 : Nat) + (1 : Nat) + (1 : Nat) + (1 : Nat)) → (U.fb R j3 ((0 : Nat) + (1 : Nat) + (1 : Nat) + (1 : Nat) + (1 : Nat) + (1 : Nat)) = true → (¬(z4 = x ∧ z5 = y ∧ True) → ((0 : Nat) + Prod.fst (Prod.snd (Prod.snd x2)) ≤ List.length (Prod.fst (Prod.snd x2)) ∧ (0 : Nat) + Prod.snd (Prod.snd (Prod.snd x2)) ≤ Prod.snd (Prod.snd (Prod.snd x2))) ∧ True ∧ Prod.fst (Prod.snd (Prod.snd x2)) ≤ (16777216 : Nat) ∧ (1 : Nat) ≤ (16777216 : Nat) ∧ ∀ (L'9 : List (List CV)) (n'10 c'11 : Nat), L'9 = List.take (Prod.fst (Prod.snd (Prod.snd x2))) (List.drop ((0 : Nat)) (Prod.fst (Prod.snd x2))) ++ [CV.i z4, CV.i z5, CV.i z6, CV.i z7, CV.i z8, CV.b true] :: U.nilL → n'10 = Prod.fst (Prod.snd (Prod.snd x2)) + (1 : Nat) → n'10 ≤ c'11 → ∀ (z12 : Int), z12 = IntKind.wrap IntKind.i64 (Prod.fst x2 + (1 : Int)) → ∃ (y13 : Int × Rws × Nat × Nat), ((0 : Nat) = (0 : Nat) ∧ n'10 = Prod.fst (Prod.snd (Prod.snd y13)) ∧ c'11 = Prod.snd (Prod.snd (Prod.snd y13))) ∧ ((0 : Nat) = (0 : Nat) ∧ n = n ∧ c = c) ∧ z0 = z0 ∧ z12 = Prod.fst y13 ∧ x = x ∧ y = y ∧ (R = R ∧ c = c ∧ false = false) ∧ (U.nilL = U.nilL ∧ (0 : Nat) = (0 : Nat) ∧ false = false) ∧ (L'9 = Prod.fst (Prod.snd y13) ∧ c'11 = Prod.snd (Prod.snd (Prod.snd y13)) ∧ false = false) ∧ U.rPI R n x y (Prod.fst y13) (Prod.fst (Prod.snd y13)) (Prod.fst (Prod.snd (Prod.snd y13))) (Prod.snd (Prod.snd (Prod.snd y13))) ∧ Int.toNat (↑n : Int) - Int.toNat (Prod.fst y13) < Int.toNat (↑n : Int) - Int.toNat (Prod.fst x2)) ∧ (¬¬(z4 = x ∧ z5 = y ∧ True) → ∀ (z14 : Int), z14 = IntKind.wrap IntKind.i64 (Prod.fst x2 + (1 : Int)) → ∃ (y15 : Int × Rws × Nat × Nat), ((0 : Nat) = (0 : Nat) ∧ Prod.fst (Prod.snd (Prod.snd x2)) = Prod.fst (Prod.snd (Prod.snd y15)) ∧ Prod.snd (Prod.snd (Prod.snd x2)) = Prod.snd (Prod.snd (Prod.snd y15))) ∧ ((0 : Nat) = (0 : Nat) ∧ n = n ∧ c = c) ∧ z0 = z0 ∧ z14 = Prod.fst y15 ∧ x = x ∧ y = y ∧ (R = R ∧ c = c ∧ false = false) ∧ (U.nilL = U.nilL ∧ (0 : Nat) = (0 : Nat) ∧ false = false) ∧ (Prod.fst (Prod.snd x2) = Prod.fst (Prod.snd y15) ∧ Prod.snd (Prod.snd (Prod.snd x2)) = Prod.snd (Prod.snd (Prod.snd y15)) ∧ false = false) ∧ U.rPI R n x y (Prod.fst y15) (Prod.fst (Prod.snd y15)) (Prod.fst (Prod.snd (Prod.snd y15))) (Prod.snd (Prod.snd (Prod.snd y15))) ∧ Int.toNat (↑n : Int) - Int.toNat (Prod.fst y15) < Int.toNat (↑n : Int) - Int.toNat (Prod.fst x2))) ∧ (U.fb R j3 ((0 : Nat) + (1 : Nat) + (1 : Nat) + (1 : Nat) + (1 : Nat) + (1 : Nat)) = false → (¬(z4 = x ∧ z5 = y ∧ True) → (¬(z6 = x ∧ z7 = y ∧ True) → ((0 : Nat) + Prod.fst (Prod.snd (Prod.snd x2)) ≤ List.length (Prod.fst (Prod.snd x2)) ∧ (0 : Nat) + Prod.snd (Prod.snd (Prod.snd x2)) ≤ Prod.snd (Prod.snd (Prod.snd x2))) ∧ True ∧ Prod.fst (Prod.snd (Prod.snd x2)) ≤ (16777216 : Nat) ∧ (1 : Nat) ≤ (16777216 : Nat) ∧ ∀ (L'16 : List (List CV)) (n'17 c'18 : Nat), L'16 = List.take (Prod.fst (Prod.snd (Prod.snd x2))) (List.drop ((0 : Nat)) (Prod.fst (Prod.snd x2))) ++ [CV.i z4, CV.i z5, CV.i z6, CV.i z7, CV.i z8, CV.b false] :: U.nilL → n'17 = Prod.fst (Prod.snd (Prod.snd x2)) + (1 : Nat) → n'17 ≤ c'18 → ∀ (z19 : Int), z19 = IntKind.wrap IntKind.i64 (Prod.fst x2 + (1 : Int)) → ∃ (y20 : Int × Rws × Nat × Nat), ((0 : Nat) = (0 : Nat) ∧ n'17 = Prod.fst (Prod.snd (Prod.snd y20)) ∧ c'18 = Prod.snd (Prod.snd (Prod.snd y20))) ∧ ((0 : Nat) = (0 : Nat) ∧ n = n ∧ c = c) ∧ z0 = z0 ∧ z19 = Prod.fst y20 ∧ x = x ∧ y = y ∧ (R = R ∧ c = c ∧ false = false) ∧ (U.nilL = U.nilL ∧ (0 : Nat) = (0 : Nat) ∧ false = false) ∧ (L'16 = Prod.fst (Prod.snd y20) ∧ c'18 = Prod.snd (Prod.snd (Prod.snd y20)) ∧ false = false) ∧ U.rPI R n x y (Prod.fst y20) (Prod.fst (Prod.snd y20)) (Prod.fst (Prod.snd (Prod.snd y20))) (Prod.snd (Prod.snd (Prod.snd y20))) ∧ Int.toNat (↑n : Int) - Int.toNat (Prod.fst y20) < Int.toNat (↑n : Int) - Int.toNat (Prod.fst x2)) ∧ (¬¬(z6 = x ∧ z7 = y ∧ True) → ∀ (z21 : Int), z21 = IntKind.wrap IntKind.i64 (Prod.fst x2 + (1 : Int)) → ∃ (y22 : Int × Rws × Nat × Nat), ((0 : Nat) = (0 : Nat) ∧ Prod.fst (Prod.snd (Prod.snd x2)) = Prod.fst (Prod.snd (Prod.snd y22)) ∧ Prod.snd (Prod.snd (Prod.snd x2)) = Prod.snd (Prod.snd (Prod.snd y22))) ∧ ((0 : Nat) = (0 : Nat) ∧ n = n ∧ c = c) ∧ z0 = z0 ∧ z21 = Prod.fst y22 ∧ x = x ∧ y = y ∧ (R = R ∧ c = c ∧ false = false) ∧ (U.nilL = U.nilL ∧ (0 : Nat) = (0 : Nat) ∧ false = false) ∧ (Prod.fst (Prod.snd x2) = Prod.fst (Prod.snd y22) ∧ Prod.snd (Prod.snd (Prod.snd x2)) = Prod.snd (Prod.snd (Prod.snd y22)) ∧ false = false) ∧ U.rPI R n x y (Prod.fst y22) (Prod.fst (Prod.snd y22)) (Prod.fst (Prod.snd (Prod.snd y22))) (Prod.snd (Prod.snd (Prod.snd y22))) ∧ Int.toNat (↑n : Int) - Int.toNat (Prod.fst y22) < Int.toNat (↑n : Int) - Int.toNat (Prod.fst x2))) ∧ (¬¬(z4 = x ∧ z5 = y ∧ True) → ∀ (z23 : Int), z23 = IntKind.wrap IntKind.i64 (Prod.fst x2 + (1 : Int)) → ∃ (y24 : Int × Rws × Nat × Nat), ((0 : Nat) = (0 : Nat) ∧ Prod.fst (Prod.snd (Prod.snd x2)) = Prod.fst (Prod.snd (Prod.snd y24)) ∧ Prod.snd (Prod.snd (Prod.snd x2)) = Prod.snd (Prod.snd (Prod.snd y24))) ∧ ((0 : Nat) = (0 : Nat) ∧ n = n ∧ c = c) ∧ z0 = z0 ∧ z23 = Prod.fst y24 ∧ x = x ∧ y = y ∧ (R = R ∧ c = c ∧ false = false) ∧ (U.nilL = U.nilL ∧ (0 : Nat) = (0 : Nat) ∧ false = false) ∧ (Prod.fst (Prod.snd x2) = Prod.fst (Prod.snd y24) ∧ Prod.snd (Prod.snd (Prod.snd x2)) = Prod.snd (Prod.snd (Prod.snd y24)) ∧ false = false) ∧ U.rPI R n x y (Prod.fst y24) (Prod.fst (Prod.snd y24)) (Prod.fst (Prod.snd (Prod.snd y24))) (Prod.snd (Prod.snd (Prod.snd y24))) ∧ Int.toNat (↑n : Int) - Int.toNat (Prod.fst y24) < Int.toNat (↑n : Int) - Int.toNat (Prod.fst x2)))) ∧ (¬Prod.fst x2 < z0 → K (Sum.inl (Sum.inl (Sum.inr (Sum.inr (Sum.inr (Sum.inr (Sum.inr (Sum.inr (Sum.inr (Sum.inr (Sum.inr (Sum.inr (Sum.inr (Sum.inl { a := (1 : Nat), u := (6 : Nat), o := (0 : Nat), n := Prod.fst (Prod.snd (Prod.snd x2)), c := Prod.snd (Prod.snd (Prod.snd x2)) })))))))))))))) { heap := [], ints := [], opqs := (0 : Nat), arrs := [some { elem := (77 : TypeId), k := AK.o (Obj.rows [CK.n IntKind.i64, CK.n IntKind.i64, CK.n IntKind.i64, CK.n IntKind.i64, CK.n IntKind.i64, CK.b] R), l := [], cap := c, ro := false }, some { elem := (77 : TypeId), k := AK.o (Obj.rows [CK.n IntKind.i64, CK.n IntKind.i64, CK.n IntKind.i64, CK.n IntKind.i64, CK.n IntKind.i64, CK.b] (Prod.fst (Prod.snd x2))), l := [], cap := Prod.snd (Prod.snd (Prod.snd x2)), ro := false }], junks := (0 : Nat) })) := by kernel_rfl
theorem rLess_vc (K : AV → St → Prop) (a b a' b' : Int) : (runR inv0 tbl0 35 [plA a b, plA a' b'] emptySt K) = ((a < a' → K (Sum.inl (Sum.inl (Sum.inl (Value.bool true)))) { heap := [], ints := [], opqs := (0 : Nat), arrs := [], junks := (0 : Nat) }) ∧ (¬a < a' → (a = a' → (b < b' → K (Sum.inl (Sum.inl (Sum.inl (Value.bool true)))) { heap := [], ints := [], opqs := (0 : Nat), arrs := [], junks := (0 : Nat) }) ∧ (¬b < b' → K (Sum.inl (Sum.inl (Sum.inl (Value.bool false)))) { heap := [], ints := [], opqs := (0 : Nat), arrs := [], junks := (0 : Nat) })) ∧ (¬a = a' → K (Sum.inl (Sum.inl (Sum.inl (Value.bool false)))) { heap := [], ints := [], opqs := (0 : Nat), arrs := [], junks := (0 : Nat) }))) := by kernel_rfl
theorem plain_vc (K : AV → St → Prop) (k x y h : Int) : (runR inv0 tbl0 22 [.inl (.inr (csC k x y h))] emptySt K) = (K (Sum.inl (Sum.inr [Sum.inr (Sum.inr (Sum.inr (Sum.inr (Sum.inr (Sum.inr (Sum.inl (IntKind.i64, k))))))), Sum.inr (Sum.inr (Sum.inr (Sum.inr (Sum.inr (Sum.inr (Sum.inl (IntKind.i64, x))))))), Sum.inr (Sum.inr (Sum.inr (Sum.inr (Sum.inr (Sum.inr (Sum.inl (IntKind.i64, y))))))), Sum.inr (Sum.inr (Sum.inr (Sum.inr (Sum.inr (Sum.inr (Sum.inl (IntKind.i64, h)))))))])) { heap := [], ints := [], opqs := (0 : Nat), arrs := [], junks := (0 : Nat) }) := by kernel_rfl
end Go.Proofs.Ytmahbhoblhhamaa
end

section
set_option linter.unusedVariables false
set_option linter.unusedSimpArgs false
set_option maxRecDepth 10000
namespace Go.Proofs.Ytmahbhoblhhamaa
open Go Reck Ost
theorem fi_r (R : Rws) (j f : Nat) : U.fi R j f = rwI (R.getD j []) f := by
  unfold U.fi rwI
  rw [List.getD_eq_getElem?_getD (l := R.getD j [])]
  cases h : (R.getD j [])[f]? with
  | none => rfl
  | some v => cases v <;> rfl
theorem fb_r (R : Rws) (j f : Nat) : U.fb R j f = rwB (R.getD j []) f := by
  unfold U.fb rwB
  rw [List.getD_eq_getElem?_getD (l := R.getD j [])]
  cases h : (R.getD j [])[f]? with
  | none => rfl
  | some v => cases v <;> rfl
theorem drop_at {R : Rws} {j : Nat} (h : j < R.length) : R.drop j = R.getD j [] :: R.drop (j + 1) := by
  rw [List.drop_eq_getElem_cons h, List.getD_eq_getElem?_getD, List.getElem?_eq_getElem h]; rfl
structure U.isV (e : CSv) (k x y h : Int) : Prop where
  out : e = ⟨k, x, y, h⟩
theorem rO_at {R : Rws} {j : Nat} (h : j < R.length) (a b : Int) : U.rO (R.drop j) a b = if U.fi R j 0 = a ∧ U.fi R j 1 = b then (if U.fb R j 5 = true then ⟨2, 0, 0, U.fi R j 4⟩ else ⟨1, U.fi R j 2, U.fi R j 3, 0⟩) else if U.fi R j 2 = a ∧ U.fi R j 3 = b ∧ U.fb R j 5 = false then ⟨1, U.fi R j 0, U.fi R j 1, 0⟩ else U.rO (R.drop (j + 1)) a b := by
  rw [drop_at h]
  simp only [fi_r, fb_r]
  rfl
theorem rW_at {R : Rws} {j : Nat} (h : j < R.length) (q : Int) : U.rW (R.drop j) q = if U.fb R j 5 = true ∧ U.fi R j 4 = q then some (U.fi R j 0, U.fi R j 1) else U.rW (R.drop (j + 1)) q := by
  rw [drop_at h]
  simp only [fi_r, fb_r]
  rfl
theorem rOther_run (K : AV → St → Prop) (R : Rws) (n c : Nat) (x y : Int) (hn : n = R.length) (hs : n ≤ 16777216) (hK : ∀ k u v h : Int, U.isV (U.rO R x y) k u v h → K (.inl (.inr (csC k u v h))) (caSt R c)) :
    runR invR19 tbl0 20 [cell (rslC ⟨0, 6, 0, n, c⟩), plA x y] (caSt R c) K := by
  rw [rOther_vc K R n c 0 0 x y]
  intro z0 h0
  constructor
  · refine ⟨0, ?_⟩
    repeat' (first | exact rfl | with_reducible apply And.intro)
    exact ⟨Int.le_refl _, by omega, rfl⟩
  rintro i ⟨i1, i2, i3⟩
  refine ⟨fun hi => ⟨by omega, fun j hj => ⟨by omega, ?_⟩⟩, fun hi => ?_⟩
  · have hjl : j < R.length := by omega
    rw [show i.toNat = j by omega, rO_at hjl] at i3
    rintro _ rfl _ rfl _ rfl _ rfl _ rfl
    have hN : ∀ z9 : Int, z9 = IntKind.wrap IntKind.i64 (i + 1) → U.rO R x y = U.rO (R.drop (j + 1)) x y → U.rOI R n x y z9 ∧ Int.toNat (n : Int) - Int.toNat z9 < Int.toNat (n : Int) - Int.toNat i := fun z9 h9 he => by
      have e9 := iw h9 (by omega)
      exact ⟨⟨by omega, by omega, by rw [show z9.toNat = j + 1 by omega]; exact he⟩, by omega⟩
    refine ⟨fun hb => ⟨fun g => ?_, fun g => ⟨fun g' => absurd g' g, fun _ => ⟨fun g2 z9 h9 => ?_, fun g2 z9 h9 => ?_⟩⟩⟩, fun hb => ⟨fun g => ⟨fun _ => ?_, fun g' => absurd g g'⟩, fun g => ⟨fun g' => absurd g' g, fun _ => ⟨fun g2 => ?_, fun g2 z9 h9 => ?_⟩⟩⟩⟩
    · refine hK _ _ _ _ ⟨i3.trans ?_⟩
      rw [if_pos ⟨g.1, g.2.1⟩, if_pos hb]
    · refine ⟨z9, ?_⟩
      have hb' : ¬ U.fb R j 5 = false := by
        intro h; have h2 : U.fb R j 5 = true := hb; rw [h] at h2; cases h2
      rw [if_neg (fun h => g ⟨h.1, h.2, trivial⟩), if_neg (fun h => hb' h.2.2)] at i3
      repeat' (first | exact rfl | exact (hN z9 h9 i3).1 | exact (hN z9 h9 i3).2 | with_reducible apply And.intro)
    · refine ⟨z9, ?_⟩
      rw [if_neg (fun h => g ⟨h.1, h.2, trivial⟩), if_neg (fun h => g2 ⟨h.1, h.2.1, trivial⟩)] at i3
      repeat' (first | exact rfl | exact (hN z9 h9 i3).1 | exact (hN z9 h9 i3).2 | with_reducible apply And.intro)
    · refine hK _ _ _ _ ⟨i3.trans ?_⟩
      have hb' : ¬ U.fb R j 5 = true := by
        intro h; have h2 : U.fb R j 5 = false := hb; rw [h] at h2; cases h2
      rw [if_pos ⟨g.1, g.2.1⟩, if_neg hb']
    · refine hK _ _ _ _ ⟨i3.trans ?_⟩
      rw [if_neg (fun h => g ⟨h.1, h.2, trivial⟩), if_pos ⟨g2.1, g2.2.1, hb⟩]
    · refine ⟨z9, ?_⟩
      rw [if_neg (fun h => g ⟨h.1, h.2, trivial⟩), if_neg (fun h => g2 ⟨h.1, h.2.1, trivial⟩)] at i3
      repeat' (first | exact rfl | exact (hN z9 h9 i3).1 | exact (hN z9 h9 i3).2 | with_reducible apply And.intro)
  · refine hK _ _ _ _ ⟨?_⟩
    rw [i3, List.drop_eq_nil_of_le (by omega)]; rfl
structure U.isW (R : Rws) (h a b : Int) : Prop where
  out : U.rW R h = some (a, b)
structure U.noW (R : Rws) (h : Int) : Prop where
  out : U.rW R h = none
theorem rWhere_run (K : AV → St → Prop) (R : Rws) (n c : Nat) (h : Int) (hn : n = R.length) (hs : n ≤ 16777216) (h1 : ∀ a b : Int, U.isW R h a b → K (.inr [.inr [xintC .i64 a, xintC .i64 b], .inl (.inl (.bool true))]) (caSt R c)) (h0 : U.noW R h → K (.inr [.inr [xintC .i64 0, xintC .i64 0], .inl (.inl (.bool false))]) (caSt R c)) :
    runR invR19 tbl0 25 [cell (rslC ⟨0, 6, 0, n, c⟩), xi .i64 h] (caSt R c) K := by
  rw [rWhere_vc]
  intro z0 hz0
  constructor
  · refine ⟨0, ?_⟩
    repeat' (first | exact rfl | with_reducible apply And.intro)
    exact ⟨Int.le_refl _, by omega, rfl⟩
  rintro i ⟨i1, i2, i3⟩
  refine ⟨fun hi => ⟨by omega, fun j hj => ⟨by omega, ?_⟩⟩, fun hi => ?_⟩
  · have hjl : j < R.length := by omega
    rw [show i.toNat = j by omega, rW_at hjl] at i3
    rintro _ rfl _ rfl _ rfl _ rfl _ rfl
    have hN : ∀ z9 : Int, z9 = IntKind.wrap IntKind.i64 (i + 1) → U.rW R h = U.rW (R.drop (j + 1)) h → U.rWI R n h z9 ∧ Int.toNat (n : Int) - Int.toNat z9 < Int.toNat (n : Int) - Int.toNat i := fun z9 h9 he => by
      have e9 := iw h9 (by omega)
      exact ⟨⟨by omega, by omega, by rw [show z9.toNat = j + 1 by omega]; exact he⟩, by omega⟩
    refine ⟨fun hb => ⟨fun g => ?_, fun g z9 h9 => ?_⟩, fun hb z9 h9 => ?_⟩
    · refine h1 _ _ ⟨i3.trans ?_⟩
      rw [if_pos ⟨hb, g⟩]
    · refine ⟨z9, ?_⟩
      rw [if_neg (fun h => g h.2)] at i3
      repeat' (first | exact rfl | exact (hN z9 h9 i3).1 | exact (hN z9 h9 i3).2 | with_reducible apply And.intro)
    · refine ⟨z9, ?_⟩
      have hb' : ¬ U.fb R j 5 = true := by
        intro h; have h2 : U.fb R j 5 = false := hb; rw [h] at h2; cases h2
      rw [if_neg (fun h => hb' h.1)] at i3
      repeat' (first | exact rfl | exact (hN z9 h9 i3).1 | exact (hN z9 h9 i3).2 | with_reducible apply And.intro)
  · refine h0 ⟨?_⟩
    rw [i3, List.drop_eq_nil_of_le (by omega)]; rfl
/-- Rows that are cables. -/
structure U.Ty (R : Rws) : Prop where
  out : ∀ r ∈ R, ∃ (a b c d h : Int) (m : Bool), r = [.i a, .i b, .i c, .i d, .i h, .b m]
theorem ty_at {R : Rws} (h : U.Ty R) {j : Nat} (hj : j < R.length) : R.getD j [] = [.i (U.fi R j 0), .i (U.fi R j 1), .i (U.fi R j 2), .i (U.fi R j 3), .i (U.fi R j 4), .b (U.fb R j 5)] := by
  have hm : R.getD j [] ∈ R := by rw [List.getD_eq_getElem?_getD, List.getElem?_eq_getElem hj]; exact List.getElem_mem hj
  obtain ⟨a, b, c, d, q, m, e⟩ := h.out _ hm
  simp only [fi_r, fb_r, e]
  rfl
theorem rP_at {R : Rws} {j : Nat} (h : j < R.length) (a b : Int) : U.rP (R.take (j + 1)) a b = if U.rPr a b (R.getD j []) = true then U.rP (R.take j) a b ++ [R.getD j []] else U.rP (R.take j) a b := by
  have e : R.take (j + 1) = R.take j ++ [R.getD j []] := by
    rw [List.take_add_one, List.getElem?_eq_getElem h, List.getD_eq_getElem?_getD, List.getElem?_eq_getElem h]; rfl
  unfold U.rP
  rw [e, List.filter_append]
  by_cases hp : U.rPr a b (R.getD j []) = true
  · rw [if_pos hp, List.filter_cons_of_pos hp]; rfl
  · rw [if_neg hp, List.filter_cons_of_neg hp]; simp
theorem rPull_run (K : AV → St → Prop) (R : Rws) (n c : Nat) (x y : Int) (hn : n = R.length) (hs : n ≤ 100000) (hT : U.Ty R) (hK : ∀ (O : Rws) (q c' : Nat), O = U.rP R x y → q = O.length → q ≤ c' → q ≤ n → K (cell (rslC ⟨1, 6, 0, q, c'⟩)) ⟨[], [], 0, [some (caB R c), some (caB O c')], 0⟩) :
    runR invR19 tbl0 21 [cell (rslC ⟨0, 6, 0, n, c⟩), plA x y] (caSt R c) K := by
  rw [rPull_vc]
  intro z0 h0
  constructor
  · refine ⟨(0, ([], (0, 0))), ?_⟩
    repeat' (first | exact rfl | with_reducible apply And.intro)
    exact ⟨Int.le_refl _, by dsimp only; omega, rfl, rfl, by decide, by decide⟩
  rintro ⟨i, O, q, c'⟩ ⟨i1, i2, i3, i4, i5, i6⟩
  dsimp only at i1 i2 i3 i4 i5 i6 ⊢
  refine ⟨fun hi => ⟨by omega, fun j hj => ⟨by omega, ?_⟩⟩, fun hi => ?_⟩
  · have hjl : j < R.length := by omega
    have hrow := ty_at hT hjl
    rw [show i.toNat = j by omega] at i3
    have hPr : U.rPr x y (R.getD j []) = (!(decide (U.fi R j 0 = x ∧ U.fi R j 1 = y)) && (U.fb R j 5 || !(decide (U.fi R j 2 = x ∧ U.fi R j 3 = y)))) := by
      unfold U.rPr
      simp only [fi_r, fb_r]
    have hY : ∀ (z9 : Int) (O' : Rws) (q' c1 : Nat), z9 = IntKind.wrap IntKind.i64 (i + 1) → O' = List.take q (List.drop 0 O) ++ [R.getD j []] → q' = q + 1 → q' ≤ c1 → U.rPr x y (R.getD j []) = true → U.rPI R n x y z9 O' q' c1 ∧ Int.toNat (n : Int) - Int.toNat z9 < Int.toNat (n : Int) - Int.toNat i := fun z9 O' q' c1 h9 hO hq hc hp => by
      have e9 := iw h9 (by omega)
      rw [List.drop_zero, i4, List.take_length] at hO
      refine ⟨⟨by omega, by omega, by rw [show z9.toNat = j + 1 by omega, rP_at hjl, if_pos hp, ← i3]; exact hO, ?_, by omega, hc⟩, by omega⟩
      rw [hO, List.length_append, hq, i4]; rfl
    have hN : ∀ z9 : Int, z9 = IntKind.wrap IntKind.i64 (i + 1) → ¬ U.rPr x y (R.getD j []) = true → U.rPI R n x y z9 O q c' ∧ Int.toNat (n : Int) - Int.toNat z9 < Int.toNat (n : Int) - Int.toNat i := fun z9 h9 hp => by
      have e9 := iw h9 (by omega)
      exact ⟨⟨by omega, by omega, by rw [show z9.toNat = j + 1 by omega, rP_at hjl, if_neg hp]; exact i3, i4, by omega, i6⟩, by omega⟩
    rw [hPr] at hY hN
    rw [hrow] at hY
    clear hPr hrow
    rintro _ rfl _ rfl _ rfl _ rfl _ rfl
    generalize hb5 : U.fb R j 5 = b5 at hY hN
    refine ⟨fun hb => ⟨fun g => ⟨⟨by omega, by omega⟩, trivial, by omega, by decide, fun L9 n10 c11 e9 e10 e11 z12 h12 => ?_⟩, fun g z14 h14 => ?_⟩, fun hb => ⟨fun g => ⟨fun g2 => ⟨⟨by omega, by omega⟩, trivial, by omega, by decide, fun L9 n10 c11 e9 e10 e11 z12 h12 => ?_⟩, fun g2 z14 h14 => ?_⟩, fun g => ?_⟩⟩
    · obtain rfl : b5 = true := hb
      have := hY z12 L9 n10 c11 h12 (by rw [e9]; rfl) e10 e11 (by simp only [Bool.true_or, Bool.and_true, Bool.not_eq_true', decide_eq_false_iff_not]; exact fun h => g ⟨h.1, h.2, trivial⟩)
      refine ⟨(z12, (L9, (n10, c11))), ?_⟩
      repeat' (first | exact rfl | exact this.1 | exact this.2 | with_reducible apply And.intro)
    · have := hN z14 h14 (by
        have g := Classical.not_not.1 g
        rw [decide_eq_true (show U.fi R j 0 = x ∧ U.fi R j 1 = y from ⟨g.1, g.2.1⟩)]; simp)
      refine ⟨(z14, (O, (q, c'))), ?_⟩
      repeat' (first | exact rfl | exact this.1 | exact this.2 | with_reducible apply And.intro)
    · obtain rfl : b5 = false := hb
      have := hY z12 L9 n10 c11 h12 (by rw [e9]; rfl) e10 e11 (by
        simp only [Bool.false_or, Bool.and_eq_true, Bool.not_eq_true', decide_eq_false_iff_not]; exact ⟨fun h => g ⟨h.1, h.2, trivial⟩, fun h => g2 ⟨h.1, h.2, trivial⟩⟩)
      refine ⟨(z12, (L9, (n10, c11))), ?_⟩
      repeat' (first | exact rfl | exact this.1 | exact this.2 | with_reducible apply And.intro)
    · obtain rfl : b5 = false := hb
      have := hN z14 h14 (by
        have g2 := Classical.not_not.1 g2
        rw [decide_eq_true (show U.fi R j 2 = x ∧ U.fi R j 3 = y from ⟨g2.1, g2.2.1⟩)]; simp)
      refine ⟨(z14, (O, (q, c'))), ?_⟩
      repeat' (first | exact rfl | exact this.1 | exact this.2 | with_reducible apply And.intro)
    · have hg := Classical.not_not.1 g
      have hno : ¬ (!(decide (U.fi R j 0 = x ∧ U.fi R j 1 = y)) && (b5 || !(decide (U.fi R j 2 = x ∧ U.fi R j 3 = y)))) = true := by
        rw [decide_eq_true (show U.fi R j 0 = x ∧ U.fi R j 1 = y from ⟨hg.1, hg.2.1⟩)]; simp
      repeat' (first | (with_reducible apply And.intro) | intro z hz)
      all_goals
        first
          | (refine ⟨(z, (O, (q, c'))), ?_⟩
             repeat' (first | exact rfl | exact (hN z hz hno).1 | exact (hN z hz hno).2 | with_reducible apply And.intro))
          | trace_state
  · refine hK O q c' ?_ i4 i6 (by omega)
    rw [i3, List.take_of_length_le (by omega)]
end Go.Proofs.Ytmahbhoblhhamaa
end

section
namespace Go.Proofs.Ytmahbhoblhhamaa
open Go Reck Ost
set_option linter.unusedVariables false
set_option maxRecDepth 100000
/-- The state of cables. -/
def caX (x : AV) (σ : St) : Option (Nat × Nat × Rws) := match rslX x, σ with
  | some ⟨0, 6, 0, n, c⟩, ⟨[], [], 0, [some ⟨77, .o (.rows ks R), [], c0, false⟩], 0⟩ => if sameK ks caK then some (n, c0, R) else none
  | _, _ => none
def caC (x : AV) : Nat := match rslX x with
  | some s => s.c
  | none => 0
theorem caX_eq {x : AV} {σ : St} {n c : Nat} {R : Rws} (h : caX x σ = some (n, c, R)) (hc : caC x = c) : x = cell (rslC ⟨0, 6, 0, n, c⟩) ∧ σ = caSt R c := by
  unfold caX at h
  split at h
  · rename_i s ks R' c0 hs
    split at h
    · rename_i hks
      simp only [Option.some.injEq, Prod.mk.injEq] at h
      obtain ⟨rfl, rfl, rfl⟩ := h
      simp only [caC, hs] at hc
      subst hc
      rw [rslX_eq hs, sameK_eq hks]
      exact ⟨rfl, rfl⟩
    · cases h
  · cases h
def pROther : Pat := fun args σ => match args with
  | [l, p] => match caX l σ, aPl p with
    | some (n, c, R), some (x, y) => some fun K => (caC l = c ∧ n = R.length ∧ n ≤ 100000) ∧ ∀ k u v h : Int, U.isV (U.rO R x y) k u v h → K (.inl (.inr (csC k u v h))) (caSt R c)
    | _, _ => none
  | _ => none
theorem pROther_ok : PatOk 20 pROther := by
  intro tm σ C h K hK w0 e w hk vs hvs
  unfold pROther at h
  split at h
  · split at h
    · rename_i n c R x y hx hp
      simp only [Option.some.injEq] at h; subst h
      obtain ⟨⟨h1, h2, h3⟩, h4⟩ := hK
      obtain ⟨rfl, rfl⟩ := caX_eq hx h1
      obtain ⟨v, u, rfl, q1, q2⟩ := twos hvs
      exact knownC noOv names (conOk_ofR tbl0_ok) (rOther_run K R n _ x y h2 (by omega) h4) w0 e w hk _ (map2 q1 (aPl_av hp q2))
    · cases h
  · cases h
def pRWhere : Pat := fun args σ => match args with
  | [l, h] => match caX l σ, aInt h with
    | some (n, c, R), some h => some fun K => (caC l = c ∧ n = R.length ∧ n ≤ 100000) ∧ (∀ a b : Int, U.isW R h a b → K (.inr [.inr [xintC .i64 a, xintC .i64 b], .inl (.inl (.bool true))]) (caSt R c)) ∧ (U.noW R h → K (.inr [.inr [xintC .i64 0, xintC .i64 0], .inl (.inl (.bool false))]) (caSt R c))
    | _, _ => none
  | _ => none
theorem pRWhere_ok : PatOk 25 pRWhere := by
  intro tm σ C h K hK w0 e w hk vs hvs
  unfold pRWhere at h
  split at h
  · split at h
    · rename_i n c R hh hx hp
      simp only [Option.some.injEq] at h; subst h
      obtain ⟨⟨h1, h2, h3⟩, h4, h5⟩ := hK
      obtain ⟨rfl, rfl⟩ := caX_eq hx h1
      obtain ⟨v, u, rfl, q1, q2⟩ := twos hvs
      exact knownC noOv names (conOk_ofR tbl0_ok) (rWhere_run K R n _ hh h2 (by omega) h4 h5) w0 e w hk _ (map2 q1 (as_aInt hp q2))
    · cases h
  · cases h
def pRPull : Pat := fun args σ => match args with
  | [l, p] => match caX l σ, aPl p with
    | some (n, c, R), some (x, y) => some fun K => (caC l = c ∧ n = R.length ∧ n ≤ 100000 ∧ U.Ty R) ∧ ∀ (O : Rws) (q c' : Nat), O = U.rP R x y → q = O.length → q ≤ c' → q ≤ n → K (cell (rslC ⟨1, 6, 0, q, c'⟩)) ⟨[], [], 0, [some (caB R c), some (caB O c')], 0⟩
    | _, _ => none
  | _ => none
theorem pRPull_ok : PatOk 21 pRPull := by
  intro tm σ C h K hK w0 e w hk vs hvs
  unfold pRPull at h
  split at h
  · split at h
    · rename_i n c R x y hx hp
      simp only [Option.some.injEq] at h; subst h
      obtain ⟨⟨h1, h2, h3, h4⟩, h5⟩ := hK
      obtain ⟨rfl, rfl⟩ := caX_eq hx h1
      obtain ⟨v, u, rfl, q1, q2⟩ := twos hvs
      exact knownC noOv names (conOk_ofR tbl0_ok) (rPull_run K R n _ x y h2 h3 h4 h5) w0 e w hk _ (map2 q1 (aPl_av hp q2))
    · cases h
  · cases h
structure U.lsP (a b a' b' : Int) : Prop where
  out : a < a' ∨ (a = a' ∧ b < b')
def pRLess : Pat := fun args σ => match args, σ with
  | [p, q], ⟨[], [], 0, [], 0⟩ => match aPl p, aPl q with
    | some (a, b), some (a', b') => some fun K => (U.lsP a b a' b' → K (lit (.bool true)) emptySt) ∧ (¬ U.lsP a b a' b' → K (lit (.bool false)) emptySt)
    | _, _ => none
  | _, _ => none
theorem pRLess_ok : PatOk 35 pRLess := by
  intro tm σ C h K hK w0 e w hk vs hvs
  unfold pRLess at h
  split at h
  · split at h
    · rename_i a b a' b' hp hq
      simp only [Option.some.injEq] at h; subst h
      obtain ⟨v, u, rfl, q1, q2⟩ := twos hvs
      refine knownC noOv names (conOk_ofR tbl0_ok) (show runR inv0 tbl0 35 [plA a b, plA a' b'] emptySt K from ?_) w0 e w hk _ (map2 (aPl_av hp q1) (aPl_av hq q2))
      rw [rLess_vc]
      exact ⟨fun g => hK.1 ⟨.inl g⟩, fun g => ⟨fun g1 => ⟨fun g2 => hK.1 ⟨.inr ⟨g1, g2⟩⟩, fun g2 => hK.2 fun h => by have := h.out; omega⟩, fun g1 => hK.2 fun h => by have := h.out; omega⟩⟩
    · cases h
  · cases h
def tR1 : Tbl := tblOr (tblIf 20 pROther) (tblOr (tblIf 25 pRWhere) (tblOr (tblIf 21 pRPull) (tblOr (tblIf 35 pRLess) tPl)))
theorem tR1_ok : TblOk Try.prog tR1 := tblOr_ok (tblIf_ok pROther_ok) (tblOr_ok (tblIf_ok pRWhere_ok) (tblOr_ok (tblIf_ok pRPull_ok) (tblOr_ok (tblIf_ok pRLess_ok) tPl_ok)))
/-- All between switches, of the first ports. -/
def U.rLf (R : Rws) (m : Nat) : Option (List CV) := if (U.rO R (U.sw m) (U.po m)).v0 = 1 ∧ (U.sw m < (U.rO R (U.sw m) (U.po m)).v1 ∨ (U.sw m = (U.rO R (U.sw m) (U.po m)).v1 ∧ U.po m < (U.rO R (U.sw m) (U.po m)).v2)) then some [.i (U.sw m), .i (U.po m), .i (U.rO R (U.sw m) (U.po m)).v1, .i (U.rO R (U.sw m) (U.po m)).v2] else none
def U.rL (R : Rws) (k : Nat) : Rws := (List.range k).filterMap (U.rLf R)
structure U.rLI (R : Rws) (s p : Int) (O : Rws) (q c : Nat) : Prop where
  out : (1 ≤ s ∧ s ≤ 9) ∧ (1 ≤ p ∧ p ≤ 9) ∧ O = U.rL R (8 * (s - 1) + (p - 1)).toNat ∧ q = O.length ∧ q ≤ c ∧ (q : Int) ≤ 8 * (s - 1) + (p - 1)
def liB (O : Rws) (c : Nat) : ABlk := rowB 64 [.n .i64, .n .i64, .n .i64, .n .i64] O c false
def rl1Inv (tm : List AV) (σ : St) : Inv where
  X := Int × (Rws × (Nat × Nat))
  tags := [0]
  tag _ _ := 0
  J := [1, 2, 5, 6, 7, 8, 9, 10, 11, 12, 13, 14, 15, 16, 17, 18, 19, 20, 21, 22, 23, 24, 25, 26, 27, 28, 29, 30, 31, 32, 33, 34, 35, 36, 37, 38]
  val _ x := [(4, xi .i64 x.1), (3, cell (rslC ⟨σ.arrs.length, 4, 0, x.2.2.1, x.2.2.2⟩))]
  st _ x σ' := ⟨σ'.heap, σ'.ints, σ'.opqs, σ'.arrs.dropLast ++ [some (liB x.2.1 x.2.2.2)], σ'.junks⟩
  I _ x := U.rLI (rowsAt σ (slotR tm 0).a) x.1 1 x.2.1 x.2.2.1 x.2.2.2
  m _ x := 9 - x.1.toNat
  ren tm' σ' := ([], [(slotR tm' 3).a])
def rl2Inv (tm : List AV) (σ : St) : Inv where
  X := Int × (Rws × (Nat × Nat))
  tags := [0]
  tag _ _ := 0
  J := [1, 2, 6, 7, 8, 9, 10, 11, 12, 13, 14, 15, 16, 17, 18, 19, 20, 21, 22, 23, 24, 25, 26, 27, 28, 29, 30, 31, 32, 33, 34, 35, 36, 37, 38]
  val _ x := [(5, xi .i64 x.1), (3, cell (rslC ⟨σ.arrs.length, 4, 0, x.2.2.1, x.2.2.2⟩))]
  st _ x σ' := ⟨σ'.heap, σ'.ints, σ'.opqs, σ'.arrs.dropLast ++ [some (liB x.2.1 x.2.2.2)], σ'.junks⟩
  I _ x := U.rLI (rowsAt σ (slotR tm 0).a) (slotI tm 4) x.1 x.2.1 x.2.2.1 x.2.2.2
  m _ x := 9 - x.1.toNat
  ren tm' σ' := ([], [(slotR tm' 3).a])
def invRL : InvF := fun c tm σ => match tm.length, firstReg c with
  | 39, some 3 => some (rl1Inv tm σ)
  | 39, some 6 => some (rl2Inv tm σ)
  | _, _ => none
--PLAIN
theorem rJoin_vc (K : AV → St → Prop) (R : Rws) (n c : Nat) (a b a' b' : Int) : (runR inv0 tR1 18 [cell (rslC ⟨0, 6, 0, n, c⟩), plA a b, plA a' b'] (caSt R c) K) = ((U.Gd a b → (U.Gd a' b' → (a = a' ∧ b = b' ∧ True → K (Sum.inr [Sum.inl (Sum.inr (Sum.inr (Sum.inr (Sum.inr (Sum.inr (Sum.inr (Sum.inr (Sum.inr (Sum.inr (Sum.inr (Sum.inr (Sum.inl { a := (0 : Nat), u := (6 : Nat), o := (0 : Nat), n := n, c := c })))))))))))), Sum.inl (Sum.inr (Sum.inr (Sum.inr (Sum.inr (Sum.inr (Sum.inr (Sum.inl (IntKind.i64, (1 : Int)))))))))]) { heap := [], ints := [], opqs := (0 : Nat), arrs := [some { elem := (77 : Nat), k := AK.o (Obj.rows [CK.n IntKind.i64, CK.n IntKind.i64, CK.n IntKind.i64, CK.n IntKind.i64, CK.n IntKind.i64, CK.b] R), l := [], cap := c, ro := false }], junks := (0 : Nat) }) ∧ (¬(a = a' ∧ b = b' ∧ True) → (c = c ∧ n = List.length R ∧ n ≤ (100000 : Nat)) ∧ ∀ (k0 u1 v2 h3 : Int), U.isV (U.rO R a b) k0 u1 v2 h3 → (¬k0 = (0 : Int) → K (Sum.inr [Sum.inl (Sum.inr (Sum.inr (Sum.inr (Sum.inr (Sum.inr (Sum.inr (Sum.inr (Sum.inr (Sum.inr (Sum.inr (Sum.inr (Sum.inl { a := (0 : Nat), u := (6 : Nat), o := (0 : Nat), n := n, c := c })))))))))))), Sum.inl (Sum.inr (Sum.inr (Sum.inr (Sum.inr (Sum.inr (Sum.inr (Sum.inl (IntKind.i64, (3 : Int)))))))))]) { heap := [], ints := [], opqs := (0 : Nat), arrs := [some { elem := (77 : Nat), k := AK.o (Obj.rows [CK.n IntKind.i64, CK.n IntKind.i64, CK.n IntKind.i64, CK.n IntKind.i64, CK.n IntKind.i64, CK.b] R), l := [], cap := c, ro := false }], junks := (0 : Nat) }) ∧ (¬¬k0 = (0 : Int) → (c = c ∧ n = List.length R ∧ n ≤ (100000 : Nat)) ∧ ∀ (k4 u5 v6 h7 : Int), U.isV (U.rO R a' b') k4 u5 v6 h7 → (¬k4 = (0 : Int) → K (Sum.inr [Sum.inl (Sum.inr (Sum.inr (Sum.inr (Sum.inr (Sum.inr (Sum.inr (Sum.inr (Sum.inr (Sum.inr (Sum.inr (Sum.inr (Sum.inl { a := (0 : Nat), u := (6 : Nat), o := (0 : Nat), n := n, c := c })))))))))))), Sum.inl (Sum.inr (Sum.inr (Sum.inr (Sum.inr (Sum.inr (Sum.inr (Sum.inl (IntKind.i64, (3 : Int)))))))))]) { heap := [], ints := [], opqs := (0 : Nat), arrs := [some { elem := (77 : Nat), k := AK.o (Obj.rows [CK.n IntKind.i64, CK.n IntKind.i64, CK.n IntKind.i64, CK.n IntKind.i64, CK.n IntKind.i64, CK.b] R), l := [], cap := c, ro := false }], junks := (0 : Nat) }) ∧ (¬¬k4 = (0 : Int) → (a' = a' ∧ b' = b' ∧ a = a ∧ b = b ∧ (True ∧ Nat.le ((0 : Nat) + n) (List.length R) ∧ (0 : Nat) ≤ (16777216 : Nat) ∧ n ≤ (16777216 : Nat) ∧ ∀ (L'8 : List (List CV)) (n'9 c'10 : Nat), L'8 = U.nilL ++ List.take n (List.drop ((0 : Nat)) R) → n'9 = (0 : Nat) + n → n'9 ≤ c'10 → a' = a' ∧ b' = b' ∧ a = a ∧ b = b ∧ a' = a' ∧ b' = b' ∧ a = a ∧ b = b ∧ ((0 : Nat) + n'9 ≤ List.length L'8 ∧ (0 : Nat) + c'10 ≤ c'10) ∧ True ∧ n'9 ≤ (16777216 : Nat) ∧ (1 : Nat) ≤ (16777216 : Nat) ∧ ∀ (L'11 : List (List CV)) (n'12 c'13 : Nat), L'11 = List.take n'9 (List.drop ((0 : Nat)) L'8) ++ [CV.i a, CV.i b, CV.i a', CV.i b', CV.i (0 : Int), CV.b false] :: U.nilL → n'12 = n'9 + (1 : Nat) → n'12 ≤ c'13 → a' = a' ∧ b' = b' ∧ a = a ∧ b = b ∧ K (Sum.inr [Sum.inl (Sum.inr (Sum.inr (Sum.inr (Sum.inr (Sum.inr (Sum.inr (Sum.inr (Sum.inr (Sum.inr (Sum.inr (Sum.inr (Sum.inl { a := (1 : Nat), u := (6 : Nat), o := (0 : Nat), n := n'12, c := c'13 })))))))))))), Sum.inl (Sum.inr (Sum.inr (Sum.inr (Sum.inr (Sum.inr (Sum.inr (Sum.inl (IntKind.i64, (0 : Int)))))))))]) { heap := [], ints := [], opqs := (0 : Nat), arrs := [some { elem := (77 : Nat), k := AK.o (Obj.rows [CK.n IntKind.i64, CK.n IntKind.i64, CK.n IntKind.i64, CK.n IntKind.i64, CK.n IntKind.i64, CK.b] R), l := [], cap := c, ro := false }, some { elem := (77 : Nat), k := AK.o (Obj.rows [CK.n IntKind.i64, CK.n IntKind.i64, CK.n IntKind.i64, CK.n IntKind.i64, CK.n IntKind.i64, CK.b] L'11), l := [], cap := c'13, ro := false }], junks := (0 : Nat) }) ∧ a' = a' ∧ b' = b' ∧ a = a ∧ b = b ∧ True ∧ Nat.le ((0 : Nat) + n) (List.length R) ∧ (0 : Nat) ≤ (16777216 : Nat) ∧ n ≤ (16777216 : Nat) ∧ ∀ (L'14 : List (List CV)) (n'15 c'16 : Nat), L'14 = U.nilL ++ List.take n (List.drop ((0 : Nat)) R) → n'15 = (0 : Nat) + n → n'15 ≤ c'16 → a' = a' ∧ b' = b' ∧ a = a ∧ b = b ∧ ((0 : Nat) + n'15 ≤ List.length L'14 ∧ (0 : Nat) + c'16 ≤ c'16) ∧ True ∧ n'15 ≤ (16777216 : Nat) ∧ (1 : Nat) ≤ (16777216 : Nat) ∧ ∀ (L'17 : List (List CV)) (n'18 c'19 : Nat), L'17 = List.take n'15 (List.drop ((0 : Nat)) L'14) ++ [CV.i a, CV.i b, CV.i a', CV.i b', CV.i (0 : Int), CV.b false] :: U.nilL → n'18 = n'15 + (1 : Nat) → n'18 ≤ c'19 → a' = a' ∧ b' = b' ∧ a = a ∧ b = b ∧ K (Sum.inr [Sum.inl (Sum.inr (Sum.inr (Sum.inr (Sum.inr (Sum.inr (Sum.inr (Sum.inr (Sum.inr (Sum.inr (Sum.inr (Sum.inr (Sum.inl { a := (1 : Nat), u := (6 : Nat), o := (0 : Nat), n := n'18, c := c'19 })))))))))))), Sum.inl (Sum.inr (Sum.inr (Sum.inr (Sum.inr (Sum.inr (Sum.inr (Sum.inl (IntKind.i64, (0 : Int)))))))))]) { heap := [], ints := [], opqs := (0 : Nat), arrs := [some { elem := (77 : Nat), k := AK.o (Obj.rows [CK.n IntKind.i64, CK.n IntKind.i64, CK.n IntKind.i64, CK.n IntKind.i64, CK.n IntKind.i64, CK.b] R), l := [], cap := c, ro := false }, some { elem := (77 : Nat), k := AK.o (Obj.rows [CK.n IntKind.i64, CK.n IntKind.i64, CK.n IntKind.i64, CK.n IntKind.i64, CK.n IntKind.i64, CK.b] L'17), l := [], cap := c'19, ro := false }], junks := (0 : Nat) }) ∧ a' = a' ∧ b' = b' ∧ a = a ∧ b = b ∧ a' = a' ∧ b' = b' ∧ a = a ∧ b = b ∧ True ∧ Nat.le ((0 : Nat) + n) (List.length R) ∧ (0 : Nat) ≤ (16777216 : Nat) ∧ n ≤ (16777216 : Nat) ∧ ∀ (L'20 : List (List CV)) (n'21 c'22 : Nat), L'20 = U.nilL ++ List.take n (List.drop ((0 : Nat)) R) → n'21 = (0 : Nat) + n → n'21 ≤ c'22 → a' = a' ∧ b' = b' ∧ a = a ∧ b = b ∧ ((0 : Nat) + n'21 ≤ List.length L'20 ∧ (0 : Nat) + c'22 ≤ c'22) ∧ True ∧ n'21 ≤ (16777216 : Nat) ∧ (1 : Nat) ≤ (16777216 : Nat) ∧ ∀ (L'23 : List (List CV)) (n'24 c'25 : Nat), L'23 = List.take n'21 (List.drop ((0 : Nat)) L'20) ++ [CV.i a, CV.i b, CV.i a', CV.i b', CV.i (0 : Int), CV.b false] :: U.nilL → n'24 = n'21 + (1 : Nat) → n'24 ≤ c'25 → a' = a' ∧ b' = b' ∧ a = a ∧ b = b ∧ K (Sum.inr [Sum.inl (Sum.inr (Sum.inr (Sum.inr (Sum.inr (Sum.inr (Sum.inr (Sum.inr (Sum.inr (Sum.inr (Sum.inr (Sum.inr (Sum.inl { a := (1 : Nat), u := (6 : Nat), o := (0 : Nat), n := n'24, c := c'25 })))))))))))), Sum.inl (Sum.inr (Sum.inr (Sum.inr (Sum.inr (Sum.inr (Sum.inr (Sum.inl (IntKind.i64, (0 : Int)))))))))]) { heap := [], ints := [], opqs := (0 : Nat), arrs := [some { elem := (77 : Nat), k := AK.o (Obj.rows [CK.n IntKind.i64, CK.n IntKind.i64, CK.n IntKind.i64, CK.n IntKind.i64, CK.n IntKind.i64, CK.b] R), l := [], cap := c, ro := false }, some { elem := (77 : Nat), k := AK.o (Obj.rows [CK.n IntKind.i64, CK.n IntKind.i64, CK.n IntKind.i64, CK.n IntKind.i64, CK.n IntKind.i64, CK.b] L'23), l := [], cap := c'25, ro := false }], junks := (0 : Nat) })))) ∧ (¬U.Gd a' b' → K (Sum.inr [Sum.inl (Sum.inr (Sum.inr (Sum.inr (Sum.inr (Sum.inr (Sum.inr (Sum.inr (Sum.inr (Sum.inr (Sum.inr (Sum.inr (Sum.inl { a := (0 : Nat), u := (6 : Nat), o := (0 : Nat), n := n, c := c })))))))))))), Sum.inl (Sum.inr (Sum.inr (Sum.inr (Sum.inr (Sum.inr (Sum.inr (Sum.inl (IntKind.i64, (1 : Int)))))))))]) { heap := [], ints := [], opqs := (0 : Nat), arrs := [some { elem := (77 : Nat), k := AK.o (Obj.rows [CK.n IntKind.i64, CK.n IntKind.i64, CK.n IntKind.i64, CK.n IntKind.i64, CK.n IntKind.i64, CK.b] R), l := [], cap := c, ro := false }], junks := (0 : Nat) })) ∧ (¬U.Gd a b → K (Sum.inr [Sum.inl (Sum.inr (Sum.inr (Sum.inr (Sum.inr (Sum.inr (Sum.inr (Sum.inr (Sum.inr (Sum.inr (Sum.inr (Sum.inr (Sum.inl { a := (0 : Nat), u := (6 : Nat), o := (0 : Nat), n := n, c := c })))))))))))), Sum.inl (Sum.inr (Sum.inr (Sum.inr (Sum.inr (Sum.inr (Sum.inr (Sum.inl (IntKind.i64, (1 : Int)))))))))]) { heap := [], ints := [], opqs := (0 : Nat), arrs := [some { elem := (77 : Nat), k := AK.o (Obj.rows [CK.n IntKind.i64, CK.n IntKind.i64, CK.n IntKind.i64, CK.n IntKind.i64, CK.n IntKind.i64, CK.b] R), l := [], cap := c, ro := false }], junks := (0 : Nat) })) := by kernel_rfl
theorem rAttach_vc (K : AV → St → Prop) (R : Rws) (n c : Nat) (h a b : Int) : (runR inv0 tR1 19 [cell (rslC ⟨0, 6, 0, n, c⟩), xi .i64 h, plA a b] (caSt R c) K) = ((h < (0 : Int) → K (Sum.inr [Sum.inl (Sum.inr (Sum.inr (Sum.inr (Sum.inr (Sum.inr (Sum.inr (Sum.inr (Sum.inr (Sum.inr (Sum.inr (Sum.inr (Sum.inl { a := (0 : Nat), u := (6 : Nat), o := (0 : Nat), n := n, c := c })))))))))))), Sum.inl (Sum.inr (Sum.inr (Sum.inr (Sum.inr (Sum.inr (Sum.inr (Sum.inl (IntKind.i64, (1 : Int)))))))))]) { heap := [], ints := [], opqs := (0 : Nat), arrs := [some { elem := (77 : Nat), k := AK.o (Obj.rows [CK.n IntKind.i64, CK.n IntKind.i64, CK.n IntKind.i64, CK.n IntKind.i64, CK.n IntKind.i64, CK.b] R), l := [], cap := c, ro := false }], junks := (0 : Nat) }) ∧ (¬h < (0 : Int) → ((15 : Int) < h → K (Sum.inr [Sum.inl (Sum.inr (Sum.inr (Sum.inr (Sum.inr (Sum.inr (Sum.inr (Sum.inr (Sum.inr (Sum.inr (Sum.inr (Sum.inr (Sum.inl { a := (0 : Nat), u := (6 : Nat), o := (0 : Nat), n := n, c := c })))))))))))), Sum.inl (Sum.inr (Sum.inr (Sum.inr (Sum.inr (Sum.inr (Sum.inr (Sum.inl (IntKind.i64, (1 : Int)))))))))]) { heap := [], ints := [], opqs := (0 : Nat), arrs := [some { elem := (77 : Nat), k := AK.o (Obj.rows [CK.n IntKind.i64, CK.n IntKind.i64, CK.n IntKind.i64, CK.n IntKind.i64, CK.n IntKind.i64, CK.b] R), l := [], cap := c, ro := false }], junks := (0 : Nat) }) ∧ (¬(15 : Int) < h → (U.Gd a b → (c = c ∧ n = List.length R ∧ n ≤ (100000 : Nat)) ∧ (∀ (a0 b1 : Int), U.isW R h a0 b1 → K (Sum.inr [Sum.inl (Sum.inr (Sum.inr (Sum.inr (Sum.inr (Sum.inr (Sum.inr (Sum.inr (Sum.inr (Sum.inr (Sum.inr (Sum.inr (Sum.inl { a := (0 : Nat), u := (6 : Nat), o := (0 : Nat), n := n, c := c })))))))))))), Sum.inl (Sum.inr (Sum.inr (Sum.inr (Sum.inr (Sum.inr (Sum.inr (Sum.inl (IntKind.i64, (3 : Int)))))))))]) { heap := [], ints := [], opqs := (0 : Nat), arrs := [some { elem := (77 : Nat), k := AK.o (Obj.rows [CK.n IntKind.i64, CK.n IntKind.i64, CK.n IntKind.i64, CK.n IntKind.i64, CK.n IntKind.i64, CK.b] R), l := [], cap := c, ro := false }], junks := (0 : Nat) }) ∧ (U.noW R h → (c = c ∧ n = List.length R ∧ n ≤ (100000 : Nat)) ∧ ∀ (k2 u3 v4 h5 : Int), U.isV (U.rO R a b) k2 u3 v4 h5 → (¬k2 = (0 : Int) → K (Sum.inr [Sum.inl (Sum.inr (Sum.inr (Sum.inr (Sum.inr (Sum.inr (Sum.inr (Sum.inr (Sum.inr (Sum.inr (Sum.inr (Sum.inr (Sum.inl { a := (0 : Nat), u := (6 : Nat), o := (0 : Nat), n := n, c := c })))))))))))), Sum.inl (Sum.inr (Sum.inr (Sum.inr (Sum.inr (Sum.inr (Sum.inr (Sum.inl (IntKind.i64, (3 : Int)))))))))]) { heap := [], ints := [], opqs := (0 : Nat), arrs := [some { elem := (77 : Nat), k := AK.o (Obj.rows [CK.n IntKind.i64, CK.n IntKind.i64, CK.n IntKind.i64, CK.n IntKind.i64, CK.n IntKind.i64, CK.b] R), l := [], cap := c, ro := false }], junks := (0 : Nat) }) ∧ (¬¬k2 = (0 : Int) → (a = a ∧ b = b ∧ (True ∧ Nat.le ((0 : Nat) + n) (List.length R) ∧ (0 : Nat) ≤ (16777216 : Nat) ∧ n ≤ (16777216 : Nat) ∧ ∀ (L'6 : List (List CV)) (n'7 c'8 : Nat), L'6 = U.nilL ++ List.take n (List.drop ((0 : Nat)) R) → n'7 = (0 : Nat) + n → n'7 ≤ c'8 → a = a ∧ b = b ∧ a = a ∧ b = b ∧ ((0 : Nat) + n'7 ≤ List.length L'6 ∧ (0 : Nat) + c'8 ≤ c'8) ∧ True ∧ n'7 ≤ (16777216 : Nat) ∧ (1 : Nat) ≤ (16777216 : Nat) ∧ ∀ (L'9 : List (List CV)) (n'10 c'11 : Nat), L'9 = List.take n'7 (List.drop ((0 : Nat)) L'6) ++ [CV.i a, CV.i b, CV.i (0 : Int), CV.i (0 : Int), CV.i h, CV.b true] :: U.nilL → n'10 = n'7 + (1 : Nat) → n'10 ≤ c'11 → a = a ∧ b = b ∧ K (Sum.inr [Sum.inl (Sum.inr (Sum.inr (Sum.inr (Sum.inr (Sum.inr (Sum.inr (Sum.inr (Sum.inr (Sum.inr (Sum.inr (Sum.inr (Sum.inl { a := (1 : Nat), u := (6 : Nat), o := (0 : Nat), n := n'10, c := c'11 })))))))))))), Sum.inl (Sum.inr (Sum.inr (Sum.inr (Sum.inr (Sum.inr (Sum.inr (Sum.inl (IntKind.i64, (0 : Int)))))))))]) { heap := [], ints := [], opqs := (0 : Nat), arrs := [some { elem := (77 : Nat), k := AK.o (Obj.rows [CK.n IntKind.i64, CK.n IntKind.i64, CK.n IntKind.i64, CK.n IntKind.i64, CK.n IntKind.i64, CK.b] R), l := [], cap := c, ro := false }, some { elem := (77 : Nat), k := AK.o (Obj.rows [CK.n IntKind.i64, CK.n IntKind.i64, CK.n IntKind.i64, CK.n IntKind.i64, CK.n IntKind.i64, CK.b] L'9), l := [], cap := c'11, ro := false }], junks := (0 : Nat) }) ∧ a = a ∧ b = b ∧ True ∧ Nat.le ((0 : Nat) + n) (List.length R) ∧ (0 : Nat) ≤ (16777216 : Nat) ∧ n ≤ (16777216 : Nat) ∧ ∀ (L'12 : List (List CV)) (n'13 c'14 : Nat), L'12 = U.nilL ++ List.take n (List.drop ((0 : Nat)) R) → n'13 = (0 : Nat) + n → n'13 ≤ c'14 → a = a ∧ b = b ∧ ((0 : Nat) + n'13 ≤ List.length L'12 ∧ (0 : Nat) + c'14 ≤ c'14) ∧ True ∧ n'13 ≤ (16777216 : Nat) ∧ (1 : Nat) ≤ (16777216 : Nat) ∧ ∀ (L'15 : List (List CV)) (n'16 c'17 : Nat), L'15 = List.take n'13 (List.drop ((0 : Nat)) L'12) ++ [CV.i a, CV.i b, CV.i (0 : Int), CV.i (0 : Int), CV.i h, CV.b true] :: U.nilL → n'16 = n'13 + (1 : Nat) → n'16 ≤ c'17 → a = a ∧ b = b ∧ K (Sum.inr [Sum.inl (Sum.inr (Sum.inr (Sum.inr (Sum.inr (Sum.inr (Sum.inr (Sum.inr (Sum.inr (Sum.inr (Sum.inr (Sum.inr (Sum.inl { a := (1 : Nat), u := (6 : Nat), o := (0 : Nat), n := n'16, c := c'17 })))))))))))), Sum.inl (Sum.inr (Sum.inr (Sum.inr (Sum.inr (Sum.inr (Sum.inr (Sum.inl (IntKind.i64, (0 : Int)))))))))]) { heap := [], ints := [], opqs := (0 : Nat), arrs := [some { elem := (77 : Nat), k := AK.o (Obj.rows [CK.n IntKind.i64, CK.n IntKind.i64, CK.n IntKind.i64, CK.n IntKind.i64, CK.n IntKind.i64, CK.b] R), l := [], cap := c, ro := false }, some { elem := (77 : Nat), k := AK.o (Obj.rows [CK.n IntKind.i64, CK.n IntKind.i64, CK.n IntKind.i64, CK.n IntKind.i64, CK.n IntKind.i64, CK.b] L'15), l := [], cap := c'17, ro := false }], junks := (0 : Nat) }) ∧ a = a ∧ b = b ∧ a = a ∧ b = b ∧ True ∧ Nat.le ((0 : Nat) + n) (List.length R) ∧ (0 : Nat) ≤ (16777216 : Nat) ∧ n ≤ (16777216 : Nat) ∧ ∀ (L'18 : List (List CV)) (n'19 c'20 : Nat), L'18 = U.nilL ++ List.take n (List.drop ((0 : Nat)) R) → n'19 = (0 : Nat) + n → n'19 ≤ c'20 → a = a ∧ b = b ∧ ((0 : Nat) + n'19 ≤ List.length L'18 ∧ (0 : Nat) + c'20 ≤ c'20) ∧ True ∧ n'19 ≤ (16777216 : Nat) ∧ (1 : Nat) ≤ (16777216 : Nat) ∧ ∀ (L'21 : List (List CV)) (n'22 c'23 : Nat), L'21 = List.take n'19 (List.drop ((0 : Nat)) L'18) ++ [CV.i a, CV.i b, CV.i (0 : Int), CV.i (0 : Int), CV.i h, CV.b true] :: U.nilL → n'22 = n'19 + (1 : Nat) → n'22 ≤ c'23 → a = a ∧ b = b ∧ K (Sum.inr [Sum.inl (Sum.inr (Sum.inr (Sum.inr (Sum.inr (Sum.inr (Sum.inr (Sum.inr (Sum.inr (Sum.inr (Sum.inr (Sum.inr (Sum.inl { a := (1 : Nat), u := (6 : Nat), o := (0 : Nat), n := n'22, c := c'23 })))))))))))), Sum.inl (Sum.inr (Sum.inr (Sum.inr (Sum.inr (Sum.inr (Sum.inr (Sum.inl (IntKind.i64, (0 : Int)))))))))]) { heap := [], ints := [], opqs := (0 : Nat), arrs := [some { elem := (77 : Nat), k := AK.o (Obj.rows [CK.n IntKind.i64, CK.n IntKind.i64, CK.n IntKind.i64, CK.n IntKind.i64, CK.n IntKind.i64, CK.b] R), l := [], cap := c, ro := false }, some { elem := (77 : Nat), k := AK.o (Obj.rows [CK.n IntKind.i64, CK.n IntKind.i64, CK.n IntKind.i64, CK.n IntKind.i64, CK.n IntKind.i64, CK.b] L'21), l := [], cap := c'23, ro := false }], junks := (0 : Nat) }))) ∧ (¬U.Gd a b → K (Sum.inr [Sum.inl (Sum.inr (Sum.inr (Sum.inr (Sum.inr (Sum.inr (Sum.inr (Sum.inr (Sum.inr (Sum.inr (Sum.inr (Sum.inr (Sum.inl { a := (0 : Nat), u := (6 : Nat), o := (0 : Nat), n := n, c := c })))))))))))), Sum.inl (Sum.inr (Sum.inr (Sum.inr (Sum.inr (Sum.inr (Sum.inr (Sum.inl (IntKind.i64, (1 : Int)))))))))]) { heap := [], ints := [], opqs := (0 : Nat), arrs := [some { elem := (77 : Nat), k := AK.o (Obj.rows [CK.n IntKind.i64, CK.n IntKind.i64, CK.n IntKind.i64, CK.n IntKind.i64, CK.n IntKind.i64, CK.b] R), l := [], cap := c, ro := false }], junks := (0 : Nat) })))) := by kernel_rfl
theorem rLinks_vc (K : AV → St → Prop) (R : Rws) (n c : Nat) : (runR invRL tR1 26 [cell (rslC ⟨0, 6, 0, n, c⟩)] (caSt R c) K) = ((∃ (y0 : Int × Rws × Nat × Nat), ((0 : Nat) = (0 : Nat) ∧ n = n ∧ c = c) ∧ ((0 : Nat) = (0 : Nat) ∧ (0 : Nat) = Prod.fst (Prod.snd (Prod.snd y0)) ∧ (0 : Nat) = Prod.snd (Prod.snd (Prod.snd y0))) ∧ (1 : Int) = Prod.fst y0 ∧ (R = R ∧ c = c ∧ false = false) ∧ (U.nilL = U.nilL ∧ (0 : Nat) = (0 : Nat) ∧ false = false) ∧ (U.nilL = Prod.fst (Prod.snd y0) ∧ (0 : Nat) = Prod.snd (Prod.snd (Prod.snd y0)) ∧ false = false) ∧ U.rLI R (Prod.fst y0) (1 : Int) (Prod.fst (Prod.snd y0)) (Prod.fst (Prod.snd (Prod.snd y0))) (Prod.snd (Prod.snd (Prod.snd y0)))) ∧ ∀ (x1 : Int × Rws × Nat × Nat), U.rLI R (Prod.fst x1) (1 : Int) (Prod.fst (Prod.snd x1)) (Prod.fst (Prod.snd (Prod.snd x1))) (Prod.snd (Prod.snd (Prod.snd x1))) → (Prod.fst x1 ≤ (8 : Int) → (∃ (y2 : Int × Rws × Nat × Nat), ((0 : Nat) = (0 : Nat) ∧ n = n ∧ c = c) ∧ ((0 : Nat) = (0 : Nat) ∧ Prod.fst (Prod.snd (Prod.snd x1)) = Prod.fst (Prod.snd (Prod.snd y2)) ∧ Prod.snd (Prod.snd (Prod.snd x1)) = Prod.snd (Prod.snd (Prod.snd y2))) ∧ Prod.fst x1 = Prod.fst x1 ∧ (1 : Int) = Prod.fst y2 ∧ (R = R ∧ c = c ∧ false = false) ∧ (U.nilL = U.nilL ∧ (0 : Nat) = (0 : Nat) ∧ false = false) ∧ (Prod.fst (Prod.snd x1) = Prod.fst (Prod.snd y2) ∧ Prod.snd (Prod.snd (Prod.snd x1)) = Prod.snd (Prod.snd (Prod.snd y2)) ∧ false = false) ∧ U.rLI R (Prod.fst x1) (Prod.fst y2) (Prod.fst (Prod.snd y2)) (Prod.fst (Prod.snd (Prod.snd y2))) (Prod.snd (Prod.snd (Prod.snd y2)))) ∧ ∀ (x3 : Int × Rws × Nat × Nat), U.rLI R (Prod.fst x1) (Prod.fst x3) (Prod.fst (Prod.snd x3)) (Prod.fst (Prod.snd (Prod.snd x3))) (Prod.snd (Prod.snd (Prod.snd x3))) → (Prod.fst x3 ≤ (8 : Int) → (c = c ∧ n = List.length R ∧ n ≤ (100000 : Nat)) ∧ ∀ (k4 u5 v6 h7 : Int), U.isV (U.rO R (Prod.fst x1) (Prod.fst x3)) k4 u5 v6 h7 → (k4 = (1 : Int) → (U.lsP (Prod.fst x1) (Prod.fst x3) u5 v6 → ((0 : Nat) + Prod.fst (Prod.snd (Prod.snd x3)) ≤ List.length (Prod.fst (Prod.snd x3)) ∧ (0 : Nat) + Prod.snd (Prod.snd (Prod.snd x3)) ≤ Prod.snd (Prod.snd (Prod.snd x3))) ∧ True ∧ Prod.fst (Prod.snd (Prod.snd x3)) ≤ (16777216 : Nat) ∧ (1 : Nat) ≤ (16777216 : Nat) ∧ ∀ (L'8 : List (List CV)) (n'9 c'10 : Nat), L'8 = List.take (Prod.fst (Prod.snd (Prod.snd x3))) (List.drop ((0 : Nat)) (Prod.fst (Prod.snd x3))) ++ [CV.i (Prod.fst x1), CV.i (Prod.fst x3), CV.i u5, CV.i v6] :: U.nilL → n'9 = Prod.fst (Prod.snd (Prod.snd x3)) + (1 : Nat) → n'9 ≤ c'10 → ∀ (z11 : Int), z11 = IntKind.wrap IntKind.i64 (Prod.fst x3 + (1 : Int)) → ∃ (y12 : Int × Rws × Nat × Nat), ((0 : Nat) = (0 : Nat) ∧ n = n ∧ c = c) ∧ ((0 : Nat) = (0 : Nat) ∧ n'9 = Prod.fst (Prod.snd (Prod.snd y12)) ∧ c'10 = Prod.snd (Prod.snd (Prod.snd y12))) ∧ Prod.fst x1 = Prod.fst x1 ∧ z11 = Prod.fst y12 ∧ (R = R ∧ c = c ∧ false = false) ∧ (U.nilL = U.nilL ∧ (0 : Nat) = (0 : Nat) ∧ false = false) ∧ (L'8 = Prod.fst (Prod.snd y12) ∧ c'10 = Prod.snd (Prod.snd (Prod.snd y12)) ∧ false = false) ∧ U.rLI R (Prod.fst x1) (Prod.fst y12) (Prod.fst (Prod.snd y12)) (Prod.fst (Prod.snd (Prod.snd y12))) (Prod.snd (Prod.snd (Prod.snd y12))) ∧ (9 : Nat) - Int.toNat (Prod.fst y12) < (9 : Nat) - Int.toNat (Prod.fst x3)) ∧ (¬U.lsP (Prod.fst x1) (Prod.fst x3) u5 v6 → ∀ (z13 : Int), z13 = IntKind.wrap IntKind.i64 (Prod.fst x3 + (1 : Int)) → ∃ (y14 : Int × Rws × Nat × Nat), ((0 : Nat) = (0 : Nat) ∧ n = n ∧ c = c) ∧ ((0 : Nat) = (0 : Nat) ∧ Prod.fst (Prod.snd (Prod.snd x3)) = Prod.fst (Prod.snd (Prod.snd y14)) ∧ Prod.snd (Prod.snd (Prod.snd x3)) = Prod.snd (Prod.snd (Prod.snd y14))) ∧ Prod.fst x1 = Prod.fst x1 ∧ z13 = Prod.fst y14 ∧ (R = R ∧ c = c ∧ false = false) ∧ (U.nilL = U.nilL ∧ (0 : Nat) = (0 : Nat) ∧ false = false) ∧ (Prod.fst (Prod.snd x3) = Prod.fst (Prod.snd y14) ∧ Prod.snd (Prod.snd (Prod.snd x3)) = Prod.snd (Prod.snd (Prod.snd y14)) ∧ false = false) ∧ U.rLI R (Prod.fst x1) (Prod.fst y14) (Prod.fst (Prod.snd y14)) (Prod.fst (Prod.snd (Prod.snd y14))) (Prod.snd (Prod.snd (Prod.snd y14))) ∧ (9 : Nat) - Int.toNat (Prod.fst y14) < (9 : Nat) - Int.toNat (Prod.fst x3))) ∧ (¬k4 = (1 : Int) → ∀ (z15 : Int), z15 = IntKind.wrap IntKind.i64 (Prod.fst x3 + (1 : Int)) → ∃ (y16 : Int × Rws × Nat × Nat), ((0 : Nat) = (0 : Nat) ∧ n = n ∧ c = c) ∧ ((0 : Nat) = (0 : Nat) ∧ Prod.fst (Prod.snd (Prod.snd x3)) = Prod.fst (Prod.snd (Prod.snd y16)) ∧ Prod.snd (Prod.snd (Prod.snd x3)) = Prod.snd (Prod.snd (Prod.snd y16))) ∧ Prod.fst x1 = Prod.fst x1 ∧ z15 = Prod.fst y16 ∧ (R = R ∧ c = c ∧ false = false) ∧ (U.nilL = U.nilL ∧ (0 : Nat) = (0 : Nat) ∧ false = false) ∧ (Prod.fst (Prod.snd x3) = Prod.fst (Prod.snd y16) ∧ Prod.snd (Prod.snd (Prod.snd x3)) = Prod.snd (Prod.snd (Prod.snd y16)) ∧ false = false) ∧ U.rLI R (Prod.fst x1) (Prod.fst y16) (Prod.fst (Prod.snd y16)) (Prod.fst (Prod.snd (Prod.snd y16))) (Prod.snd (Prod.snd (Prod.snd y16))) ∧ (9 : Nat) - Int.toNat (Prod.fst y16) < (9 : Nat) - Int.toNat (Prod.fst x3))) ∧ (¬Prod.fst x3 ≤ (8 : Int) → ∀ (z17 : Int), z17 = IntKind.wrap IntKind.i64 (Prod.fst x1 + (1 : Int)) → ∃ (y18 : Int × Rws × Nat × Nat), ((0 : Nat) = (0 : Nat) ∧ n = n ∧ c = c) ∧ ((0 : Nat) = (0 : Nat) ∧ Prod.fst (Prod.snd (Prod.snd x3)) = Prod.fst (Prod.snd (Prod.snd y18)) ∧ Prod.snd (Prod.snd (Prod.snd x3)) = Prod.snd (Prod.snd (Prod.snd y18))) ∧ z17 = Prod.fst y18 ∧ (R = R ∧ c = c ∧ false = false) ∧ (U.nilL = U.nilL ∧ (0 : Nat) = (0 : Nat) ∧ false = false) ∧ (Prod.fst (Prod.snd x3) = Prod.fst (Prod.snd y18) ∧ Prod.snd (Prod.snd (Prod.snd x3)) = Prod.snd (Prod.snd (Prod.snd y18)) ∧ false = false) ∧ U.rLI R (Prod.fst y18) (1 : Int) (Prod.fst (Prod.snd y18)) (Prod.fst (Prod.snd (Prod.snd y18))) (Prod.snd (Prod.snd (Prod.snd y18))) ∧ (9 : Nat) - Int.toNat (Prod.fst y18) < (9 : Nat) - Int.toNat (Prod.fst x1))) ∧ (¬Prod.fst x1 ≤ (8 : Int) → K (Sum.inl (Sum.inl (Sum.inr (Sum.inr (Sum.inr (Sum.inr (Sum.inr (Sum.inr (Sum.inr (Sum.inr (Sum.inr (Sum.inr (Sum.inr (Sum.inl { a := (1 : Nat), u := (4 : Nat), o := (0 : Nat), n := Prod.fst (Prod.snd (Prod.snd x1)), c := Prod.snd (Prod.snd (Prod.snd x1)) })))))))))))))) { heap := [], ints := [], opqs := (0 : Nat), arrs := [some { elem := (77 : Nat), k := AK.o (Obj.rows [CK.n IntKind.i64, CK.n IntKind.i64, CK.n IntKind.i64, CK.n IntKind.i64, CK.n IntKind.i64, CK.b] R), l := [], cap := c, ro := false }, some { elem := (64 : Nat), k := AK.o (Obj.rows [CK.n IntKind.i64, CK.n IntKind.i64, CK.n IntKind.i64, CK.n IntKind.i64] (Prod.fst (Prod.snd x1))), l := [], cap := Prod.snd (Prod.snd (Prod.snd x1)), ro := false }], junks := (0 : Nat) })) := by kernel_rfl
end Go.Proofs.Ytmahbhoblhhamaa
end

section
set_option linter.unusedVariables false
set_option linter.unusedSimpArgs false
set_option maxRecDepth 10000
namespace Go.Proofs.Ytmahbhoblhhamaa
open Go Reck Ost
/-- Something is plugged in at a port. -/
structure U.rT (R : Rws) (a b : Int) : Prop where
  out : ¬ (U.rO R a b).v0 = 0
structure U.rMayJ (R : Rws) (a b a' b' : Int) : Prop where
  g : U.Gd a b
  g' : U.Gd a' b'
  ne : ¬ (a = a' ∧ b = b')
  n : ¬ U.rT R a b
  n' : ¬ U.rT R a' b'
structure U.rNoJ (R : Rws) (a b a' b' z : Int) : Prop where
  out : ((¬ U.Gd a b ∨ ¬ U.Gd a' b' ∨ (a = a' ∧ b = b')) ∧ z = 1) ∨ (U.Gd a b ∧ U.Gd a' b' ∧ ¬ (a = a' ∧ b = b') ∧ (U.rT R a b ∨ U.rT R a' b') ∧ z = 3)
theorem isV_t {R : Rws} {a b k u v h : Int} (g : U.isV (U.rO R a b) k u v h) : (U.rT R a b ↔ ¬ k = 0) := by
  constructor
  · rintro ⟨h⟩; rw [g.out] at h; exact h
  · intro hk; exact ⟨by rw [g.out]; exact hk⟩
/-- Why no machine is put in. -/
structure U.rNoA (R : Rws) (h a b z : Int) : Prop where
  out : ((¬ (0 ≤ h ∧ h < 16) ∨ ¬ U.Gd a b) ∧ z = 1) ∨ ((0 ≤ h ∧ h < 16) ∧ U.Gd a b ∧ ((∃ x y, U.isW R h x y) ∨ U.rT R a b) ∧ z = 3)
def U.cJ (a b a' b' : Int) : List CV := [.i a, .i b, .i a', .i b', .i 0, .b false]
def U.cM (a b h : Int) : List CV := [.i a, .i b, .i 0, .i 0, .i h, .b true]
def errA (s : RSl) (z : Int) : AV := .inr [.inl (rslC s), .inl (xintC .i64 z)]
theorem rJoin_run (K : AV → St → Prop) (R : Rws) (n c : Nat) (a b a' b' : Int) (hn : n = R.length) (hs : n ≤ 100000)
    (h0 : ∀ z : Int, U.rNoJ R a b a' b' z → K (errA ⟨0, 6, 0, n, c⟩ z) (caSt R c))
    (h1 : U.rMayJ R a b a' b' → ∀ (O : Rws) (q c' : Nat), O = R ++ [U.cJ a b a' b'] → q = n + 1 → q ≤ c' → K (errA ⟨1, 6, 0, q, c'⟩ 0) ⟨[], [], 0, [some (caB R c), some (caB O c')], 0⟩) :
    runR inv0 tR1 18 [cell (rslC ⟨0, 6, 0, n, c⟩), plA a b, plA a' b'] (caSt R c) K := by
  rw [rJoin_vc]
  refine ⟨fun g => ⟨fun g' => ⟨fun ge => h0 1 ⟨.inl ⟨.inr (.inr ⟨ge.1, ge.2.1⟩), rfl⟩⟩, fun ge => ?_⟩, fun g' => h0 1 ⟨.inl ⟨.inr (.inl g'), rfl⟩⟩⟩, fun g => h0 1 ⟨.inl ⟨.inl g, rfl⟩⟩⟩
  have ne : ¬ (a = a' ∧ b = b') := fun h => ge ⟨h.1, h.2, trivial⟩
  refine ⟨⟨rfl, hn, hs⟩, fun k0 u1 v2 q3 e1 => ⟨fun hk => h0 3 ⟨.inr ⟨g, g', ne, .inl ((isV_t e1).2 hk), rfl⟩⟩, fun hk => ⟨⟨rfl, hn, hs⟩, fun k4 u5 v6 q7 e2 => ⟨fun hk2 => h0 3 ⟨.inr ⟨g, g', ne, .inr ((isV_t e2).2 hk2), rfl⟩⟩, fun hk2 => ?_⟩⟩⟩⟩
  have hm : U.rMayJ R a b a' b' := ⟨g, g', ne, fun h => hk ((isV_t e1).1 h), fun h => hk2 ((isV_t e2).1 h)⟩
  have fin : ∀ (L8 : Rws) (n9 c10 : Nat), L8 = U.nilL ++ List.take n (List.drop 0 R) → n9 = 0 + n → n9 ≤ c10 → (0 + n9 ≤ L8.length ∧ 0 + c10 ≤ c10) ∧ n9 ≤ 16777216 ∧ ∀ (L11 : Rws) (n12 c13 : Nat), L11 = List.take n9 (List.drop 0 L8) ++ [.i a, .i b, .i a', .i b', .i 0, .b false] :: U.nilL → n12 = n9 + 1 → n12 ≤ c13 → K (errA ⟨1, 6, 0, n12, c13⟩ 0) ⟨[], [], 0, [some (caB R c), some (caB L11 c13)], 0⟩ := fun L8 n9 c10 e8 e9 e10 => by
    have e : L8 = R := by rw [e8, List.drop_zero, hn, List.take_length]; rfl
    subst e
    obtain rfl : n9 = n := by omega
    refine ⟨⟨by omega, by omega⟩, by omega, fun L11 n12 c13 e11 e12 e13 => h1 hm L11 n12 c13 ?_ e12 e13⟩
    rw [e11, List.drop_zero, hn, List.take_length]; rfl
  have le0 : Nat.le (0 + n) R.length := by show 0 + n ≤ R.length; omega
  repeat' (first | exact rfl | exact trivial | with_reducible apply And.intro)
  all_goals first
    | exact le0
    | omega
    | (intro L8 n9 c10 e8 e9 e10
       obtain ⟨⟨f1, f2⟩, f3, f4⟩ := fin L8 n9 c10 e8 e9 e10
       repeat' (first | exact rfl | exact trivial | exact f1 | exact f2 | exact f3 | exact Nat.le_refl _ | with_reducible apply And.intro | fail)
       all_goals first
         | decide
         | (intro L11 n12 c13 e11 e12 e13
            have f5 := f4 L11 n12 c13 e11 e12 e13
            repeat' (first | exact rfl | exact f5 | with_reducible apply And.intro | fail))
         | fail)
    | fail
theorem rAttach_run (K : AV → St → Prop) (R : Rws) (n c : Nat) (h a b : Int) (hn : n = R.length) (hs : n ≤ 100000)
    (h0 : ∀ z : Int, U.rNoA R h a b z → K (errA ⟨0, 6, 0, n, c⟩ z) (caSt R c))
    (h1 : U.Gd a b → (0 ≤ h ∧ h < 16) → U.noW R h → ¬ U.rT R a b → ∀ (O : Rws) (q c' : Nat), O = R ++ [U.cM a b h] → q = n + 1 → q ≤ c' → K (errA ⟨1, 6, 0, q, c'⟩ 0) ⟨[], [], 0, [some (caB R c), some (caB O c')], 0⟩) :
    runR inv0 tR1 19 [cell (rslC ⟨0, 6, 0, n, c⟩), xi .i64 h, plA a b] (caSt R c) K := by
  rw [rAttach_vc]
  refine ⟨fun g => h0 1 ⟨.inl ⟨.inl (by omega), rfl⟩⟩, fun g1 => ⟨fun g => h0 1 ⟨.inl ⟨.inl (by omega), rfl⟩⟩, fun g2 => ⟨fun g => ⟨⟨rfl, hn, hs⟩, fun x y hw => h0 3 ⟨.inr ⟨by omega, g, .inl ⟨x, y, hw⟩, rfl⟩⟩, fun hw => ⟨⟨rfl, hn, hs⟩, fun k u v q e1 => ⟨fun hk => h0 3 ⟨.inr ⟨by omega, g, .inr ((isV_t e1).2 hk), rfl⟩⟩, fun hk => ?_⟩⟩⟩, fun g => h0 1 ⟨.inl ⟨.inr g, rfl⟩⟩⟩⟩⟩
  have hh : 0 ≤ h ∧ h < 16 := by omega
  have hk' : ¬ U.rT R a b := fun q => hk ((isV_t e1).1 q)
  have fin : ∀ (L8 : Rws) (n9 c10 : Nat), L8 = U.nilL ++ List.take n (List.drop 0 R) → n9 = 0 + n → n9 ≤ c10 → (0 + n9 ≤ L8.length ∧ 0 + c10 ≤ c10) ∧ n9 ≤ 16777216 ∧ ∀ (L11 : Rws) (n12 c13 : Nat), L11 = List.take n9 (List.drop 0 L8) ++ [.i a, .i b, .i 0, .i 0, .i h, .b true] :: U.nilL → n12 = n9 + 1 → n12 ≤ c13 → K (errA ⟨1, 6, 0, n12, c13⟩ 0) ⟨[], [], 0, [some (caB R c), some (caB L11 c13)], 0⟩ := fun L8 n9 c10 e8 e9 e10 => by
    have e : L8 = R := by rw [e8, List.drop_zero, hn, List.take_length]; rfl
    subst e
    obtain rfl : n9 = n := by omega
    refine ⟨⟨by omega, by omega⟩, by omega, fun L11 n12 c13 e11 e12 e13 => h1 g hh hw hk' L11 n12 c13 ?_ e12 e13⟩
    rw [e11, List.drop_zero, hn, List.take_length]; rfl
  have le0 : Nat.le (0 + n) R.length := by show 0 + n ≤ R.length; omega
  repeat' (first | exact rfl | exact trivial | with_reducible apply And.intro)
  all_goals first
    | exact le0
    | omega
    | (intro L8 n9 c10 e8 e9 e10
       obtain ⟨⟨f1, f2⟩, f3, f4⟩ := fin L8 n9 c10 e8 e9 e10
       repeat' (first | exact rfl | exact trivial | exact f1 | exact f2 | exact f3 | exact Nat.le_refl _ | with_reducible apply And.intro | fail)
       all_goals first
         | decide
         | (intro L11 n12 c13 e11 e12 e13
            have f5 := f4 L11 n12 c13 e11 e12 e13
            repeat' (first | exact rfl | exact f5 | with_reducible apply And.intro | fail))
         | fail)
    | fail
theorem rL_succ (R : Rws) (m : Nat) : U.rL R (m + 1) = U.rL R m ++ (match U.rLf R m with | some r => [r] | none => []) := by
  unfold U.rL
  rw [List.range_succ, List.filterMap_append]
  congr 1
  cases h : U.rLf R m <;> simp [h]
theorem rLf_yes {R : Rws} {m : Nat} {a b k u v h : Int} (ha : U.sw m = a) (hb : U.po m = b) (e : U.isV (U.rO R a b) k u v h) (hk : k = 1) (hl : U.lsP a b u v) : U.rLf R m = some [.i a, .i b, .i u, .i v] := by
  unfold U.rLf
  rw [ha, hb, e.out, if_pos ⟨hk, hl.out⟩]
theorem rLf_no {R : Rws} {m : Nat} {a b k u v h : Int} (ha : U.sw m = a) (hb : U.po m = b) (e : U.isV (U.rO R a b) k u v h) (hk : ¬ (k = 1 ∧ U.lsP a b u v)) : U.rLf R m = none := by
  unfold U.rLf
  rw [ha, hb, e.out, if_neg fun g => hk ⟨g.1, ⟨g.2⟩⟩]
theorem rLinks_run (K : AV → St → Prop) (R : Rws) (n c : Nat) (hn : n = R.length) (hs : n ≤ 100000) (h1 : ∀ (O : Rws) (q c' : Nat), O = U.rL R 64 → q = O.length → q ≤ c' → K (cell (rslC ⟨1, 4, 0, q, c'⟩)) ⟨[], [], 0, [some (caB R c), some (liB O c')], 0⟩) :
    runR invRL tR1 26 [cell (rslC ⟨0, 6, 0, n, c⟩)] (caSt R c) K := by
  rw [rLinks_vc]
  constructor
  · refine ⟨(1, ([], (0, 0))), ?_⟩
    repeat' (first | exact rfl | with_reducible apply And.intro)
    exact ⟨⟨by decide, by decide⟩, ⟨by decide, by decide⟩, rfl, rfl, by decide, by decide⟩
  rintro ⟨s, O, q, c1⟩ hI
  have hI' := hI
  obtain ⟨⟨s1, s2⟩, _, i3, i4, i5, i6⟩ := hI'
  dsimp only at s1 s2 i3 i4 i5 i6 ⊢
  refine ⟨fun hs8 => ⟨?_, ?_⟩, fun hs8 => ?_⟩
  · refine ⟨(1, (O, (q, c1))), ?_⟩
    repeat' (first | exact rfl | with_reducible apply And.intro)
    exact hI
  · clear i3 i4 i5 i6 hI O q c1
    rintro ⟨p, O, q, c1⟩ hI
    have hI' := hI
    obtain ⟨_, ⟨p1, p2⟩, i3, i4, i5, i6⟩ := hI'
    dsimp only at p1 p2 i3 i4 i5 i6 ⊢
    refine ⟨fun hp8 => ⟨⟨rfl, hn, hs⟩, fun k u v h e1 => ?_⟩, fun hp8 z17 h17 => ?_⟩
    · obtain ⟨m, hm⟩ : ∃ m : Nat, (m : Int) = 8 * (s - 1) + (p - 1) := ⟨(8 * (s - 1) + (p - 1)).toNat, by omega⟩
      have hsw : U.sw m = s := by unfold U.sw; omega
      have hpo : U.po m = p := by unfold U.po; omega
      rw [← hm, Int.toNat_natCast] at i3
      have hY : ∀ (z : Int) (O' : Rws) (q' c' : Nat), z = IntKind.wrap IntKind.i64 (p + 1) → O' = List.take q (List.drop 0 O) ++ [[.i s, .i p, .i u, .i v]] → q' = q + 1 → q' ≤ c' → k = 1 → U.lsP s p u v → U.rLI R s z O' q' c' ∧ 9 - Int.toNat z < 9 - Int.toNat p := fun z O' q' c' hz hO hq hc hk hl => by
        have ez := iw hz (by omega)
        rw [List.drop_zero, i4, List.take_length] at hO
        refine ⟨⟨⟨s1, by omega⟩, ⟨by omega, by omega⟩, ?_, ?_, hc, by omega⟩, by omega⟩
        · rw [show (8 * (s - 1) + (z - 1)).toNat = m + 1 by omega, rL_succ, rLf_yes hsw hpo e1 hk hl, ← i3]; exact hO
        · rw [hO, List.length_append, hq, i4]; rfl
      have hN : ∀ z : Int, z = IntKind.wrap IntKind.i64 (p + 1) → ¬ (k = 1 ∧ U.lsP s p u v) → U.rLI R s z O q c1 ∧ 9 - Int.toNat z < 9 - Int.toNat p := fun z hz hk => by
        have ez := iw hz (by omega)
        refine ⟨⟨⟨s1, by omega⟩, ⟨by omega, by omega⟩, ?_, i4, i5, by omega⟩, by omega⟩
        rw [show (8 * (s - 1) + (z - 1)).toNat = m + 1 by omega, rL_succ, rLf_no hsw hpo e1 hk, ← i3]; simp
      refine ⟨fun hk => ⟨fun hl => ⟨⟨by omega, by omega⟩, trivial, by omega, by decide, fun L8 n9 c10 e8 e9 e10 z11 h11 => ?_⟩, fun hl z13 h13 => ?_⟩, fun hk z13 h13 => ?_⟩
      · have := hY z11 L8 n9 c10 h11 e8 e9 e10 hk hl
        refine ⟨(z11, (L8, (n9, c10))), ?_⟩
        repeat' (first | exact rfl | exact this.1 | exact this.2 | with_reducible apply And.intro)
      · have := hN z13 h13 (fun g => hl g.2)
        refine ⟨(z13, (O, (q, c1))), ?_⟩
        repeat' (first | exact rfl | exact this.1 | exact this.2 | with_reducible apply And.intro)
      · have := hN z13 h13 (fun g => hk g.1)
        refine ⟨(z13, (O, (q, c1))), ?_⟩
        repeat' (first | exact rfl | exact this.1 | exact this.2 | with_reducible apply And.intro)
    · have e17 := iw h17 (by omega)
      have hg : U.rLI R z17 1 O q c1 := ⟨⟨by omega, by omega⟩, ⟨by decide, by decide⟩, by rw [show (8 * (z17 - 1) + (1 - 1)).toNat = (8 * (s - 1) + (p - 1)).toNat by omega]; exact i3, i4, i5, by omega⟩
      refine ⟨(z17, (O, (q, c1))), ?_⟩
      repeat' (first | exact rfl | exact hg | with_reducible apply And.intro)
      dsimp only; omega
  · exact h1 O q c1 (by rw [i3, show (8 * (s - 1) + (1 - 1)).toNat = 64 by omega]) i4 i5
end Go.Proofs.Ytmahbhoblhhamaa
end
