/- Parts of a proof, one behind the other: SE1 SE2 SE3 SE4 SE5 SE6 SE7 SE8. No condition. -/
import Derived.Test.YtfiadoboagpgkaaGD
section
namespace Go.Proofs.Ytfiadoboagpgkaa
open Go Reck Ost
set_option linter.unusedVariables false
set_option maxRecDepth 100000
def prK : List CK := [.s, .n .i64]
def prB (R : Rws) (cap : Nat) : ABlk := rowB 29 prK R cap false
def prSt (R : Rws) (c : Nat) : St := ⟨[], [], 0, [some (prB R c)], 0⟩
structure U.pgI (R : Rws) (n : Nat) (k : List Int) (i : Int) : Prop where
  out : 0 ≤ i ∧ i ≤ n ∧ ∀ m : Nat, (m : Int) < i → U.fs R m 0 ≠ k
structure U.pvI (R : Rws) (n : Nat) (i : Int) (O : List Int) (r co : Nat) : Prop where
  out : 0 ≤ i ∧ i ≤ n ∧ O = (List.range i.toNat).map (fun m => U.fi R m 1) ∧ r = O.length ∧ r ≤ co ∧ (r : Int) ≤ i
/-- A key of a row. -/
def rwS (r : List CV) : List Int := match r.getD 0 (.i 0) with
  | .s z => z
  | _ => []
structure U.pdI (R : Rws) (n : Nat) (k : List Int) (i : Int) (O : Rws) (q c : Nat) : Prop where
  out : 0 ≤ i ∧ i ≤ n ∧ O = (R.take i.toNat).filter (fun r => !decide (rwS r = k)) ∧ q = O.length ∧ (q : Int) ≤ i ∧ q ≤ c
/-- What Set has done so far. -/
structure U.psI (R : Rws) (n : Nat) (k : List Int) (v : Int) (t : Nat) (i : Int) (O : Rws) (q c : Nat) : Prop where
  out : 0 ≤ i ∧ i ≤ n ∧ q = O.length ∧ (q : Int) ≤ i + 1 ∧ q ≤ c
  no : t = 0 → (∀ m : Nat, (m : Int) < i → LtS (U.fs R m 0) k) ∧ O = R.take i.toNat
  yes : t = 1 → ∃ z : Nat, (z : Int) < i ∧ (∀ m : Nat, m < z → LtS (U.fs R m 0) k) ∧ ¬ LtS (U.fs R z 0) k ∧ ((U.fs R z 0 = k ∧ O = R.take z ++ [[.s k, .i v]] ++ (R.take i.toNat).drop (z + 1)) ∨ (U.fs R z 0 ≠ k ∧ O = R.take z ++ [[.s k, .i v]] ++ (R.take i.toNat).drop z))
def pgInv (tm : List AV) (σ : St) : Inv where
  X := Int
  tags := [0]
  tag _ _ := 0
  J := [0, 2, 3, 4, 5, 6, 7, 11, 12, 13, 14, 15, 16, 17, 18, 19, 20]
  val _ x := [(10, xi .i64 x)]
  st _ _ σ' := σ'
  I _ x := U.pgI (rowsAt σ (slotR tm 8).a) (slotR tm 8).n (slotSt tm 1) x
  m _ x := ((slotR tm 8).n : Int).toNat - x.toNat
  ren := noRen
def pvInv (tm : List AV) (σ : St) : Inv where
  X := Int × (List Int × (Nat × Nat))
  tags := [0]
  tag _ _ := 0
  J := [0, 1, 2, 4, 5, 9, 10, 11, 12, 13, 14, 15, 16, 17, 18]
  val _ x := [(8, xi .i64 x.1), (3, cell (aslC ⟨σ.arrs.length, 0, x.2.2.1, x.2.2.2⟩))]
  st _ x σ' := ⟨σ'.heap, σ'.ints, σ'.opqs, σ'.arrs.dropLast ++ [some ⟨3, .n .i64, x.2.1, x.2.2.2, false⟩], σ'.junks⟩
  I _ x := U.pvI (rowsAt σ (slotR tm 6).a) (slotR tm 6).n x.1 x.2.1 x.2.2.1 x.2.2.2
  m _ x := ((slotR tm 6).n : Int).toNat - x.1.toNat
  ren tm' σ' := ([], [(slotS tm' 3).a])
def pdInv (tm : List AV) (σ : St) : Inv where
  X := Int × (Rws × (Nat × Nat))
  tags := [0]
  tag _ _ := 0
  J := [0, 2, 3, 4, 6, 7, 11, 12, 13, 14, 15, 16, 17, 18, 19, 20, 21, 22, 23]
  val _ x := [(10, xi .i64 x.1), (5, cell (rslC ⟨σ.arrs.length, 2, 0, x.2.2.1, x.2.2.2⟩))]
  st _ x σ' := ⟨σ'.heap, σ'.ints, σ'.opqs, σ'.arrs.dropLast ++ [some (prB x.2.1 x.2.2.2)], σ'.junks⟩
  I _ x := U.pdI (rowsAt σ (slotR tm 8).a) (slotR tm 8).n (slotSt tm 1) x.1 x.2.1 x.2.2.1 x.2.2.2
  m _ x := ((slotR tm 8).n : Int).toNat - x.1.toNat
  ren tm' σ' := ([], [(slotR tm' 5).a])
def psInv (tm : List AV) (σ : St) : Inv where
  X := Int × (Rws × (Nat × Nat))
  tags := [0, 1]
  tag := boolAt 8
  J := [0, 3, 4, 5, 6, 9, 10, 14, 15, 16, 17, 18, 19, 20, 21, 22, 23, 24, 25, 26, 27, 28, 29, 30, 31, 32, 33, 34, 35, 36, 37, 38, 39, 40, 41, 42, 43, 44, 45, 46, 47, 48]
  val t x := [(13, xi .i64 x.1), (8, tagB t), (7, cell (rslC ⟨σ.arrs.length, 2, 0, x.2.2.1, x.2.2.2⟩))]
  st _ x σ' := ⟨σ'.heap, σ'.ints, σ'.opqs, σ'.arrs.dropLast ++ [some (prB x.2.1 x.2.2.2)], σ'.junks⟩
  I t x := U.psI (rowsAt σ (slotR tm 11).a) (slotR tm 11).n (slotSt tm 1) (slotI tm 2) t x.1 x.2.1 x.2.2.1 x.2.2.2
  m _ x := ((slotR tm 11).n : Int).toNat - x.1.toNat
  ren tm' σ' := ([], [(slotR tm' 7).a])
def invE1 : InvF := fun c tm σ => match tm.length, firstReg c with
  | 21, some 2 => some (pgInv tm σ)
  | 19, some 3 => some (pvInv tm σ)
  | 24, some 3 => some (pdInv tm σ)
  | 49, some 4 => some (psInv tm σ)
  | _, _ => none
--PLAIN
theorem pGet_vc (K : AV → St → Prop) (R : Rws) (n c : Nat) (k : List Int) : (runR invE1 tbl0 15 [cell (rslC ⟨0, 2, 0, n, c⟩), cell (strC k)] (prSt R c) K) = (∀ (z0 : Int), z0 = (↑n : Int) → (∃ (y1 : Int), k = k ∧ ((0 : Nat) = (0 : Nat) ∧ n = n ∧ c = c) ∧ z0 = z0 ∧ (0 : Int) = y1 ∧ (R = R ∧ c = c ∧ false = false) ∧ U.pgI R n k y1) ∧ ∀ (x2 : Int), U.pgI R n k x2 → (x2 < z0 → ((0 : Int) ≤ x2 ∧ x2 < (↑n : Int)) ∧ ∀ (j3 : Nat), (↑j3 : Int) = (↑((0 : Nat)) : Int) + x2 → j3 < List.length R ∧ ∀ (z4 : List Int), z4 = U.fs R j3 ((0 : Nat)) → ∀ (z5 : Int), z5 = U.fi R j3 ((0 : Nat) + (1 : Nat)) → (z4 = k → K (Sum.inr [Sum.inl (Sum.inr (Sum.inr (Sum.inr (Sum.inr (Sum.inr (Sum.inr (Sum.inl (IntKind.i64, z5)))))))), Sum.inl (Sum.inl (Value.bool true))]) { heap := [], ints := [], opqs := (0 : Nat), arrs := [some { elem := (29 : Nat), k := AK.o (Obj.rows [CK.s, CK.n IntKind.i64] R), l := [], cap := c, ro := false }], junks := (0 : Nat) }) ∧ (¬z4 = k → ∀ (z6 : Int), z6 = IntKind.wrap IntKind.i64 (x2 + (1 : Int)) → ∃ (y7 : Int), k = k ∧ ((0 : Nat) = (0 : Nat) ∧ n = n ∧ c = c) ∧ z0 = z0 ∧ z6 = y7 ∧ (R = R ∧ c = c ∧ false = false) ∧ U.pgI R n k y7 ∧ Int.toNat (↑n : Int) - Int.toNat y7 < Int.toNat (↑n : Int) - Int.toNat x2)) ∧ (¬x2 < z0 → K (Sum.inr [Sum.inl (Sum.inr (Sum.inr (Sum.inr (Sum.inr (Sum.inr (Sum.inr (Sum.inl (IntKind.i64, (0 : Int))))))))), Sum.inl (Sum.inl (Value.bool false))]) { heap := [], ints := [], opqs := (0 : Nat), arrs := [some { elem := (29 : Nat), k := AK.o (Obj.rows [CK.s, CK.n IntKind.i64] R), l := [], cap := c, ro := false }], junks := (0 : Nat) })) := by kernel_rfl
theorem pVals_vc (K : AV → St → Prop) (R : Rws) (n c : Nat) : (runR invE1 tbl0 7 [cell (rslC ⟨0, 2, 0, n, c⟩)] (prSt R c) K) = (∀ (z0 : Int), z0 = (↑n : Int) → (∃ (y1 : Int × List Int × Nat × Nat), ((0 : Nat) = (0 : Nat) ∧ (0 : Nat) = Prod.fst (Prod.snd (Prod.snd y1)) ∧ (0 : Nat) = Prod.snd (Prod.snd (Prod.snd y1))) ∧ ((0 : Nat) = (0 : Nat) ∧ n = n ∧ c = c) ∧ z0 = z0 ∧ (0 : Int) = Prod.fst y1 ∧ (R = R ∧ c = c ∧ false = false) ∧ (([] : List Int) = [] ∧ (0 : Nat) = (0 : Nat) ∧ false = false) ∧ ([] = Prod.fst (Prod.snd y1) ∧ (0 : Nat) = Prod.snd (Prod.snd (Prod.snd y1)) ∧ false = false) ∧ U.pvI R n (Prod.fst y1) (Prod.fst (Prod.snd y1)) (Prod.fst (Prod.snd (Prod.snd y1))) (Prod.snd (Prod.snd (Prod.snd y1)))) ∧ ∀ (x2 : Int × List Int × Nat × Nat), U.pvI R n (Prod.fst x2) (Prod.fst (Prod.snd x2)) (Prod.fst (Prod.snd (Prod.snd x2))) (Prod.snd (Prod.snd (Prod.snd x2))) → (Prod.fst x2 < z0 → ((0 : Int) ≤ Prod.fst x2 ∧ Prod.fst x2 < (↑n : Int)) ∧ ∀ (j3 : Nat), (↑j3 : Int) = (↑((0 : Nat)) : Int) + Prod.fst x2 → j3 < List.length R ∧ ∀ (z4 : List Int), z4 = U.fs R j3 ((0 : Nat)) → ∀ (z5 : Int), z5 = U.fi R j3 ((0 : Nat) + (1 : Nat)) → ((0 : Nat) + Prod.fst (Prod.snd (Prod.snd x2)) ≤ List.length (Prod.fst (Prod.snd x2)) ∧ (0 : Nat) + Prod.snd (Prod.snd (Prod.snd x2)) ≤ Prod.snd (Prod.snd (Prod.snd x2))) ∧ True ∧ Prod.fst (Prod.snd (Prod.snd x2)) ≤ (16777216 : Nat) ∧ (1 : Nat) ≤ (16777216 : Nat) ∧ ∀ (l'6 : List Int) (n'7 c'8 : Nat), l'6 = List.take (Prod.fst (Prod.snd (Prod.snd x2))) (List.drop ((0 : Nat)) (Prod.fst (Prod.snd x2))) ++ [z5] → n'7 = Prod.fst (Prod.snd (Prod.snd x2)) + (1 : Nat) → n'7 ≤ c'8 → ∀ (z9 : Int), z9 = IntKind.wrap IntKind.i64 (Prod.fst x2 + (1 : Int)) → ∃ (y10 : Int × List Int × Nat × Nat), ((0 : Nat) = (0 : Nat) ∧ n'7 = Prod.fst (Prod.snd (Prod.snd y10)) ∧ c'8 = Prod.snd (Prod.snd (Prod.snd y10))) ∧ ((0 : Nat) = (0 : Nat) ∧ n = n ∧ c = c) ∧ z0 = z0 ∧ z9 = Prod.fst y10 ∧ (R = R ∧ c = c ∧ false = false) ∧ (([] : List Int) = [] ∧ (0 : Nat) = (0 : Nat) ∧ false = false) ∧ (l'6 = Prod.fst (Prod.snd y10) ∧ c'8 = Prod.snd (Prod.snd (Prod.snd y10)) ∧ false = false) ∧ U.pvI R n (Prod.fst y10) (Prod.fst (Prod.snd y10)) (Prod.fst (Prod.snd (Prod.snd y10))) (Prod.snd (Prod.snd (Prod.snd y10))) ∧ Int.toNat (↑n : Int) - Int.toNat (Prod.fst y10) < Int.toNat (↑n : Int) - Int.toNat (Prod.fst x2)) ∧ (¬Prod.fst x2 < z0 → K (Sum.inl (Sum.inl (Sum.inr (Sum.inr (Sum.inr (Sum.inr (Sum.inr (Sum.inr (Sum.inr (Sum.inl { a := (1 : Nat), o := (0 : Nat), n := Prod.fst (Prod.snd (Prod.snd x2)), c := Prod.snd (Prod.snd (Prod.snd x2)) })))))))))) { heap := [], ints := [], opqs := (0 : Nat), arrs := [some { elem := (29 : TypeId), k := AK.o (Obj.rows [CK.s, CK.n IntKind.i64] R), l := [], cap := c, ro := false }, some { elem := (3 : Nat), k := AK.n IntKind.i64, l := Prod.fst (Prod.snd x2), cap := Prod.snd (Prod.snd (Prod.snd x2)), ro := false }], junks := (0 : Nat) })) := by kernel_rfl
theorem pDel_vc (K : AV → St → Prop) (R : Rws) (n c : Nat) (k : List Int) : (runR invE1 tbl0 20 [cell (rslC ⟨0, 2, 0, n, c⟩), cell (strC k)] (prSt R c) K) = (∀ (z0 : Int), z0 = (↑n : Int) → (∃ (y1 : Int × Rws × Nat × Nat), k = k ∧ ((0 : Nat) = (0 : Nat) ∧ (0 : Nat) = Prod.fst (Prod.snd (Prod.snd y1)) ∧ (0 : Nat) = Prod.snd (Prod.snd (Prod.snd y1))) ∧ ((0 : Nat) = (0 : Nat) ∧ n = n ∧ c = c) ∧ z0 = z0 ∧ (0 : Int) = Prod.fst y1 ∧ (R = R ∧ c = c ∧ false = false) ∧ (U.nilL = U.nilL ∧ (0 : Nat) = (0 : Nat) ∧ false = false) ∧ (U.nilL = Prod.fst (Prod.snd y1) ∧ (0 : Nat) = Prod.snd (Prod.snd (Prod.snd y1)) ∧ false = false) ∧ U.pdI R n k (Prod.fst y1) (Prod.fst (Prod.snd y1)) (Prod.fst (Prod.snd (Prod.snd y1))) (Prod.snd (Prod.snd (Prod.snd y1)))) ∧ ∀ (x2 : Int × Rws × Nat × Nat), U.pdI R n k (Prod.fst x2) (Prod.fst (Prod.snd x2)) (Prod.fst (Prod.snd (Prod.snd x2))) (Prod.snd (Prod.snd (Prod.snd x2))) → (Prod.fst x2 < z0 → ((0 : Int) ≤ Prod.fst x2 ∧ Prod.fst x2 < (↑n : Int)) ∧ ∀ (j3 : Nat), (↑j3 : Int) = (↑((0 : Nat)) : Int) + Prod.fst x2 → j3 < List.length R ∧ ∀ (z4 : List Int), z4 = U.fs R j3 ((0 : Nat)) → ∀ (z5 : Int), z5 = U.fi R j3 ((0 : Nat) + (1 : Nat)) → (¬z4 = k → ((0 : Nat) + Prod.fst (Prod.snd (Prod.snd x2)) ≤ List.length (Prod.fst (Prod.snd x2)) ∧ (0 : Nat) + Prod.snd (Prod.snd (Prod.snd x2)) ≤ Prod.snd (Prod.snd (Prod.snd x2))) ∧ True ∧ Prod.fst (Prod.snd (Prod.snd x2)) ≤ (16777216 : Nat) ∧ (1 : Nat) ≤ (16777216 : Nat) ∧ ∀ (L'6 : List (List CV)) (n'7 c'8 : Nat), L'6 = List.take (Prod.fst (Prod.snd (Prod.snd x2))) (List.drop ((0 : Nat)) (Prod.fst (Prod.snd x2))) ++ [CV.s z4, CV.i z5] :: U.nilL → n'7 = Prod.fst (Prod.snd (Prod.snd x2)) + (1 : Nat) → n'7 ≤ c'8 → ∀ (z9 : Int), z9 = IntKind.wrap IntKind.i64 (Prod.fst x2 + (1 : Int)) → ∃ (y10 : Int × Rws × Nat × Nat), k = k ∧ ((0 : Nat) = (0 : Nat) ∧ n'7 = Prod.fst (Prod.snd (Prod.snd y10)) ∧ c'8 = Prod.snd (Prod.snd (Prod.snd y10))) ∧ ((0 : Nat) = (0 : Nat) ∧ n = n ∧ c = c) ∧ z0 = z0 ∧ z9 = Prod.fst y10 ∧ (R = R ∧ c = c ∧ false = false) ∧ (U.nilL = U.nilL ∧ (0 : Nat) = (0 : Nat) ∧ false = false) ∧ (L'6 = Prod.fst (Prod.snd y10) ∧ c'8 = Prod.snd (Prod.snd (Prod.snd y10)) ∧ false = false) ∧ U.pdI R n k (Prod.fst y10) (Prod.fst (Prod.snd y10)) (Prod.fst (Prod.snd (Prod.snd y10))) (Prod.snd (Prod.snd (Prod.snd y10))) ∧ Int.toNat (↑n : Int) - Int.toNat (Prod.fst y10) < Int.toNat (↑n : Int) - Int.toNat (Prod.fst x2)) ∧ (¬¬z4 = k → ∀ (z11 : Int), z11 = IntKind.wrap IntKind.i64 (Prod.fst x2 + (1 : Int)) → ∃ (y12 : Int × Rws × Nat × Nat), k = k ∧ ((0 : Nat) = (0 : Nat) ∧ Prod.fst (Prod.snd (Prod.snd x2)) = Prod.fst (Prod.snd (Prod.snd y12)) ∧ Prod.snd (Prod.snd (Prod.snd x2)) = Prod.snd (Prod.snd (Prod.snd y12))) ∧ ((0 : Nat) = (0 : Nat) ∧ n = n ∧ c = c) ∧ z0 = z0 ∧ z11 = Prod.fst y12 ∧ (R = R ∧ c = c ∧ false = false) ∧ (U.nilL = U.nilL ∧ (0 : Nat) = (0 : Nat) ∧ false = false) ∧ (Prod.fst (Prod.snd x2) = Prod.fst (Prod.snd y12) ∧ Prod.snd (Prod.snd (Prod.snd x2)) = Prod.snd (Prod.snd (Prod.snd y12)) ∧ false = false) ∧ U.pdI R n k (Prod.fst y12) (Prod.fst (Prod.snd y12)) (Prod.fst (Prod.snd (Prod.snd y12))) (Prod.snd (Prod.snd (Prod.snd y12))) ∧ Int.toNat (↑n : Int) - Int.toNat (Prod.fst y12) < Int.toNat (↑n : Int) - Int.toNat (Prod.fst x2))) ∧ (¬Prod.fst x2 < z0 → K (Sum.inl (Sum.inl (Sum.inr (Sum.inr (Sum.inr (Sum.inr (Sum.inr (Sum.inr (Sum.inr (Sum.inr (Sum.inr (Sum.inr (Sum.inr (Sum.inl { a := (1 : Nat), u := (2 : Nat), o := (0 : Nat), n := Prod.fst (Prod.snd (Prod.snd x2)), c := Prod.snd (Prod.snd (Prod.snd x2)) })))))))))))))) { heap := [], ints := [], opqs := (0 : Nat), arrs := [some { elem := (29 : TypeId), k := AK.o (Obj.rows [CK.s, CK.n IntKind.i64] R), l := [], cap := c, ro := false }, some { elem := (29 : TypeId), k := AK.o (Obj.rows [CK.s, CK.n IntKind.i64] (Prod.fst (Prod.snd x2))), l := [], cap := Prod.snd (Prod.snd (Prod.snd x2)), ro := false }], junks := (0 : Nat) })) := by kernel_rfl
theorem pSet_vc (K : AV → St → Prop) (R : Rws) (n c : Nat) (k : List Int) (v : Int) : (runR invE1 tbl0 17 [cell (rslC ⟨0, 2, 0, n, c⟩), cell (strC k), xi .i64 v] (prSt R c) K) = (∀ (z0 : Int), z0 = (↑n : Int) → (∃ (y1 : Int × Rws × Nat × Nat), k = k ∧ v = v ∧ ((0 : Nat) = (0 : Nat) ∧ (0 : Nat) = Prod.fst (Prod.snd (Prod.snd y1)) ∧ (0 : Nat) = Prod.snd (Prod.snd (Prod.snd y1))) ∧ false = false ∧ ((0 : Nat) = (0 : Nat) ∧ n = n ∧ c = c) ∧ z0 = z0 ∧ (0 : Int) = Prod.fst y1 ∧ (R = R ∧ c = c ∧ false = false) ∧ (U.nilL = U.nilL ∧ (0 : Nat) = (0 : Nat) ∧ false = false) ∧ (U.nilL = Prod.fst (Prod.snd y1) ∧ (0 : Nat) = Prod.snd (Prod.snd (Prod.snd y1)) ∧ false = false) ∧ U.psI R n k v ((0 : Nat)) (Prod.fst y1) (Prod.fst (Prod.snd y1)) (Prod.fst (Prod.snd (Prod.snd y1))) (Prod.snd (Prod.snd (Prod.snd y1)))) ∧ (∀ (x2 : Int × Rws × Nat × Nat), U.psI R n k v (0 : Nat) (Prod.fst x2) (Prod.fst (Prod.snd x2)) (Prod.fst (Prod.snd (Prod.snd x2))) (Prod.snd (Prod.snd (Prod.snd x2))) → (Prod.fst x2 < z0 → ((0 : Int) ≤ Prod.fst x2 ∧ Prod.fst x2 < (↑n : Int)) ∧ ∀ (j3 : Nat), (↑j3 : Int) = (↑((0 : Nat)) : Int) + Prod.fst x2 → j3 < List.length R ∧ ∀ (z4 : List Int), z4 = U.fs R j3 ((0 : Nat)) → ∀ (z5 : Int), z5 = U.fi R j3 ((0 : Nat) + (1 : Nat)) → (¬LtS z4 k → ((0 : Nat) + Prod.fst (Prod.snd (Prod.snd x2)) ≤ List.length (Prod.fst (Prod.snd x2)) ∧ (0 : Nat) + Prod.snd (Prod.snd (Prod.snd x2)) ≤ Prod.snd (Prod.snd (Prod.snd x2))) ∧ True ∧ Prod.fst (Prod.snd (Prod.snd x2)) ≤ (16777216 : Nat) ∧ (1 : Nat) ≤ (16777216 : Nat) ∧ ∀ (L'6 : List (List CV)) (n'7 c'8 : Nat), L'6 = List.take (Prod.fst (Prod.snd (Prod.snd x2))) (List.drop ((0 : Nat)) (Prod.fst (Prod.snd x2))) ++ [CV.s k, CV.i v] :: U.nilL → n'7 = Prod.fst (Prod.snd (Prod.snd x2)) + (1 : Nat) → n'7 ≤ c'8 → (¬z4 = k → ((0 : Nat) + n'7 ≤ List.length L'6 ∧ (0 : Nat) + c'8 ≤ c'8) ∧ True ∧ n'7 ≤ (16777216 : Nat) ∧ (1 : Nat) ≤ (16777216 : Nat) ∧ ∀ (L'9 : List (List CV)) (n'10 c'11 : Nat), L'9 = List.take n'7 (List.drop ((0 : Nat)) L'6) ++ [CV.s z4, CV.i z5] :: U.nilL → n'10 = n'7 + (1 : Nat) → n'10 ≤ c'11 → ∀ (z12 : Int), z12 = IntKind.wrap IntKind.i64 (Prod.fst x2 + (1 : Int)) → ∃ (y13 : Int × Rws × Nat × Nat), k = k ∧ v = v ∧ ((0 : Nat) = (0 : Nat) ∧ n'10 = Prod.fst (Prod.snd (Prod.snd y13)) ∧ c'11 = Prod.snd (Prod.snd (Prod.snd y13))) ∧ true = true ∧ ((0 : Nat) = (0 : Nat) ∧ n = n ∧ c = c) ∧ z0 = z0 ∧ z12 = Prod.fst y13 ∧ (R = R ∧ c = c ∧ false = false) ∧ (U.nilL = U.nilL ∧ (0 : Nat) = (0 : Nat) ∧ false = false) ∧ (L'9 = Prod.fst (Prod.snd y13) ∧ c'11 = Prod.snd (Prod.snd (Prod.snd y13)) ∧ false = false) ∧ U.psI R n k v ((1 : Nat)) (Prod.fst y13) (Prod.fst (Prod.snd y13)) (Prod.fst (Prod.snd (Prod.snd y13))) (Prod.snd (Prod.snd (Prod.snd y13))) ∧ Int.toNat (↑n : Int) - Int.toNat (Prod.fst y13) < Int.toNat (↑n : Int) - Int.toNat (Prod.fst x2)) ∧ (¬¬z4 = k → ∀ (z14 : Int), z14 = IntKind.wrap IntKind.i64 (Prod.fst x2 + (1 : Int)) → ∃ (y15 : Int × Rws × Nat × Nat), k = k ∧ v = v ∧ ((0 : Nat) = (0 : Nat) ∧ n'7 = Prod.fst (Prod.snd (Prod.snd y15)) ∧ c'8 = Prod.snd (Prod.snd (Prod.snd y15))) ∧ true = true ∧ ((0 : Nat) = (0 : Nat) ∧ n = n ∧ c = c) ∧ z0 = z0 ∧ z14 = Prod.fst y15 ∧ (R = R ∧ c = c ∧ false = false) ∧ (U.nilL = U.nilL ∧ (0 : Nat) = (0 : Nat) ∧ false = false) ∧ (L'6 = Prod.fst (Prod.snd y15) ∧ c'8 = Prod.snd (Prod.snd (Prod.snd y15)) ∧ false = false) ∧ U.psI R n k v ((1 : Nat)) (Prod.fst y15) (Prod.fst (Prod.snd y15)) (Prod.fst (Prod.snd (Prod.snd y15))) (Prod.snd (Prod.snd (Prod.snd y15))) ∧ Int.toNat (↑n : Int) - Int.toNat (Prod.fst y15) < Int.toNat (↑n : Int) - Int.toNat (Prod.fst x2))) ∧ (¬¬LtS z4 k → (¬z4 = k → ((0 : Nat) + Prod.fst (Prod.snd (Prod.snd x2)) ≤ List.length (Prod.fst (Prod.snd x2)) ∧ (0 : Nat) + Prod.snd (Prod.snd (Prod.snd x2)) ≤ Prod.snd (Prod.snd (Prod.snd x2))) ∧ True ∧ Prod.fst (Prod.snd (Prod.snd x2)) ≤ (16777216 : Nat) ∧ (1 : Nat) ≤ (16777216 : Nat) ∧ ∀ (L'16 : List (List CV)) (n'17 c'18 : Nat), L'16 = List.take (Prod.fst (Prod.snd (Prod.snd x2))) (List.drop ((0 : Nat)) (Prod.fst (Prod.snd x2))) ++ [CV.s z4, CV.i z5] :: U.nilL → n'17 = Prod.fst (Prod.snd (Prod.snd x2)) + (1 : Nat) → n'17 ≤ c'18 → ∀ (z19 : Int), z19 = IntKind.wrap IntKind.i64 (Prod.fst x2 + (1 : Int)) → ∃ (y20 : Int × Rws × Nat × Nat), k = k ∧ v = v ∧ ((0 : Nat) = (0 : Nat) ∧ n'17 = Prod.fst (Prod.snd (Prod.snd y20)) ∧ c'18 = Prod.snd (Prod.snd (Prod.snd y20))) ∧ false = false ∧ ((0 : Nat) = (0 : Nat) ∧ n = n ∧ c = c) ∧ z0 = z0 ∧ z19 = Prod.fst y20 ∧ (R = R ∧ c = c ∧ false = false) ∧ (U.nilL = U.nilL ∧ (0 : Nat) = (0 : Nat) ∧ false = false) ∧ (L'16 = Prod.fst (Prod.snd y20) ∧ c'18 = Prod.snd (Prod.snd (Prod.snd y20)) ∧ false = false) ∧ U.psI R n k v ((0 : Nat)) (Prod.fst y20) (Prod.fst (Prod.snd y20)) (Prod.fst (Prod.snd (Prod.snd y20))) (Prod.snd (Prod.snd (Prod.snd y20))) ∧ Int.toNat (↑n : Int) - Int.toNat (Prod.fst y20) < Int.toNat (↑n : Int) - Int.toNat (Prod.fst x2)) ∧ (¬¬z4 = k → ∀ (z21 : Int), z21 = IntKind.wrap IntKind.i64 (Prod.fst x2 + (1 : Int)) → ∃ (y22 : Int × Rws × Nat × Nat), k = k ∧ v = v ∧ ((0 : Nat) = (0 : Nat) ∧ Prod.fst (Prod.snd (Prod.snd x2)) = Prod.fst (Prod.snd (Prod.snd y22)) ∧ Prod.snd (Prod.snd (Prod.snd x2)) = Prod.snd (Prod.snd (Prod.snd y22))) ∧ false = false ∧ ((0 : Nat) = (0 : Nat) ∧ n = n ∧ c = c) ∧ z0 = z0 ∧ z21 = Prod.fst y22 ∧ (R = R ∧ c = c ∧ false = false) ∧ (U.nilL = U.nilL ∧ (0 : Nat) = (0 : Nat) ∧ false = false) ∧ (Prod.fst (Prod.snd x2) = Prod.fst (Prod.snd y22) ∧ Prod.snd (Prod.snd (Prod.snd x2)) = Prod.snd (Prod.snd (Prod.snd y22)) ∧ false = false) ∧ U.psI R n k v ((0 : Nat)) (Prod.fst y22) (Prod.fst (Prod.snd y22)) (Prod.fst (Prod.snd (Prod.snd y22))) (Prod.snd (Prod.snd (Prod.snd y22))) ∧ Int.toNat (↑n : Int) - Int.toNat (Prod.fst y22) < Int.toNat (↑n : Int) - Int.toNat (Prod.fst x2)))) ∧ (¬Prod.fst x2 < z0 → ((0 : Nat) + Prod.fst (Prod.snd (Prod.snd x2)) ≤ List.length (Prod.fst (Prod.snd x2)) ∧ (0 : Nat) + Prod.snd (Prod.snd (Prod.snd x2)) ≤ Prod.snd (Prod.snd (Prod.snd x2))) ∧ True ∧ Prod.fst (Prod.snd (Prod.snd x2)) ≤ (16777216 : Nat) ∧ (1 : Nat) ≤ (16777216 : Nat) ∧ ∀ (L'23 : List (List CV)) (n'24 c'25 : Nat), L'23 = List.take (Prod.fst (Prod.snd (Prod.snd x2))) (List.drop ((0 : Nat)) (Prod.fst (Prod.snd x2))) ++ [CV.s k, CV.i v] :: U.nilL → n'24 = Prod.fst (Prod.snd (Prod.snd x2)) + (1 : Nat) → n'24 ≤ c'25 → K (Sum.inl (Sum.inl (Sum.inr (Sum.inr (Sum.inr (Sum.inr (Sum.inr (Sum.inr (Sum.inr (Sum.inr (Sum.inr (Sum.inr (Sum.inr (Sum.inl { a := (1 : Nat), u := (1 : Nat) + (1 : Nat), o := (0 : Nat), n := n'24, c := c'25 })))))))))))))) { heap := [], ints := [], opqs := (0 : Nat), arrs := [some { elem := (29 : TypeId), k := AK.o (Obj.rows [CK.s, CK.n IntKind.i64] R), l := [], cap := c, ro := false }, some { elem := (29 : Nat), k := AK.o (Obj.rows [CK.s, CK.n IntKind.i64] L'23), l := [], cap := c'25, ro := false }], junks := (0 : Nat) })) ∧ ∀ (x26 : Int × Rws × Nat × Nat), U.psI R n k v (1 : Nat) (Prod.fst x26) (Prod.fst (Prod.snd x26)) (Prod.fst (Prod.snd (Prod.snd x26))) (Prod.snd (Prod.snd (Prod.snd x26))) → (Prod.fst x26 < z0 → ((0 : Int) ≤ Prod.fst x26 ∧ Prod.fst x26 < (↑n : Int)) ∧ ∀ (j27 : Nat), (↑j27 : Int) = (↑((0 : Nat)) : Int) + Prod.fst x26 → j27 < List.length R ∧ ∀ (z28 : List Int), z28 = U.fs R j27 ((0 : Nat)) → ∀ (z29 : Int), z29 = U.fi R j27 ((0 : Nat) + (1 : Nat)) → (¬z28 = k → ((0 : Nat) + Prod.fst (Prod.snd (Prod.snd x26)) ≤ List.length (Prod.fst (Prod.snd x26)) ∧ (0 : Nat) + Prod.snd (Prod.snd (Prod.snd x26)) ≤ Prod.snd (Prod.snd (Prod.snd x26))) ∧ True ∧ Prod.fst (Prod.snd (Prod.snd x26)) ≤ (16777216 : Nat) ∧ (1 : Nat) ≤ (16777216 : Nat) ∧ ∀ (L'30 : List (List CV)) (n'31 c'32 : Nat), L'30 = List.take (Prod.fst (Prod.snd (Prod.snd x26))) (List.drop ((0 : Nat)) (Prod.fst (Prod.snd x26))) ++ [CV.s z28, CV.i z29] :: U.nilL → n'31 = Prod.fst (Prod.snd (Prod.snd x26)) + (1 : Nat) → n'31 ≤ c'32 → ∀ (z33 : Int), z33 = IntKind.wrap IntKind.i64 (Prod.fst x26 + (1 : Int)) → ∃ (y34 : Int × Rws × Nat × Nat), k = k ∧ v = v ∧ ((0 : Nat) = (0 : Nat) ∧ n'31 = Prod.fst (Prod.snd (Prod.snd y34)) ∧ c'32 = Prod.snd (Prod.snd (Prod.snd y34))) ∧ true = true ∧ ((0 : Nat) = (0 : Nat) ∧ n = n ∧ c = c) ∧ z0 = z0 ∧ z33 = Prod.fst y34 ∧ (R = R ∧ c = c ∧ false = false) ∧ (U.nilL = U.nilL ∧ (0 : Nat) = (0 : Nat) ∧ false = false) ∧ (L'30 = Prod.fst (Prod.snd y34) ∧ c'32 = Prod.snd (Prod.snd (Prod.snd y34)) ∧ false = false) ∧ U.psI R n k v ((1 : Nat)) (Prod.fst y34) (Prod.fst (Prod.snd y34)) (Prod.fst (Prod.snd (Prod.snd y34))) (Prod.snd (Prod.snd (Prod.snd y34))) ∧ Int.toNat (↑n : Int) - Int.toNat (Prod.fst y34) < Int.toNat (↑n : Int) - Int.toNat (Prod.fst x26)) ∧ (¬¬z28 = k → ∀ (z35 : Int), z35 = IntKind.wrap IntKind.i64 (Prod.fst x26 + (1 : Int)) → ∃ (y36 : Int × Rws × Nat × Nat), k = k ∧ v = v ∧ ((0 : Nat) = (0 : Nat) ∧ Prod.fst (Prod.snd (Prod.snd x26)) = Prod.fst (Prod.snd (Prod.snd y36)) ∧ Prod.snd (Prod.snd (Prod.snd x26)) = Prod.snd (Prod.snd (Prod.snd y36))) ∧ true = true ∧ ((0 : Nat) = (0 : Nat) ∧ n = n ∧ c = c) ∧ z0 = z0 ∧ z35 = Prod.fst y36 ∧ (R = R ∧ c = c ∧ false = false) ∧ (U.nilL = U.nilL ∧ (0 : Nat) = (0 : Nat) ∧ false = false) ∧ (Prod.fst (Prod.snd x26) = Prod.fst (Prod.snd y36) ∧ Prod.snd (Prod.snd (Prod.snd x26)) = Prod.snd (Prod.snd (Prod.snd y36)) ∧ false = false) ∧ U.psI R n k v ((1 : Nat)) (Prod.fst y36) (Prod.fst (Prod.snd y36)) (Prod.fst (Prod.snd (Prod.snd y36))) (Prod.snd (Prod.snd (Prod.snd y36))) ∧ Int.toNat (↑n : Int) - Int.toNat (Prod.fst y36) < Int.toNat (↑n : Int) - Int.toNat (Prod.fst x26))) ∧ (¬Prod.fst x26 < z0 → K (Sum.inl (Sum.inl (Sum.inr (Sum.inr (Sum.inr (Sum.inr (Sum.inr (Sum.inr (Sum.inr (Sum.inr (Sum.inr (Sum.inr (Sum.inr (Sum.inl { a := (1 : Nat), u := (2 : Nat), o := (0 : Nat), n := Prod.fst (Prod.snd (Prod.snd x26)), c := Prod.snd (Prod.snd (Prod.snd x26)) })))))))))))))) { heap := [], ints := [], opqs := (0 : Nat), arrs := [some { elem := (29 : TypeId), k := AK.o (Obj.rows [CK.s, CK.n IntKind.i64] R), l := [], cap := c, ro := false }, some { elem := (29 : TypeId), k := AK.o (Obj.rows [CK.s, CK.n IntKind.i64] (Prod.fst (Prod.snd x26))), l := [], cap := Prod.snd (Prod.snd (Prod.snd x26)), ro := false }], junks := (0 : Nat) })) := by kernel_rfl
end Go.Proofs.Ytfiadoboagpgkaa
end

section
set_option linter.unusedVariables false
set_option linter.unusedSimpArgs false
set_option maxRecDepth 10000
namespace Go.Proofs.Ytfiadoboagpgkaa
open Go Reck Ost
/-- The rows of pairs. -/
def U.pr (P : SSP) : Rws := P.map fun p => [.s p.1, .i p.2.v0]
theorem pr_len (P : SSP) : (U.pr P).length = P.length := by simp [U.pr]
theorem pr_row {P : SSP} {j : Nat} (h : j < P.length) : (U.pr P).getD j [] = [.s P[j].1, .i P[j].2.v0] := by
  rw [List.getD_eq_getElem?_getD]; simp [U.pr, h]
theorem pr_k {P : SSP} {j : Nat} (h : j < P.length) : U.fs (U.pr P) j 0 = P[j].1 := by
  unfold U.fs; rw [pr_row h]; rfl
theorem pr_v {P : SSP} {j : Nat} (h : j < P.length) : U.fi (U.pr P) j 1 = P[j].2.v0 := by
  unfold U.fi; rw [pr_row h]; rfl
theorem pGet_run (K : AV → St → Prop) (P : SSP) (n c : Nat) (k : List Int) (hn : n = P.length) (hs : n ≤ 100000) (hp : U.ssSrt P)
    (hT : ∀ v0 : Int, U.ssHasE P k v0 → K (ssge v0 true) (prSt (U.pr P) c)) (hF : ¬ U.ssHasK P k → K (ssge 0 false) (prSt (U.pr P) c)) :
    runR invE1 tbl0 15 [cell (rslC ⟨0, 2, 0, n, c⟩), cell (strC k)] (prSt (U.pr P) c) K := by
  rw [pGet_vc]
  intro z0 h0
  constructor
  · refine ⟨0, ?_⟩
    repeat' (first | exact rfl | with_reducible apply And.intro)
    exact ⟨Int.le_refl _, by omega, fun m hm => by omega⟩
  rintro i ⟨i1, i2, i3⟩
  refine ⟨fun hi => ⟨by omega, fun j hj => ⟨by rw [pr_len]; omega, ?_⟩⟩, fun hi => ?_⟩
  · have hjl : j < P.length := by omega
    rw [pr_k hjl, show (0 + 1 : Nat) = 1 from rfl, pr_v hjl]
    rintro _ rfl _ rfl
    refine ⟨fun g => ?_, fun g z6 h6 => ?_⟩
    · exact hT _ ⟨by rw [← g]; exact List.getElem_mem hjl⟩
    · have e6 := iw h6 (by omega)
      refine ⟨z6, ?_⟩
      repeat' (first | exact rfl | with_reducible apply And.intro)
      · refine ⟨by omega, by omega, fun m hm => ?_⟩
        by_cases e : m = j
        · rw [e, pr_k hjl]; exact g
        · exact i3 m (by omega)
      · omega
  · refine hF fun ⟨e, he⟩ => ?_
    obtain ⟨m, hm⟩ := List.getElem?_of_mem he
    obtain ⟨hl, hm⟩ := List.getElem?_eq_some_iff.1 hm
    exact i3 m (by omega) (by rw [pr_k hl, hm])
theorem pVals_run (K : AV → St → Prop) (P : SSP) (n c : Nat) (hn : n = P.length) (hs : n ≤ 100000)
    (hK : ∀ (O : List Int) (r co : Nat), O = P.map (fun p => p.2.v0) → r = n → r ≤ co → O.length = r → K (cell (aslC ⟨1, 0, r, co⟩)) ⟨[], [], 0, [some (prB (U.pr P) c), some ⟨3, .n .i64, O, co, false⟩], 0⟩) :
    runR invE1 tbl0 7 [cell (rslC ⟨0, 2, 0, n, c⟩)] (prSt (U.pr P) c) K := by
  rw [pVals_vc]
  intro z0 h0
  constructor
  · refine ⟨(0, ([], (0, 0))), ?_⟩
    repeat' (first | exact rfl | with_reducible apply And.intro)
    exact ⟨Int.le_refl _, by dsimp only; omega, rfl, rfl, by decide, by decide⟩
  rintro ⟨i, O, q, c'⟩ ⟨i1, i2, i3, i4, i5, i6⟩
  dsimp only at i1 i2 i3 i4 i5 i6 ⊢
  refine ⟨fun hi => ⟨by omega, fun j hj => ⟨by rw [pr_len]; omega, ?_⟩⟩, fun hi => ?_⟩
  · have hjl : j < P.length := by omega
    rintro _ rfl _ rfl
    refine ⟨⟨by omega, by omega⟩, trivial, by omega, by decide, fun l' n' c1 hl hn' hc z9 h9 => ?_⟩
    have e9 := iw h9 (by omega)
    rw [List.drop_zero, i4, List.take_length] at hl
    refine ⟨(z9, (l', (n', c1))), ?_⟩
    repeat' (first | exact rfl | with_reducible apply And.intro)
    · refine ⟨by dsimp only; omega, by dsimp only; omega, ?_, ?_, hc, by dsimp only; omega⟩
      · dsimp only
        rw [show z9.toNat = j + 1 by omega, List.range_succ, List.map_append, hl, i3, show i.toNat = j by omega]
        rfl
      · dsimp only
        rw [hl, List.length_append, hn', i4]; rfl
    · dsimp only; omega
  · have e : i.toNat = P.length := by omega
    have hq : q = n := by rw [i4, i3, List.length_map, List.length_range]; omega
    refine hK O q c' ?_ hq i5 i4.symm
    rw [i3, e]
    refine List.ext_getElem (by simp) fun m h1 h2 => ?_
    simp only [List.length_map, List.length_range] at h1 h2
    simp only [List.getElem_map, List.getElem_range]
    exact pr_v h2
end Go.Proofs.Ytfiadoboagpgkaa
end

section
set_option linter.unusedVariables false
set_option linter.unusedSimpArgs false
set_option maxRecDepth 10000
namespace Go.Proofs.Ytfiadoboagpgkaa
open Go Reck Ost
def U.nk (k : List Int) (p : List Int × SSv) : Bool := !decide (p.1 = k)
theorem pr_filter (k : List Int) (P : SSP) : (U.pr P).filter (fun r => !decide (rwS r = k)) = U.pr (P.filter (U.nk k)) := by
  unfold U.pr
  rw [List.filter_map]
  rfl
theorem pr_take (P : SSP) (j : Nat) : (U.pr P).take j = U.pr (P.take j) := by
  unfold U.pr; rw [List.map_take]
theorem take_one {P : SSP} {j : Nat} (h : j < P.length) : P.take (j + 1) = P.take j ++ [P[j]] := by
  rw [List.take_add_one, List.getElem?_eq_getElem h]; rfl
theorem pDel_run (K : AV → St → Prop) (P : SSP) (n c : Nat) (k : List Int) (hn : n = P.length) (hs : n ≤ 100000)
    (hK : ∀ (P' : SSP) (q c' : Nat), P' = P.filter (U.nk k) → q = U.sslen P' → q ≤ c' → q ≤ n → K (cell (rslC ⟨1, 2, 0, q, c'⟩)) ⟨[], [], 0, [some (prB (U.pr P) c), some (prB (U.pr P') c')], 0⟩) :
    runR invE1 tbl0 20 [cell (rslC ⟨0, 2, 0, n, c⟩), cell (strC k)] (prSt (U.pr P) c) K := by
  rw [pDel_vc]
  intro z0 h0
  constructor
  · refine ⟨(0, ([], (0, 0))), ?_⟩
    repeat' (first | exact rfl | with_reducible apply And.intro)
    exact ⟨Int.le_refl _, by dsimp only; omega, rfl, rfl, by decide, by decide⟩
  rintro ⟨i, O, q, c'⟩ ⟨i1, i2, i3, i4, i5, i6⟩
  dsimp only at i1 i2 i3 i4 i5 i6 ⊢
  rw [pr_take, pr_filter] at i3
  refine ⟨fun hi => ⟨by omega, fun j hj => ⟨by rw [pr_len]; omega, ?_⟩⟩, fun hi => ?_⟩
  · have hjl : j < P.length := by omega
    rw [show i.toNat = j by omega] at i3
    rw [pr_k hjl, show (0 + 1 : Nat) = 1 from rfl, pr_v hjl]
    rintro _ rfl _ rfl
    refine ⟨fun g => ⟨⟨by omega, by omega⟩, trivial, by omega, by decide, fun l' n' c1 hl hn' hc z9 h9 => ?_⟩, fun g z9 h9 => ?_⟩
    · have e9 := iw h9 (by omega)
      rw [List.drop_zero, i4, List.take_length] at hl
      refine ⟨(z9, (l', (n', c1))), ?_⟩
      repeat' (first | exact rfl | with_reducible apply And.intro)
      · refine ⟨by dsimp only; omega, by dsimp only; omega, ?_, ?_, by dsimp only; omega, hc⟩
        · dsimp only
          rw [pr_take, pr_filter, show z9.toNat = j + 1 by omega, take_one hjl, List.filter_append, List.filter_cons_of_pos (by unfold U.nk; simp only [Bool.not_eq_true', decide_eq_false_iff_not]; exact g), hl, i3]
          unfold U.pr
          rw [List.map_append]; rfl
        · dsimp only
          rw [hl, List.length_append, hn', i4]; rfl
      · dsimp only; omega
    · have e9 := iw h9 (by omega)
      have g := Classical.not_not.1 g
      refine ⟨(z9, (O, (q, c'))), ?_⟩
      repeat' (first | exact rfl | with_reducible apply And.intro)
      · refine ⟨by dsimp only; omega, by dsimp only; omega, ?_, i4, by dsimp only; omega, i6⟩
        dsimp only
        rw [pr_take, pr_filter, show z9.toNat = j + 1 by omega, take_one hjl, List.filter_append, List.filter_cons_of_neg (by unfold U.nk; rw [decide_eq_true g]; decide), i3, List.filter_nil, List.append_nil]
      · dsimp only; omega
  · have e : i.toNat = P.length := by omega
    rw [e, List.take_length] at i3
    subst i3
    exact hK _ q c' rfl (by rw [i4, pr_len]; rfl) i6 (by omega)
end Go.Proofs.Ytfiadoboagpgkaa
end

section
set_option linter.unusedVariables false
set_option linter.unusedSimpArgs false
set_option maxRecDepth 10000
namespace Go.Proofs.Ytfiadoboagpgkaa
open Go Reck Ost
theorem ss_own {P : SSP} (hs : U.ssSrt P) (hb : P.length ≤ 1000000) : U.ssshI P.length P.length (U.ssks P) P.length (U.ssvs P) P := by
  refine ⟨⟨?_, by simp [U.ssks], Nat.le_refl _, hb⟩, ⟨?_, by simp [U.ssvs], Nat.le_refl _, hb⟩, hs⟩
  · rw [List.take_of_length_le (by simp [U.ssks])]
  · rw [List.take_of_length_le (by simp [U.ssvs])]
theorem pr_t1 {P : SSP} {j : Nat} (h : j < P.length) : (U.pr P).take (j + 1) = (U.pr P).take j ++ [[.s P[j].1, .i P[j].2.v0]] := by
  rw [pr_take P (j + 1), pr_take P j, take_one h]
  unfold U.pr
  rw [List.map_append]; rfl
theorem srt_at {P : SSP} (hs : U.ssSrt P) {i j : Nat} (hij : i < j) (hj : j < P.length) : LtS (P[i]'(by omega)).1 P[j].1 :=
  List.pairwise_iff_getElem.1 hs.out i j (by omega) hj hij
theorem ps_q {P : SSP} {n q c : Nat} {k : List Int} {v i : Int} {O : Rws} {j : Nat} (hI : U.psI (U.pr P) n k v 0 i O q c) (hj : j ≤ P.length) (hij : i = j) : q = j := by
  obtain ⟨⟨_, _, h3, _⟩, h, _⟩ := hI
  rw [h3, (h rfl).2, List.length_take, pr_len]; omega
theorem ps_A {P : SSP} {n q c : Nat} {k : List Int} {v i : Int} {O : Rws} {j : Nat} (hI : U.psI (U.pr P) n k v 0 i O q c) (hj : j < P.length) (hij : i = j) (hn : n = P.length) (g : ¬ LtS P[j].1 k) (g2 : ¬ P[j].1 = k)
    {O' : Rws} {q' c' : Nat} {z : Int} (hz : z = i + 1) (hO : O' = O ++ [[.s k, .i v]] ++ [[.s P[j].1, .i P[j].2.v0]]) (hq : q' = q + 2) (hc : q' ≤ c') : U.psI (U.pr P) n k v 1 z O' q' c' := by
  have hqj := ps_q hI (by omega) hij
  obtain ⟨⟨_, _, h3, _⟩, h, _⟩ := hI
  obtain ⟨h1, h2⟩ := h rfl
  refine ⟨⟨by omega, by omega, by rw [hO, List.length_append, List.length_append, ← h3, hq]; rfl, by omega, hc⟩, fun h => by omega, fun _ => ⟨j, by omega, fun m hm => h1 m (by omega), by rw [pr_k hj]; exact g, .inr ⟨by rw [pr_k hj]; exact g2, ?_⟩⟩⟩
  rw [show z.toNat = j + 1 by omega, pr_t1 hj, List.drop_append_of_le_length (by rw [List.length_take, pr_len]; omega), List.drop_of_length_le (by rw [List.length_take]; omega), hO, h2, show i.toNat = j by omega]
  rfl
theorem ps_B {P : SSP} {n q c : Nat} {k : List Int} {v i : Int} {O : Rws} {j : Nat} (hI : U.psI (U.pr P) n k v 0 i O q c) (hj : j < P.length) (hij : i = j) (hn : n = P.length) (g : ¬ LtS P[j].1 k) (g2 : P[j].1 = k)
    {O' : Rws} {q' c' : Nat} {z : Int} (hz : z = i + 1) (hO : O' = O ++ [[.s k, .i v]]) (hq : q' = q + 1) (hc : q' ≤ c') : U.psI (U.pr P) n k v 1 z O' q' c' := by
  have hqj := ps_q hI (by omega) hij
  obtain ⟨⟨_, _, h3, _⟩, h, _⟩ := hI
  obtain ⟨h1, h2⟩ := h rfl
  refine ⟨⟨by omega, by omega, by rw [hO, List.length_append, ← h3, hq]; rfl, by omega, hc⟩, fun h => by omega, fun _ => ⟨j, by omega, fun m hm => h1 m (by omega), by rw [pr_k hj]; exact g, .inl ⟨by rw [pr_k hj]; exact g2, ?_⟩⟩⟩
  rw [show z.toNat = j + 1 by omega, List.drop_of_length_le (by rw [List.length_take]; omega), List.append_nil, hO, h2, show i.toNat = j by omega]
theorem ps_C {P : SSP} {n q c : Nat} {k : List Int} {v i : Int} {O : Rws} {j : Nat} (hI : U.psI (U.pr P) n k v 0 i O q c) (hj : j < P.length) (hij : i = j) (hn : n = P.length) (g : LtS P[j].1 k)
    {O' : Rws} {q' c' : Nat} {z : Int} (hz : z = i + 1) (hO : O' = O ++ [[.s P[j].1, .i P[j].2.v0]]) (hq : q' = q + 1) (hc : q' ≤ c') : U.psI (U.pr P) n k v 0 z O' q' c' := by
  have hqj := ps_q hI (by omega) hij
  obtain ⟨⟨_, _, h3, _⟩, h, _⟩ := hI
  obtain ⟨h1, h2⟩ := h rfl
  refine ⟨⟨by omega, by omega, by rw [hO, List.length_append, ← h3, hq]; rfl, by omega, hc⟩, fun _ => ⟨fun m hm => ?_, ?_⟩, fun h => by omega⟩
  · by_cases e : m = j
    · rw [e, pr_k hj]; exact g
    · exact h1 m (by omega)
  · rw [show z.toNat = j + 1 by omega, pr_t1 hj, hO, h2, show i.toNat = j by omega]
theorem ps_E {P : SSP} {n q c : Nat} {k : List Int} {v i : Int} {O : Rws} {j : Nat} (hI : U.psI (U.pr P) n k v 1 i O q c) (hj : j < P.length) (hij : i = j) (hn : n = P.length)
    {O' : Rws} {q' c' : Nat} {z : Int} (hz : z = i + 1) (hO : O' = O ++ [[.s P[j].1, .i P[j].2.v0]]) (hq : q' = q + 1) (hc : q' ≤ c') : U.psI (U.pr P) n k v 1 z O' q' c' := by
  obtain ⟨⟨_, _, h3, h4, _⟩, _, h⟩ := hI
  obtain ⟨y, y1, y2, y3, y4⟩ := h rfl
  refine ⟨⟨by omega, by omega, by rw [hO, List.length_append, ← h3, hq]; rfl, by omega, hc⟩, fun h => by omega, fun _ => ⟨y, by omega, y2, y3, ?_⟩⟩
  rw [show i.toNat = j by omega] at y4
  rw [show z.toNat = j + 1 by omega, pr_t1 hj, List.drop_append_of_le_length (by rw [List.length_take, pr_len]; omega), List.drop_append_of_le_length (by rw [List.length_take, pr_len]; omega)]
  rcases y4 with ⟨e, y4⟩ | ⟨e, y4⟩
  · exact .inl ⟨e, by rw [hO, y4]; simp only [List.append_assoc]⟩
  · exact .inr ⟨e, by rw [hO, y4]; simp only [List.append_assoc]⟩
theorem ps_F {P : SSP} {n q c : Nat} {k : List Int} {v i : Int} {O : Rws} {j : Nat} (hs : U.ssSrt P) (hI : U.psI (U.pr P) n k v 1 i O q c) (hj : j < P.length) (hij : i = j) : ¬ P[j].1 = k := by
  intro e
  obtain ⟨y, y1, y2, y3, y4⟩ := hI.yes rfl
  have := srt_at hs (show y < j by omega) hj
  rw [pr_k (by omega)] at y3
  rw [e] at this
  exact y3 this
theorem ps_no {P : SSP} {n q c : Nat} {k : List Int} {v i : Int} {O : Rws} (hs : U.ssSrt P) (hb : P.length ≤ 100000) (hI : U.psI (U.pr P) n k v 0 i O q c) (hi : i = P.length) :
    ∃ P', U.ssPut P k ⟨v⟩ P' ∧ U.pr P' = O ++ [[.s k, .i v]] ∧ U.sslen P' = q + 1 := by
  have hq := ps_q hI (Nat.le_refl _) hi
  obtain ⟨h1, h2⟩ := hI.no rfl
  have ho := ss_own hs (by omega)
  have ha : U.ssAt (U.ssks P) P.length k (P.length : Nat) := ⟨by omega, fun m hm => by
    have hm' : m < P.length := by omega
    have := h1 m (by omega)
    rw [pr_k hm'] at this
    rw [sskey_at ho (List.getElem?_eq_getElem hm')]; exact this, fun m a b => by omega⟩
  have hk : ¬ U.ssHasK P k := fun g => by have := ((sshas_iff ho ha).2 g).out.1; omega
  have := (ssput_non ho ha hk ⟨v⟩).1
  rw [List.take_length, List.drop_length, List.append_nil] at this
  refine ⟨_, this, ?_, by simp [U.sslen, hq]⟩
  rw [h2, hi, Int.toNat_natCast, List.take_of_length_le (by rw [pr_len]; omega)]
  simp [U.pr]
theorem ps_yes {P : SSP} {n q c : Nat} {k : List Int} {v i : Int} {O : Rws} (hs : U.ssSrt P) (hb : P.length ≤ 100000) (hI : U.psI (U.pr P) n k v 1 i O q c) (hi : i = P.length) :
    ∃ P', U.ssPut P k ⟨v⟩ P' ∧ U.pr P' = O ∧ U.sslen P' = q := by
  obtain ⟨⟨_, _, h3, _⟩, _, h⟩ := hI
  obtain ⟨y, y1, y2, y3, y4⟩ := h rfl
  have hy : y < P.length := by omega
  have ho := ss_own hs (by omega)
  rw [pr_k hy] at y3 y4
  have ha : U.ssAt (U.ssks P) P.length k (y : Nat) := ⟨by omega, fun m hm => by
      have hm' : m < P.length := by omega
      have := y2 m (by omega)
      rw [pr_k hm'] at this
      rw [sskey_at ho (List.getElem?_eq_getElem hm')]; exact this, fun m a b => by
      rw [sskey_at ho (List.getElem?_eq_getElem b)]
      by_cases e : m = y
      · subst e; exact y3
      · exact fun g => y3 (ssltS_tr (srt_at hs (show y < m by omega) b) g)⟩
  have tk : (U.pr P).take P.length = U.pr P := List.take_of_length_le (by rw [pr_len]; exact Nat.le_refl _)
  rw [hi, Int.toNat_natCast, tk] at y4
  rcases y4 with ⟨e, y4⟩ | ⟨e, y4⟩
  · have hk : U.ssHasAt (U.ssks P) P.length k (y : Nat) := ⟨by omega, by rw [Int.toNat_natCast, sskey_at ho (List.getElem?_eq_getElem hy)]; exact e⟩
    have := (ssput_has ho ha hk ⟨v⟩).1
    have hO : U.pr (P.set y (k, ⟨v⟩)) = O := by
      rw [y4, List.set_eq_take_append_cons_drop, if_pos hy]
      simp [U.pr, List.map_take, List.map_drop]
    exact ⟨_, this, hO, by rw [h3, ← hO, pr_len]; rfl⟩
  · have hk : ¬ U.ssHasK P k := fun g => by
      have := ((sshas_iff ho ha).2 g).out.2
      rw [Int.toNat_natCast, sskey_at ho (List.getElem?_eq_getElem hy)] at this
      exact e this
    have := (ssput_non ho ha hk ⟨v⟩).1
    have hO : U.pr (P.take y ++ [(k, ⟨v⟩)] ++ P.drop y) = O := by
      rw [y4]; simp [U.pr, List.map_take, List.map_drop]
    exact ⟨_, this, hO, by rw [h3, ← hO, pr_len]; rfl⟩
theorem ssPut_len {P P' : SSP} {k : List Int} {e : SSv} (h : U.ssPut P k e P') : P'.length ≤ P.length + 1 := by
  by_cases g : U.ssHasK P k
  · have := h.has g; omega
  · have := h.non g; omega
theorem pSet_run (K : AV → St → Prop) (P : SSP) (n c : Nat) (k : List Int) (v : Int) (hn : n = P.length) (hs : n ≤ 100000) (hp : U.ssSrt P)
    (hK : ∀ (P' : SSP) (q c' : Nat), U.ssPut P k ⟨v⟩ P' → q = U.sslen P' → q ≤ c' → q ≤ n + 1 → K (cell (rslC ⟨1, 2, 0, q, c'⟩)) ⟨[], [], 0, [some (prB (U.pr P) c), some (prB (U.pr P') c')], 0⟩) :
    runR invE1 tbl0 17 [cell (rslC ⟨0, 2, 0, n, c⟩), cell (strC k), xi .i64 v] (prSt (U.pr P) c) K := by
  rw [pSet_vc]
  intro z0 h0
  refine ⟨?_, ?_, ?_⟩
  · refine ⟨(0, ([], (0, 0))), ?_⟩
    repeat' (first | exact rfl | with_reducible apply And.intro)
    exact ⟨⟨Int.le_refl _, by dsimp only; omega, rfl, by decide, by decide⟩, fun _ => ⟨fun m hm => by dsimp only at hm; omega, rfl⟩, fun h => by omega⟩
  · rintro ⟨i, O, q, c'⟩ hI
    dsimp only at hI ⊢
    obtain ⟨i1, i2, i4, i5, i6⟩ := hI.out
    refine ⟨fun hi => ⟨by omega, fun j hj => ⟨by rw [pr_len]; omega, ?_⟩⟩, fun hi => ?_⟩
    · have hjl : j < P.length := by omega
      have hij : i = j := by omega
      rw [pr_k hjl, show (0 + 1 : Nat) = 1 from rfl, pr_v hjl]
      rintro _ rfl _ rfl
      refine ⟨fun g => ⟨⟨by omega, by omega⟩, trivial, by omega, by decide, fun l1 n1 c1 hl hn1 hc1 => ?_⟩, fun g => ?_⟩
      · rw [List.drop_zero, i4, List.take_length] at hl
        have hl1 : l1.length = n1 := by rw [hl, List.length_append, hn1, i4]; rfl
        refine ⟨fun g2 => ⟨⟨by omega, by omega⟩, trivial, by omega, by decide, fun l2 n2 c2 hl2 hn2 hc2 z9 h9 => ?_⟩, fun g2 z9 h9 => ?_⟩
        · have e9 := iw h9 (by omega)
          rw [List.drop_zero, ← hl1, List.take_length] at hl2
          have := ps_A (O' := l2) hI hjl hij hn g g2 e9 (by rw [hl2, hl]; rfl) (show n2 = q + 2 by omega) hc2
          refine ⟨(z9, (l2, (n2, c2))), ?_⟩
          repeat' (first | exact rfl | exact this | with_reducible apply And.intro)
          dsimp only; omega
        · have e9 := iw h9 (by omega)
          have := ps_B (O' := l1) hI hjl hij hn g (Classical.not_not.1 g2) e9 (by rw [hl]; rfl) hn1 hc1
          refine ⟨(z9, (l1, (n1, c1))), ?_⟩
          repeat' (first | exact rfl | exact this | with_reducible apply And.intro)
          dsimp only; omega
      · have g := Classical.not_not.1 g
        refine ⟨fun g2 => ⟨⟨by omega, by omega⟩, trivial, by omega, by decide, fun l1 n1 c1 hl hn1 hc1 z9 h9 => ?_⟩, fun g2 z9 h9 => ?_⟩
        · have e9 := iw h9 (by omega)
          rw [List.drop_zero, i4, List.take_length] at hl
          have := ps_C (O' := l1) hI hjl hij hn g e9 (by rw [hl]; rfl) hn1 hc1
          refine ⟨(z9, (l1, (n1, c1))), ?_⟩
          repeat' (first | exact rfl | exact this | with_reducible apply And.intro)
          dsimp only; omega
        · have g2 := Classical.not_not.1 g2
          rw [g2] at g
          exact (ssltS_irr g).elim
    · obtain ⟨P', p1, p2, p3⟩ := ps_no hp (by omega) hI (by omega)
      refine ⟨⟨by omega, by omega⟩, trivial, by omega, by decide, fun l1 n1 c1 hl hn1 hc1 => ?_⟩
      rw [List.drop_zero, i4, List.take_length] at hl
      have hl2 : l1 = U.pr P' := by rw [hl, p2]; rfl
      subst hl2
      exact hK P' n1 c1 p1 (by omega) hc1 (by have := ssPut_len p1; unfold U.sslen at p3; omega)
  · rintro ⟨i, O, q, c'⟩ hI
    dsimp only at hI ⊢
    obtain ⟨i1, i2, i4, i5, i6⟩ := hI.out
    refine ⟨fun hi => ⟨by omega, fun j hj => ⟨by rw [pr_len]; omega, ?_⟩⟩, fun hi => ?_⟩
    · have hjl : j < P.length := by omega
      have hij : i = j := by omega
      rw [pr_k hjl, show (0 + 1 : Nat) = 1 from rfl, pr_v hjl]
      rintro _ rfl _ rfl
      refine ⟨fun g2 => ⟨⟨by omega, by omega⟩, trivial, by omega, by decide, fun l1 n1 c1 hl hn1 hc1 z9 h9 => ?_⟩, fun g2 => (ps_F hp hI hjl hij (Classical.not_not.1 g2)).elim⟩
      have e9 := iw h9 (by omega)
      rw [List.drop_zero, i4, List.take_length] at hl
      have := ps_E (O' := l1) hI hjl hij hn e9 (by rw [hl]; rfl) hn1 hc1
      refine ⟨(z9, (l1, (n1, c1))), ?_⟩
      repeat' (first | exact rfl | exact this | with_reducible apply And.intro)
      dsimp only; omega
    · obtain ⟨P', p1, p2, p3⟩ := ps_yes hp (by omega) hI (by omega)
      subst p2
      have hq := ssPut_len p1
      exact hK P' q c' p1 p3.symm i6 (by unfold U.sslen at p3; omega)
end Go.Proofs.Ytfiadoboagpgkaa
end

section
namespace Go.Proofs.Ytfiadoboagpgkaa
open Go Reck Ost
set_option linter.unusedVariables false
set_option maxRecDepth 100000
/-- The numbers of rows of one. -/
def U.rsq (R : Rws) (n : Nat) : List Int := (List.range n).map fun m => U.fi R m 0
def ssI (L : List Int) (cap : Nat) : ABlk := ⟨3, .n .i64, L, cap, false⟩
structure U.sm2 (A B : List Int) (i : Int) : Prop where
  out : 0 ≤ i ∧ i ≤ A.length ∧ A.take i.toNat = B.take i.toNat
def ssNums (σ : St) (a : Nat) : List Int := match getArr σ a with
  | some b => b.l
  | none => []
def seqAt (tm : List AV) (σ : St) (t : Nat) : List Int := match rslX (tm.getD t (lit undef)) with
  | some r => U.rsq (rowsAt σ r.a) r.n
  | none => ssNums σ (slotS tm t).a
def s2Inv (tm : List AV) (σ : St) : Inv where
  X := Int
  tags := [0]
  tag _ _ := 0
  J := [2, 3, 4, 5, 6, 7, 8, 9, 10, 11, 14, 15, 16, 17, 18, 19, 20, 21, 22, 23, 24, 25]
  val _ x := [(13, xi .i64 x)]
  st _ _ σ' := σ'
  I _ x := U.sm2 (seqAt tm σ 0) (seqAt tm σ 1) x
  m _ x := (slotI tm 12).toNat - x.toNat
  ren := noRen
def invE5 : InvF := fun c tm σ => match tm.length, firstReg c with
  | 26, some 4 => some (s2Inv tm σ)
  | _, _ => none
--PLAIN
theorem sameI_vc (K : AV → St → Prop) (A B : List Int) (n c q d : Nat) : (runR invE5 tbl0 5 [cell (aslC ⟨0, 0, n, c⟩), cell (aslC ⟨1, 0, q, d⟩)] ⟨[], [], 0, [some (ssI A c), some (ssI B d)], 0⟩ K) = (∀ (z0 : Int), z0 = (↑n : Int) → ∀ (z1 : Int), z1 = (↑q : Int) → (¬z0 = z1 → K (Sum.inl (Sum.inl (Sum.inl (Value.bool false)))) { heap := [], ints := [], opqs := (0 : Nat), arrs := [some { elem := (3 : Nat), k := AK.n IntKind.i64, l := A, cap := c, ro := false }, some { elem := (3 : Nat), k := AK.n IntKind.i64, l := B, cap := d, ro := false }], junks := (0 : Nat) }) ∧ (¬¬z0 = z1 → ∀ (z2 : Int), z2 = (↑n : Int) → (∃ (y3 : Int), ((0 : Nat) = (0 : Nat) ∧ n = n ∧ c = c) ∧ ((0 : Nat) = (0 : Nat) ∧ q = q ∧ d = d) ∧ z2 = z2 ∧ (0 : Int) = y3 ∧ (A = A ∧ c = c ∧ false = false) ∧ (B = B ∧ d = d ∧ false = false) ∧ U.sm2 A B y3) ∧ ∀ (x4 : Int), U.sm2 A B x4 → (x4 < z2 → ((0 : Int) ≤ x4 ∧ x4 < (↑n : Int)) ∧ ∀ (j5 : Nat), (↑j5 : Int) = (↑((0 : Nat)) : Int) + x4 → j5 < List.length A ∧ ∀ (z6 : Int), z6 = List.getD A j5 (0 : Int) → ((0 : Int) ≤ x4 ∧ x4 < (↑q : Int)) ∧ ∀ (j7 : Nat), (↑j7 : Int) = (↑((0 : Nat)) : Int) + x4 → j7 < List.length B ∧ ∀ (z8 : Int), z8 = List.getD B j7 (0 : Int) → (¬z6 = z8 → K (Sum.inl (Sum.inl (Sum.inl (Value.bool false)))) { heap := [], ints := [], opqs := (0 : Nat), arrs := [some { elem := (3 : Nat), k := AK.n IntKind.i64, l := A, cap := c, ro := false }, some { elem := (3 : Nat), k := AK.n IntKind.i64, l := B, cap := d, ro := false }], junks := (0 : Nat) }) ∧ (¬¬z6 = z8 → ∀ (z9 : Int), z9 = IntKind.wrap IntKind.i64 (x4 + (1 : Int)) → ∃ (y10 : Int), ((0 : Nat) = (0 : Nat) ∧ n = n ∧ c = c) ∧ ((0 : Nat) = (0 : Nat) ∧ q = q ∧ d = d) ∧ z2 = z2 ∧ z9 = y10 ∧ (A = A ∧ c = c ∧ false = false) ∧ (B = B ∧ d = d ∧ false = false) ∧ U.sm2 A B y10 ∧ Int.toNat z2 - Int.toNat y10 < Int.toNat z2 - Int.toNat x4)) ∧ (¬x4 < z2 → K (Sum.inl (Sum.inl (Sum.inl (Value.bool true)))) { heap := [], ints := [], opqs := (0 : Nat), arrs := [some { elem := (3 : Nat), k := AK.n IntKind.i64, l := A, cap := c, ro := false }, some { elem := (3 : Nat), k := AK.n IntKind.i64, l := B, cap := d, ro := false }], junks := (0 : Nat) }))) := by kernel_rfl
theorem sameR_vc (K : AV → St → Prop) (R : Rws) (B : List Int) (n c q d : Nat) : (runR invE5 tbl0 5 [cell (rslC ⟨0, 1, 0, n, c⟩), cell (aslC ⟨1, 0, q, d⟩)] ⟨[], [], 0, [some (ssvB R c), some (ssI B d)], 0⟩ K) = (∀ (z0 : Int), z0 = (↑n : Int) → ∀ (z1 : Int), z1 = (↑q : Int) → (¬z0 = z1 → K (Sum.inl (Sum.inl (Sum.inl (Value.bool false)))) { heap := [], ints := [], opqs := (0 : Nat), arrs := [some { elem := (3 : Nat), k := AK.o (Obj.rows [CK.n IntKind.i64] R), l := [], cap := c, ro := false }, some { elem := (3 : Nat), k := AK.n IntKind.i64, l := B, cap := d, ro := false }], junks := (0 : Nat) }) ∧ (¬¬z0 = z1 → ∀ (z2 : Int), z2 = (↑n : Int) → (∃ (y3 : Int), ((0 : Nat) = (0 : Nat) ∧ n = n ∧ c = c) ∧ ((0 : Nat) = (0 : Nat) ∧ q = q ∧ d = d) ∧ z2 = z2 ∧ (0 : Int) = y3 ∧ (R = R ∧ c = c ∧ false = false) ∧ (B = B ∧ d = d ∧ false = false) ∧ U.sm2 (U.rsq R n) B y3) ∧ ∀ (x4 : Int), U.sm2 (U.rsq R n) B x4 → (x4 < z2 → ((0 : Int) ≤ x4 ∧ x4 < (↑n : Int)) ∧ ∀ (j5 : Nat), (↑j5 : Int) = (↑((0 : Nat)) : Int) + x4 → j5 < List.length R ∧ ∀ (z6 : Int), z6 = U.fi R j5 ((0 : Nat)) → ((0 : Int) ≤ x4 ∧ x4 < (↑q : Int)) ∧ ∀ (j7 : Nat), (↑j7 : Int) = (↑((0 : Nat)) : Int) + x4 → j7 < List.length B ∧ ∀ (z8 : Int), z8 = List.getD B j7 (0 : Int) → (¬z6 = z8 → K (Sum.inl (Sum.inl (Sum.inl (Value.bool false)))) { heap := [], ints := [], opqs := (0 : Nat), arrs := [some { elem := (3 : Nat), k := AK.o (Obj.rows [CK.n IntKind.i64] R), l := [], cap := c, ro := false }, some { elem := (3 : Nat), k := AK.n IntKind.i64, l := B, cap := d, ro := false }], junks := (0 : Nat) }) ∧ (¬¬z6 = z8 → ∀ (z9 : Int), z9 = IntKind.wrap IntKind.i64 (x4 + (1 : Int)) → ∃ (y10 : Int), ((0 : Nat) = (0 : Nat) ∧ n = n ∧ c = c) ∧ ((0 : Nat) = (0 : Nat) ∧ q = q ∧ d = d) ∧ z2 = z2 ∧ z9 = y10 ∧ (R = R ∧ c = c ∧ false = false) ∧ (B = B ∧ d = d ∧ false = false) ∧ U.sm2 (U.rsq R n) B y10 ∧ Int.toNat z2 - Int.toNat y10 < Int.toNat z2 - Int.toNat x4)) ∧ (¬x4 < z2 → K (Sum.inl (Sum.inl (Sum.inl (Value.bool true)))) { heap := [], ints := [], opqs := (0 : Nat), arrs := [some { elem := (3 : Nat), k := AK.o (Obj.rows [CK.n IntKind.i64] R), l := [], cap := c, ro := false }, some { elem := (3 : Nat), k := AK.n IntKind.i64, l := B, cap := d, ro := false }], junks := (0 : Nat) }))) := by kernel_rfl
end Go.Proofs.Ytfiadoboagpgkaa
end

section
set_option linter.unusedVariables false
set_option linter.unusedSimpArgs false
set_option maxRecDepth 10000
namespace Go.Proofs.Ytfiadoboagpgkaa
open Go Reck Ost
theorem tk_one {A : List Int} {j : Nat} (h : j < A.length) : A.take (j + 1) = A.take j ++ [A.getD j 0] := by
  rw [List.take_add_one, List.getElem?_eq_getElem h, List.getD_eq_getElem?_getD, List.getElem?_eq_getElem h]; rfl
theorem rsq_len (R : Rws) (n : Nat) : (U.rsq R n).length = n := by simp [U.rsq]
theorem rsq_at {R : Rws} {n j : Nat} (h : j < n) : (U.rsq R n).getD j 0 = U.fi R j 0 := by
  rw [List.getD_eq_getElem?_getD]; simp [U.rsq, h]
/-- The values of a shelf, as numbers. -/
theorem rsq_vs (P : SSP) : U.rsq (U.ssvs P) P.length = P.map fun p => p.2.v0 := by
  refine List.ext_getElem (by simp [U.rsq]) fun m h1 h2 => ?_
  have hm : m < P.length := by simpa using h2
  simp only [U.rsq, List.getElem_map, List.getElem_range]
  unfold U.fi
  rw [List.getD_eq_getElem?_getD]; simp [U.ssvs, hm]; rfl
theorem sm2_step {A B : List Int} {i z : Int} {j : Nat} (h : U.sm2 A B i) (hi : i = j) (hj : j < A.length) (hB : j < B.length) (he : A.getD j 0 = B.getD j 0) (hz : z = i + 1) : U.sm2 A B z := by
  obtain ⟨h1, h2, h3⟩ := h
  refine ⟨by omega, by omega, ?_⟩
  rw [show i.toNat = j by omega] at h3
  rw [show z.toNat = j + 1 by omega, tk_one hj, tk_one hB, h3, he]
theorem sm2_end {A B : List Int} {i : Int} (h : U.sm2 A B i) (hi : ¬ i < A.length) (hl : A.length = B.length) : A = B := by
  obtain ⟨h1, h2, h3⟩ := h
  rwa [show i.toNat = A.length by omega, List.take_length, hl, List.take_length] at h3
theorem sameI_run (K : AV → St → Prop) (A B : List Int) (n c q d : Nat) (hn : A.length = n) (hq : B.length = q) (hs : n ≤ 200000)
    (h1 : A = B → K (lit (.bool true)) ⟨[], [], 0, [some (ssI A c), some (ssI B d)], 0⟩) (h0 : ¬ A = B → K (lit (.bool false)) ⟨[], [], 0, [some (ssI A c), some (ssI B d)], 0⟩) :
    runR invE5 tbl0 5 [cell (aslC ⟨0, 0, n, c⟩), cell (aslC ⟨1, 0, q, d⟩)] ⟨[], [], 0, [some (ssI A c), some (ssI B d)], 0⟩ K := by
  rw [sameI_vc]
  intro z0 hz0 z1 hz1
  refine ⟨fun g => h0 (fun he => g (by rw [hz0, hz1, ← hn, ← hq, he])), fun g z2 hz2 => ⟨?_, ?_⟩⟩
  · refine ⟨0, ?_⟩
    repeat' (first | exact rfl | with_reducible apply And.intro)
    exact ⟨Int.le_refl _, by omega, rfl⟩
  have g : z0 = z1 := Classical.not_not.1 g
  intro x hx
  have hb := hx.out
  refine ⟨fun hlt => ⟨by omega, fun j5 h5 => ⟨by omega, ?_⟩⟩, fun hge => h1 (sm2_end hx (by omega) (by omega))⟩
  rintro _ rfl
  refine ⟨by omega, fun j7 h7 => ⟨by omega, ?_⟩⟩
  rintro _ rfl
  obtain rfl : j7 = j5 := by omega
  refine ⟨fun hne => h0 fun he => hne (by rw [he]), fun heq z9 h9 => ?_⟩
  have e9 := iw h9 (by omega)
  refine ⟨z9, ?_⟩
  repeat' (first | exact rfl | exact sm2_step hx (show x = j7 by omega) (by omega) (by omega) (Classical.not_not.1 heq) e9 | with_reducible apply And.intro)
  omega
theorem sameR_run (K : AV → St → Prop) (R : Rws) (B : List Int) (n c q d : Nat) (hn : n ≤ R.length) (hq : B.length = q) (hs : n ≤ 200000)
    (h1 : U.rsq R n = B → K (lit (.bool true)) ⟨[], [], 0, [some (ssvB R c), some (ssI B d)], 0⟩) (h0 : ¬ U.rsq R n = B → K (lit (.bool false)) ⟨[], [], 0, [some (ssvB R c), some (ssI B d)], 0⟩) :
    runR invE5 tbl0 5 [cell (rslC ⟨0, 1, 0, n, c⟩), cell (aslC ⟨1, 0, q, d⟩)] ⟨[], [], 0, [some (ssvB R c), some (ssI B d)], 0⟩ K := by
  rw [sameR_vc]
  have hr := rsq_len R n
  intro z0 hz0 z1 hz1
  refine ⟨fun g => h0 (fun he => g (by rw [he] at hr; omega)), fun g z2 hz2 => ⟨?_, ?_⟩⟩
  · refine ⟨0, ?_⟩
    repeat' (first | exact rfl | with_reducible apply And.intro)
    exact ⟨Int.le_refl _, by omega, rfl⟩
  have g : z0 = z1 := Classical.not_not.1 g
  intro x hx
  have hb := hx.out
  refine ⟨fun hlt => ⟨by omega, fun j5 h5 => ⟨by omega, ?_⟩⟩, fun hge => h1 (sm2_end hx (by omega) (by omega))⟩
  rintro _ rfl
  refine ⟨by omega, fun j7 h7 => ⟨by omega, ?_⟩⟩
  rintro _ rfl
  obtain rfl : j7 = j5 := by omega
  rw [← rsq_at (R := R) (show j7 < n by omega)]
  refine ⟨fun hne => h0 fun he => hne (by rw [he]), fun heq z9 h9 => ?_⟩
  have e9 := iw h9 (by omega)
  refine ⟨z9, ?_⟩
  repeat' (first | exact rfl | exact sm2_step hx (show x = j7 by omega) (by omega) (by omega) (Classical.not_not.1 heq) e9 | with_reducible apply And.intro)
  omega
end Go.Proofs.Ytfiadoboagpgkaa
end

section
set_option linter.unusedVariables false
set_option linter.unusedSimpArgs false
set_option maxRecDepth 10000
namespace Go.Proofs.Ytfiadoboagpgkaa
open Go Reck Ost
/-- Two sorted lists with the same members are one. -/
theorem srt_eq : ∀ {P Q : SSP}, U.ssSrt P → U.ssSrt Q → (∀ x, x ∈ P ↔ x ∈ Q) → P = Q
  | [], [], _, _, _ => rfl
  | [], b :: Q, _, _, h => by have := (h b).2 (List.mem_cons_self ..); cases this
  | a :: P, [], _, _, h => by have := (h a).1 (List.mem_cons_self ..); cases this
  | a :: P, b :: Q, hp, hq, h => by
    have p1 := List.pairwise_cons.1 hp.out
    have q1 := List.pairwise_cons.1 hq.out
    have e : a = b := by
      rcases List.mem_cons.1 ((h a).1 (List.mem_cons_self ..)) with e | e
      · exact e
      · rcases List.mem_cons.1 ((h b).2 (List.mem_cons_self ..)) with f | f
        · exact f.symm
        · exact (ssltS_irr (ssltS_tr (q1.1 a e) (p1.1 b f))).elim
    subst e
    rw [srt_eq ⟨p1.2⟩ ⟨q1.2⟩ fun x => ?_]
    constructor
    · intro hx
      rcases List.mem_cons.1 ((h x).1 (List.mem_cons_of_mem _ hx)) with e | e
      · subst e; exact (ssltS_irr (p1.1 x hx)).elim
      · exact e
    · intro hx
      rcases List.mem_cons.1 ((h x).2 (List.mem_cons_of_mem _ hx)) with e | e
      · subst e; exact (ssltS_irr (q1.1 x hx)).elim
      · exact e
theorem put_eq {P A B : SSP} {k : List Int} {e : SSv} (h : U.ssPut P k e A) (g : U.ssPut P k e B) : A = B :=
  srt_eq h.srt g.srt fun x => (h.mem x.1 x.2).trans (g.mem x.1 x.2).symm
theorem flt_srt {P : SSP} (hs : U.ssSrt P) (f : List Int × SSv → Bool) : U.ssSrt (P.filter f) := ⟨hs.out.sublist List.filter_sublist⟩
theorem rm_eq {P A : SSP} {k : List Int} (hs : U.ssSrt P) (h : U.ssRm P k A) : A = P.filter (U.nk k) :=
  srt_eq h.srt (flt_srt hs _) fun x => (h.mem x.1 x.2).trans (by simp [List.mem_filter, U.nk])
theorem rm2_eq {P A : SSP} {k l : List Int} (hs : U.ssSrt P) (h : U.ssRm2 P k l A) : A = (P.filter (U.nk k)).filter (U.nk l) :=
  srt_eq h.srt (flt_srt (flt_srt hs _) _) fun x => (h.mem x.1 x.2).trans (by simp only [List.mem_filter, U.nk, Bool.not_eq_true', decide_eq_false_iff_not, and_assoc, ne_eq])
def U.nkF (k : List Int) (P : SSP) : SSP := P.filter (U.nk k)
def prC (a : Option ABlk) : Option (Rws × Nat) := match a with
  | some ⟨29, .o (.rows [.s, .n .i64] R), [], c, false⟩ => some (R, c)
  | _ => none
theorem prC_eq {a : Option ABlk} {R : Rws} {c : Nat} (h : prC a = some (R, c)) : a = some (prB R c) := by
  unfold prC at h
  split at h
  · simp only [Option.some.injEq, Prod.mk.injEq] at h
    obtain ⟨rfl, rfl⟩ := h; rfl
  · cases h
def pqGet : Pat := fun args σ => match args, σ with
  | [l, k], ⟨[], [], 0, [a], 0⟩ => match rslX l, strX k, prC a with
    | some ⟨0, 2, 0, n, cl⟩, some k, some (R, c) => some fun K => ∃ P, (cl = c ∧ R = U.pr P ∧ n = U.sslen P ∧ n ≤ 100000 ∧ U.ssSrt P) ∧ (∀ v0 : Int, U.ssHasE P k v0 → K (ssge v0 true) (prSt R c)) ∧ (¬ U.ssHasK P k → K (ssge 0 false) (prSt R c))
    | _, _, _ => none
  | _, _ => none
theorem pqGet_ok : PatOk 15 pqGet := by
  intro tm σ C h K hK w0 e w hk vs hvs
  unfold pqGet at h
  split at h
  · split at h
    · rename_i hl hkk ha
      simp only [Option.some.injEq] at h; subst h
      obtain ⟨P, ⟨rfl, rfl, h1, h2, h3⟩, h4, h5⟩ := hK
      obtain rfl := prC_eq ha
      obtain rfl := rslX_eq hl
      obtain ⟨x, y, rfl, q1, q2⟩ := twos hvs
      exact knownC noOv names (conOk_ofR tbl0_ok) (pGet_run K P _ _ _ h1 h2 h3 h4 h5) w0 e w hk _ (map2 q1 (as_str hkk q2))
    · cases h
  · cases h
def pqDel : Pat := fun args σ => match args, σ with
  | [l, k], ⟨[], [], 0, [a], 0⟩ => match rslX l, strX k, prC a with
    | some ⟨0, 2, 0, n, cl⟩, some k, some (R, c) => some fun K => ∃ P, (cl = c ∧ R = U.pr P ∧ n = U.sslen P ∧ n ≤ 100000) ∧ ∀ (R' : Rws) (P' : SSP) (q c' : Nat), P' = U.nkF k P → R' = U.pr P' → q = U.sslen P' → q ≤ c' → q ≤ n → K (cell (rslC ⟨1, 2, 0, q, c'⟩)) ⟨[], [], 0, [some (prB R c), some (prB R' c')], 0⟩
    | _, _, _ => none
  | _, _ => none
theorem pqDel_ok : PatOk 20 pqDel := by
  intro tm σ C h K hK w0 e w hk vs hvs
  unfold pqDel at h
  split at h
  · split at h
    · rename_i hl hkk ha
      simp only [Option.some.injEq] at h; subst h
      obtain ⟨P, ⟨rfl, rfl, h1, h2⟩, h3⟩ := hK
      obtain rfl := prC_eq ha
      obtain rfl := rslX_eq hl
      obtain ⟨x, y, rfl, q1, q2⟩ := twos hvs
      exact knownC noOv names (conOk_ofR tbl0_ok) (pDel_run K P _ _ _ h1 h2 fun P' q c' g1 g2 g3 g4 => h3 _ P' q c' g1 rfl g2 g3 g4) w0 e w hk _ (map2 q1 (as_str hkk q2))
    · cases h
  · cases h
def pqVals : Pat := fun args σ => match args, σ with
  | [l], ⟨[], [], 0, [a], 0⟩ => match rslX l, prC a with
    | some ⟨0, 2, 0, n, cl⟩, some (R, c) => some fun K => ∃ P, (cl = c ∧ R = U.pr P ∧ n = U.sslen P ∧ n ≤ 100000) ∧ ∀ (O : List Int) (r co : Nat), O = U.v0s P → r = n → r ≤ co → O.length = r → K (cell (aslC ⟨1, 0, r, co⟩)) ⟨[], [], 0, [some (prB R c), some ⟨3, .n .i64, O, co, false⟩], 0⟩
    | _, _ => none
  | _, _ => none
theorem pqVals_ok : PatOk 7 pqVals := by
  intro tm σ C h K hK w0 e w hk vs hvs
  unfold pqVals at h
  split at h
  · split at h
    · rename_i hl ha
      simp only [Option.some.injEq] at h; subst h
      obtain ⟨P, ⟨rfl, rfl, h1, h2⟩, h3⟩ := hK
      obtain rfl := prC_eq ha
      obtain rfl := rslX_eq hl
      exact knownC noOv names (conOk_ofR tbl0_ok) (pVals_run K P _ _ h1 h2 h3) w0 e w hk _ hvs
    · cases h
  · cases h
def pqSet : Pat := fun args σ => match args, σ with
  | [l, k, v], ⟨[], [], 0, [a], 0⟩ => match rslX l, strX k, aInt v, prC a with
    | some ⟨0, 2, 0, n, cl⟩, some k, some v, some (R, c) => some fun K => ∃ P, (cl = c ∧ R = U.pr P ∧ n = U.sslen P ∧ n ≤ 100000 ∧ U.ssSrt P) ∧ ∀ (R' : Rws) (P' : SSP) (q c' : Nat), U.ssPut P k (⟨v⟩ : SSv) P' → R' = U.pr P' → q = U.sslen P' → q ≤ c' → q ≤ n + 1 → K (cell (rslC ⟨1, 2, 0, q, c'⟩)) ⟨[], [], 0, [some (prB R c), some (prB R' c')], 0⟩
    | _, _, _, _ => none
  | _, _ => none
theorem pqSet_ok : PatOk 17 pqSet := by
  intro tm σ C h K hK w0 e w hk vs hvs
  unfold pqSet at h
  split at h
  · split at h
    · rename_i hl hkk hv ha
      simp only [Option.some.injEq] at h; subst h
      obtain ⟨P, ⟨rfl, rfl, h1, h2, h4⟩, h3⟩ := hK
      obtain rfl := prC_eq ha
      obtain rfl := rslX_eq hl
      obtain ⟨x, y, z, rfl, q1, q2, q3⟩ := threes hvs
      exact knownC noOv names (conOk_ofR tbl0_ok) (pSet_run K P _ _ _ _ h1 h2 h4 fun P' q c' g1 g2 g3 g4 => h3 _ P' q c' g1 rfl g2 g3 g4) w0 e w hk [x, y, z] (by simp only [List.map_cons, List.map_nil]; rw [q1, as_str hkk q2, as_aInt hv q3])
    · cases h
  · cases h
def sstR : Tbl := tblOr (tblIf 15 pqGet) (tblOr (tblIf 20 pqDel) (tblOr (tblIf 7 pqVals) (tblIf 17 pqSet)))
theorem sstR_ok : TblOk Try.prog sstR := tblOr_ok (tblIf_ok pqGet_ok) (tblOr_ok (tblIf_ok pqDel_ok) (tblOr_ok (tblIf_ok pqVals_ok) (tblIf_ok pqSet_ok)))
end Go.Proofs.Ytfiadoboagpgkaa
end

section
set_option linter.unusedVariables false
set_option linter.unusedSimpArgs false
set_option maxRecDepth 10000
namespace Go.Proofs.Ytfiadoboagpgkaa
open Go Reck Ost
def inC (a : Option ABlk) : Option (List Int × Nat) := match a with
  | some ⟨3, .n .i64, L, c, false⟩ => some (L, c)
  | _ => none
theorem inC_eq {a : Option ABlk} {L : List Int} {c : Nat} (h : inC a = some (L, c)) : a = some (ssI L c) := by
  unfold inC at h
  split at h
  · simp only [Option.some.injEq, Prod.mk.injEq] at h
    obtain ⟨rfl, rfl⟩ := h; rfl
  · cases h
def pqSameI : Pat := fun args σ => match args, σ with
  | [l, r], ⟨[], [], 0, [a, b], 0⟩ => match aslX l, aslX r, inC a, inC b with
    | some ⟨0, 0, n, cl⟩, some ⟨1, 0, q, dl⟩, some (A, c), some (B, d) => some fun K => (cl = c ∧ dl = d ∧ A.length = n ∧ B.length = q ∧ n ≤ 200000) ∧ (A = B → K (lit (.bool true)) ⟨[], [], 0, [some (ssI A c), some (ssI B d)], 0⟩) ∧ (¬ A = B → K (lit (.bool false)) ⟨[], [], 0, [some (ssI A c), some (ssI B d)], 0⟩)
    | _, _, _, _ => none
  | _, _ => none
theorem pqSameI_ok : PatOk 5 pqSameI := by
  intro tm σ C h K hK w0 e w hk vs hvs
  unfold pqSameI at h
  split at h
  · split at h
    · rename_i hl hr ha hb
      simp only [Option.some.injEq] at h; subst h
      obtain ⟨⟨rfl, rfl, h1, h2, h3⟩, h4, h5⟩ := hK
      obtain rfl := inC_eq ha
      obtain rfl := inC_eq hb
      obtain rfl := aslX_eq hl
      obtain rfl := aslX_eq hr
      exact knownC noOv names (conOk_ofR tbl0_ok) (sameI_run K _ _ _ _ _ _ h1 h2 h3 h4 h5) w0 e w hk _ hvs
    · cases h
  · cases h
/-- Rows of one number each, told by a shelf's pairs, against numbers. -/
def vsC (a : Option ABlk) : Option (Rws × Nat) := match a with
  | some ⟨3, .o (.rows [.n .i64] R), [], c, false⟩ => some (R, c)
  | _ => none
theorem vsC_eq {a : Option ABlk} {R : Rws} {c : Nat} (h : vsC a = some (R, c)) : a = some (ssvB R c) := by
  unfold vsC at h
  split at h
  · simp only [Option.some.injEq, Prod.mk.injEq] at h
    obtain ⟨rfl, rfl⟩ := h; rfl
  · cases h
def pqSameR : Pat := fun args σ => match args, σ with
  | [l, r], ⟨[], [], 0, [a, b], 0⟩ => match rslX l, aslX r, vsC a, inC b with
    | some ⟨0, 1, 0, n, cl⟩, some ⟨1, 0, q, dl⟩, some (R, c), some (B, d) => some fun K => ∃ P, (cl = c ∧ dl = d ∧ R = U.ssvs P ∧ n = U.sslen P ∧ B.length = q ∧ n ≤ 200000) ∧ (U.v0s P = B → K (lit (.bool true)) ⟨[], [], 0, [some (ssvB R c), some (ssI B d)], 0⟩) ∧ (¬ U.v0s P = B → K (lit (.bool false)) ⟨[], [], 0, [some (ssvB R c), some (ssI B d)], 0⟩)
    | _, _, _, _ => none
  | _, _ => none
theorem pqSameR_ok : PatOk 5 pqSameR := by
  intro tm σ C h K hK w0 e w hk vs hvs
  unfold pqSameR at h
  split at h
  · split at h
    · rename_i hl hr ha hb
      simp only [Option.some.injEq] at h; subst h
      obtain ⟨P, ⟨rfl, rfl, rfl, rfl, h2, h3⟩, h4, h5⟩ := hK
      obtain rfl := vsC_eq ha
      obtain rfl := inC_eq hb
      obtain rfl := rslX_eq hl
      obtain rfl := aslX_eq hr
      exact knownC noOv names (conOk_ofR tbl0_ok) (sameR_run K _ _ _ _ _ _ (by simp [U.ssvs, U.sslen]) h2 h3 (fun g => h4 (by unfold U.v0s; rw [← rsq_vs]; exact g)) (fun g => h5 (by unfold U.v0s; rw [← rsq_vs]; exact g))) w0 e w hk _ hvs
    · cases h
  · cases h
/-- All that the law's own functions call. -/
def sstL : Tbl := tblOr (tblIf 5 pqSameI) (tblOr (tblIf 5 pqSameR) (tblOr sstR sstW))
theorem sstL_ok : TblOk Try.prog sstL := tblOr_ok (tblIf_ok pqSameI_ok) (tblOr_ok (tblIf_ok pqSameR_ok) (tblOr_ok sstR_ok sstW_ok))
end Go.Proofs.Ytfiadoboagpgkaa
end
