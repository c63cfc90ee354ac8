/- Parts of a proof, one behind the other: LSB LSM LSA. No condition. -/
import Derived.Test.YtdlmiebiineabaaDoorGB
section
namespace Go.Proofs.YtdlmiebiineabaaDoor
open Go Reck Ost
set_option linter.unusedVariables false
set_option linter.unusedSimpArgs false
structure U.splR (B : List Int) (a : Int) (L : List (List CV)) (n c : Nat) : Prop where
  lo : 0 ≤ a ∧ a ≤ B.length
  len : L.length = n ∧ n ≤ c ∧ (n : Int) ≤ a
  go : ∀ (R : List (List CV)) (p e : Int), U.Lexed a.toNat (B.drop a.toNat) L R p e → U.Lexed 0 B [] R p e
structure U.rnI (B : List Int) (i : Int) (t : Nat) (k : Int) : Prop where
  lo : i ≤ k ∧ k ≤ B.length
  al : ∀ j : Nat, i ≤ j → (j : Int) < k → U.alnum (B.getD j 0) = true
  dg : t = 1 → ∀ j : Nat, i ≤ j → (j : Int) < k → U.dig (B.getD j 0) = true
  nd : t = 0 → ∃ j : Nat, i ≤ j ∧ (j : Int) < k ∧ U.dig (B.getD j 0) = false
structure U.rnE (B : List Int) (i : Int) (t : Nat) (k : Int) : Prop where
  run : U.rnI B i t k
  stop : k = B.length ∨ U.alnum (B.getD k.toNat 0) = false
structure U.nmI (w : List Int) (j z : Int) : Prop where
  lo : 0 ≤ j ∧ j ≤ w.length
  eq : z = U.num (w.take j.toNat)
structure U.naI (B : List Int) (i : Int) : Prop where
  no : i + 1 < B.length → ¬ (B.drop i.toNat).take 2 = [45, 62]
structure U.nsI (B : List Int) (i : Int) : Prop where
  no : U.sign1 (B.getD i.toNat 0) = false
def factInv (I : Prop) : Inv where
  X := Int
  tags := [0]
  tag _ _ := 0
  J := [1, 7, 8, 9, 10, 11, 12, 13, 14, 15, 16, 17, 18, 19, 20, 21, 22, 23, 24, 25, 26, 27, 28, 29, 30, 31, 32, 33, 34, 35, 36, 37, 38, 39, 40, 41, 42, 43, 44, 45, 46, 47, 48, 49, 50, 51, 52, 53, 54, 55, 56, 57, 58, 59, 60, 61, 62, 63, 64, 65, 66, 67, 68, 69, 70, 71, 72, 73, 74, 75, 76, 77, 78, 79, 80, 81, 82, 83, 84, 85, 86, 87, 88, 89, 90, 91, 92, 93, 94, 95, 96, 97, 98, 99, 100, 101, 102, 103, 104, 105, 106, 107, 108, 109, 110, 111, 112, 113, 114, 115, 116, 117, 118, 119, 120, 121, 122, 123, 124, 125, 126, 127, 128, 129, 130, 131, 132, 133, 134, 135, 136, 137, 138, 139, 140, 141, 142, 143, 144, 145, 146, 147, 148, 149, 150, 151, 152, 153, 154, 155, 156, 157, 158, 159, 160, 161, 162]
  val _ _ := []
  st _ _ σ' := σ'
  I _ _ := I
  m _ _ := 0
  ren := noRen
def rsInv (cd : Code) (tm : List AV) (σ : St) (el : TypeId) (sl sa : Nat) (I : List Int → Int → List (List CV) → Nat → Nat → Prop) : Inv where
  X := Int × (List (List CV) × (Nat × Nat))
  tags := [0]
  tag _ _ := 0
  J := [1, 7, 8, 9, 10, 11, 12, 13, 14, 15, 16, 17, 18, 19, 20, 21, 22, 23, 24, 25, 26, 27, 28, 29, 30, 31, 32, 33, 34, 35, 36, 37, 38, 39, 40, 41, 42, 43, 44, 45, 46, 47, 48, 49, 50, 51, 52, 53, 54, 55, 56, 57, 58, 59, 60, 61, 62, 63, 64, 65, 66, 67, 68, 69, 70, 71, 72, 73, 74, 75, 76, 77, 78, 79, 80, 81, 82, 83, 84, 85, 86, 87, 88, 89, 90, 91, 92, 93, 94, 95, 96, 97, 98, 99, 100, 101, 102, 103, 104, 105, 106, 107, 108, 109, 110, 111, 112, 113, 114, 115, 116, 117, 118, 119, 120, 121, 122, 123, 124, 125, 126, 127, 128, 129, 130, 131, 132, 133, 134, 135, 136, 137, 138, 139, 140, 141, 142, 143, 144, 145, 146, 147, 148, 149, 150, 151, 152, 153, 154, 155, 156, 157, 158, 159, 160, 161, 162]
  val _ x := [(sl, cell (rslC ⟨σ.arrs.length, 4, 0, x.2.2.1, x.2.2.2⟩)), (sa, xi .i64 x.1)]
  st _ x σ' := ⟨σ'.heap, σ'.ints, σ'.opqs, σ'.arrs.dropLast ++ [some ⟨el, .o (.rows [.n .i64, .s, .n .i64, .n .i64] x.2.1), [], x.2.2.2, false⟩], σ'.junks⟩
  I _ x := I (slotT tm 0) x.1 x.2.1 x.2.2.1 x.2.2.2
  m _ x := (slotT tm 0).length - x.1.toNat
  ren tm' σ' := ([], [(rslS tm' sl).a])
def rnInv (c : Code) (tm : List AV) : Inv where
  X := Int
  tags := [0, 1]
  tag := boolAt 8
  J := [1, 9, 10, 11, 12, 13, 14, 15, 16, 17, 18, 19, 20, 21, 22, 23, 24, 25, 26, 27, 28, 29, 30, 31, 32, 33, 34, 35, 36, 37, 38, 39, 40, 41, 42, 43, 44, 45, 46, 47, 48, 49, 50, 51, 52, 53, 54, 55, 56, 57, 58, 59, 60, 61, 62, 63, 64, 65, 66, 67, 68, 69, 70, 71, 72, 73, 74, 75, 76, 77, 78, 79, 80, 81, 82, 83, 84, 85, 86, 87, 88, 89, 90, 91, 92, 93, 94, 95, 96, 97, 98, 99, 100, 101, 102, 103, 104, 105, 106, 107, 108, 109, 110, 111, 112, 113, 114, 115, 116, 117, 118, 119, 120, 121, 122, 123, 124, 125, 126, 127, 128, 129, 130, 131, 132, 133, 134, 135, 136, 137, 138, 139, 140, 141, 142, 143, 144, 145, 146, 147, 148, 149, 150, 151, 152, 153, 154, 155, 156, 157, 158, 159, 160, 161, 162]
  val t x := [(7, xi .i64 x), (8, tagB t)]
  st _ _ σ' := σ'
  I t x := U.rnI (slotT tm 0) (slotI tm 6) t x
  m _ x := (slotT tm 0).length - x.toNat
  ren := noRen
def rnMeet (c : Code) (tm : List AV) : Inv where
  X := Int
  tags := [0, 1]
  tag := boolAt 8
  J := [1, 9, 10, 11, 12, 13, 14, 15, 16, 17, 18, 19, 20, 21, 22, 23, 24, 25, 26, 27, 28, 29, 30, 31, 32, 33, 34, 35, 36, 37, 38, 39, 40, 41, 42, 43, 44, 45, 46, 47, 48, 49, 50, 51, 52, 53, 54, 55, 56, 57, 58, 59, 60, 61, 62, 63, 64, 65, 66, 67, 68, 69, 70, 71, 72, 73, 74, 75, 76, 77, 78, 79, 80, 81, 82, 83, 84, 85, 86, 87, 88, 89, 90, 91, 92, 93, 94, 95, 96, 97, 98, 99, 100, 101, 102, 103, 104, 105, 106, 107, 108, 109, 110, 111, 112, 113, 114, 115, 116, 117, 118, 119, 120, 121, 122, 123, 124, 125, 126, 127, 128, 129, 130, 131, 132, 133, 134, 135, 136, 137, 138, 139, 140, 141, 142, 143, 144, 145, 146, 147, 148, 149, 150, 151, 152, 153, 154, 155, 156, 157, 158, 159, 160, 161, 162]
  val t x := [(7, xi .i64 x), (8, tagB t)]
  st _ _ σ' := σ'
  I t x := U.rnE (slotT tm 0) (slotI tm 6) t x
  m _ _ := 0
  ren := noRen
def meetLS9 : InvF := fun c tm σ => match tm.length, c with
  | 163, .block _ _ => match firstReg c with
    | some 17 => some (rnMeet c tm)
    | _ => none
  | 163, .seq _ (.cond _ _ _) => match firstReg c with
    | some 9 => some (factInv (U.naI (slotT tm 0) (slotI tm 6)))
    | some 12 => some (factInv (U.nsI (slotT tm 0) (slotI tm 6)))
    | _ => none
  | _, _ => none
def nmInv (c : Code) (tm : List AV) : Inv where
  X := Int × Int
  tags := [0]
  tag _ _ := 0
  J := [1, 12, 13, 14, 15, 16, 17, 18, 19, 20, 21, 22, 23, 24, 25, 26, 27, 28, 29, 30, 31, 32, 33, 34, 35, 36, 37, 38, 39, 40, 41, 42, 43, 44, 45, 46, 47, 48, 49, 50, 51, 52, 53, 54, 55, 56, 57, 58, 59, 60, 61, 62, 63, 64, 65, 66, 67, 68, 69, 70, 71, 72, 73, 74, 75, 76, 77, 78, 79, 80, 81, 82, 83, 84, 85, 86, 87, 88, 89, 90, 91, 92, 93, 94, 95, 96, 97, 98, 99, 100, 101, 102, 103, 104, 105, 106, 107, 108, 109, 110, 111, 112, 113, 114, 115, 116, 117, 118, 119, 120, 121, 122, 123, 124, 125, 126, 127, 128, 129, 130, 131, 132, 133, 134, 135, 136, 137, 138, 139, 140, 141, 142, 143, 144, 145, 146, 147, 148, 149, 150, 151, 152, 153, 154, 155, 156, 157, 158, 159, 160, 161, 162]
  val _ x := [(11, xi .i64 x.1)]
  st _ x σ' := match ptrOf (tm.getD 10 (lit undef)) with
    | some (b, _) => match getBlk σ' b with
      | some y => putBlk σ' b (some ⟨y.elem, y.cells.set 2 (xintC .i64 x.2), y.j, y.c, y.z⟩)
      | none => σ'
    | none => σ'
  I _ x := U.nmI (slotT tm 9) x.1 x.2
  m _ x := (slotT tm 9).length - x.1.toNat
  ren := noRen
def invLS9 : InvF := fun c tm σ => match tm.length, firstReg c with
  | 163, some 6 => some (rsInv c tm σ 37 5 6 U.splR)
  | 163, some 17 => some (rnInv c tm)
  | 163, some 29 => some (nmInv c tm)
  | _, _ => none
def tLS9 : Tbl := tblOr (tblIf 7 (pSplit 33)) tLS7
theorem tLS9_ok : TblOk Tryd.prog tLS9 := tblOr_ok (tblIf_ok pSplit_ok) tLS7_ok
set_option maxRecDepth 100000
--PLAIN
theorem rsplit_vc (K : AV → St → Prop) (s : List Int) : (goT Tryd.prog [] (orcR invLS9 meetLS9 tLS9) (opMem Tryd.prog) 3000 (.inr (.inr (.inr (.inr 8)))) [cell (strC s)] emptySt (retC emptySt K)) = (∀ (z0 : Int), z0 = (↑(List.length s) : Int) → ((4096 : Int) < z0 → K (Sum.inr [Sum.inl (Sum.inr (Sum.inr (Sum.inr (Sum.inr (Sum.inr (Sum.inr (Sum.inr (Sum.inr (Sum.inr (Sum.inr (Sum.inr (Sum.inl { a := (0 : Nat), u := (4 : Nat), o := (0 : Nat), n := (0 : Nat), c := (0 : Nat) })))))))))))), Sum.inl (Sum.inr (Sum.inr (Sum.inr (Sum.inr (Sum.inr (Sum.inr (Sum.inl (IntKind.i64, (0 : Int))))))))), Sum.inl (Sum.inr (Sum.inr (Sum.inr (Sum.inr (Sum.inr (Sum.inr (Sum.inl (IntKind.i64, (6 : Int)))))))))]) { heap := [], ints := [], opqs := (0 : Nat), arrs := [some { elem := (37 : Nat), k := AK.o (Obj.rows [CK.n IntKind.i64, CK.s, CK.n IntKind.i64, CK.n IntKind.i64] U.nilL), l := [], cap := (0 : Nat), ro := false }], junks := (0 : Nat) }) ∧ (¬(4096 : Int) < z0 → List.length s ≤ (1000000000000 : Nat) ∧ ∀ (b1 : List Int), b1 = U.bare false s → (∃ (y2 : Int × List (List CV) × Nat × Nat), b1 = b1 ∧ ((0 : Nat) = (0 : Nat) ∧ (0 : Nat) = (0 : Nat) ∧ (0 : Nat) = (0 : Nat)) ∧ ((0 : Nat) = (0 : Nat) ∧ (0 : Nat) = Prod.fst (Prod.snd (Prod.snd y2)) ∧ (0 : Nat) = Prod.snd (Prod.snd (Prod.snd y2))) ∧ (0 : Int) = Prod.fst y2 ∧ (U.nilL = U.nilL ∧ (0 : Nat) = (0 : Nat) ∧ false = false) ∧ (U.nilL = Prod.fst (Prod.snd y2) ∧ (0 : Nat) = Prod.snd (Prod.snd (Prod.snd y2)) ∧ false = false) ∧ U.splR b1 (Prod.fst y2) (Prod.fst (Prod.snd y2)) (Prod.fst (Prod.snd (Prod.snd y2))) (Prod.snd (Prod.snd (Prod.snd y2)))) ∧ ∀ (x3 : Int × List (List CV) × Nat × Nat), U.splR b1 (Prod.fst x3) (Prod.fst (Prod.snd x3)) (Prod.fst (Prod.snd (Prod.snd x3))) (Prod.snd (Prod.snd (Prod.snd x3))) → ∀ (z4 : Int), z4 = (↑(List.length b1) : Int) → (Prod.fst x3 < z4 → ((0 : Int) ≤ Prod.fst x3 ∧ Prod.fst x3 < (↑(List.length b1) : Int)) ∧ ∀ (z5 : Int), z5 = List.getD b1 (Int.toNat (Prod.fst x3)) (0 : Int) → (0 : Int) ≤ z5 → z5 < (256 : Int) → (4 : Nat) ≤ (1000000000000 : Nat) ∧ (U.inS z5 [(32 : Int), (9 : Int), (10 : Int), (13 : Int)] = true → ∀ (z6 : Int), z6 = IntKind.wrap IntKind.i64 (Prod.fst x3 + (1 : Int)) → ∃ (y7 : Int × List (List CV) × Nat × Nat), b1 = b1 ∧ ((0 : Nat) = (0 : Nat) ∧ (0 : Nat) = (0 : Nat) ∧ (0 : Nat) = (0 : Nat)) ∧ ((0 : Nat) = (0 : Nat) ∧ Prod.fst (Prod.snd (Prod.snd x3)) = Prod.fst (Prod.snd (Prod.snd y7)) ∧ Prod.snd (Prod.snd (Prod.snd x3)) = Prod.snd (Prod.snd (Prod.snd y7))) ∧ z6 = Prod.fst y7 ∧ (U.nilL = U.nilL ∧ (0 : Nat) = (0 : Nat) ∧ false = false) ∧ (Prod.fst (Prod.snd x3) = Prod.fst (Prod.snd y7) ∧ Prod.snd (Prod.snd (Prod.snd x3)) = Prod.snd (Prod.snd (Prod.snd y7)) ∧ false = false) ∧ U.splR b1 (Prod.fst y7) (Prod.fst (Prod.snd y7)) (Prod.fst (Prod.snd (Prod.snd y7))) (Prod.snd (Prod.snd (Prod.snd y7))) ∧ List.length b1 - Int.toNat (Prod.fst y7) < List.length b1 - Int.toNat (Prod.fst x3)) ∧ (U.inS z5 [(32 : Int), (9 : Int), (10 : Int), (13 : Int)] = false → (∀ (z8 : Int), z8 = IntKind.wrap IntKind.i64 (Prod.fst x3 + (1 : Int)) → ∀ (z9 : Int), z9 = (↑(List.length b1) : Int) → (z8 < z9 → ∀ (z10 : Int), z10 = IntKind.wrap IntKind.i64 (Prod.fst x3 + (2 : Int)) → ((0 : Int) ≤ Prod.fst x3 ∧ Prod.fst x3 ≤ z10 ∧ z10 ≤ (↑(List.length b1) : Int)) ∧ ∀ (a11 b12 : Nat), (↑a11 : Int) = Prod.fst x3 → (↑b12 : Int) = z10 - Prod.fst x3 → ∀ (l'13 : List Int), l'13 = List.take b12 (List.drop a11 b1) → (l'13 = [(45 : Int), (62 : Int)] → ((0 : Nat) + Prod.fst (Prod.snd (Prod.snd x3)) ≤ List.length (Prod.fst (Prod.snd x3)) ∧ (0 : Nat) + Prod.snd (Prod.snd (Prod.snd x3)) ≤ Prod.snd (Prod.snd (Prod.snd x3))) ∧ True ∧ Prod.fst (Prod.snd (Prod.snd x3)) ≤ (16777216 : Nat) ∧ (1 : Nat) ≤ (16777216 : Nat) ∧ ∀ (L'14 : List (List CV)) (n'15 c'16 : Nat), L'14 = List.take (Prod.fst (Prod.snd (Prod.snd x3))) (List.drop ((0 : Nat)) (Prod.fst (Prod.snd x3))) ++ [CV.i (3 : Int), CV.s [(45 : Int), (62 : Int)], CV.i (0 : Int), CV.i (Prod.fst x3)] :: U.nilL → n'15 = Prod.fst (Prod.snd (Prod.snd x3)) + (1 : Nat) → n'15 ≤ c'16 → ∀ (z17 : Int), z17 = IntKind.wrap IntKind.i64 (Prod.fst x3 + (2 : Int)) → ∃ (y18 : Int × List (List CV) × Nat × Nat), b1 = b1 ∧ ((0 : Nat) = (0 : Nat) ∧ (0 : Nat) = (0 : Nat) ∧ (0 : Nat) = (0 : Nat)) ∧ ((0 : Nat) = (0 : Nat) ∧ n'15 = Prod.fst (Prod.snd (Prod.snd y18)) ∧ c'16 = Prod.snd (Prod.snd (Prod.snd y18))) ∧ z17 = Prod.fst y18 ∧ (U.nilL = U.nilL ∧ (0 : Nat) = (0 : Nat) ∧ false = false) ∧ (L'14 = Prod.fst (Prod.snd y18) ∧ c'16 = Prod.snd (Prod.snd (Prod.snd y18)) ∧ false = false) ∧ U.splR b1 (Prod.fst y18) (Prod.fst (Prod.snd y18)) (Prod.fst (Prod.snd (Prod.snd y18))) (Prod.snd (Prod.snd (Prod.snd y18))) ∧ List.length b1 - Int.toNat (Prod.fst y18) < List.length b1 - Int.toNat (Prod.fst x3)) ∧ (¬l'13 = [(45 : Int), (62 : Int)] → ∃ (y19 : Int), b1 = b1 ∧ ((0 : Nat) = (0 : Nat) ∧ (0 : Nat) = (0 : Nat) ∧ (0 : Nat) = (0 : Nat)) ∧ ((0 : Nat) = (0 : Nat) ∧ Prod.fst (Prod.snd (Prod.snd x3)) = Prod.fst (Prod.snd (Prod.snd x3)) ∧ Prod.snd (Prod.snd (Prod.snd x3)) = Prod.snd (Prod.snd (Prod.snd x3))) ∧ Prod.fst x3 = Prod.fst x3 ∧ (U.nilL = U.nilL ∧ (0 : Nat) = (0 : Nat) ∧ false = false) ∧ (Prod.fst (Prod.snd x3) = Prod.fst (Prod.snd x3) ∧ Prod.snd (Prod.snd (Prod.snd x3)) = Prod.snd (Prod.snd (Prod.snd x3)) ∧ false = false) ∧ U.naI b1 (Prod.fst x3))) ∧ (¬z8 < z9 → ∃ (y20 : Int), b1 = b1 ∧ ((0 : Nat) = (0 : Nat) ∧ (0 : Nat) = (0 : Nat) ∧ (0 : Nat) = (0 : Nat)) ∧ ((0 : Nat) = (0 : Nat) ∧ Prod.fst (Prod.snd (Prod.snd x3)) = Prod.fst (Prod.snd (Prod.snd x3)) ∧ Prod.snd (Prod.snd (Prod.snd x3)) = Prod.snd (Prod.snd (Prod.snd x3))) ∧ Prod.fst x3 = Prod.fst x3 ∧ (U.nilL = U.nilL ∧ (0 : Nat) = (0 : Nat) ∧ false = false) ∧ (Prod.fst (Prod.snd x3) = Prod.fst (Prod.snd x3) ∧ Prod.snd (Prod.snd (Prod.snd x3)) = Prod.snd (Prod.snd (Prod.snd x3)) ∧ false = false) ∧ U.naI b1 (Prod.fst x3))) ∧ ∀ (x21 : Int), U.naI b1 (Prod.fst x3) → (((0 : Int) ≤ Prod.fst x3 ∧ Prod.fst x3 < (↑(List.length b1) : Int)) ∧ ∀ (z22 : Int), z22 = List.getD b1 (Int.toNat (Prod.fst x3)) (0 : Int) → (0 : Int) ≤ z22 → z22 < (256 : Int) → (7 : Nat) ≤ (1000000000000 : Nat) ∧ (U.inS z22 [(61 : Int), (44 : Int), (59 : Int), (38 : Int), (33 : Int), (58 : Int), (45 : Int)] = true → ∀ (z23 : Int), z23 = IntKind.wrap IntKind.i64 (Prod.fst x3 + (1 : Int)) → ((0 : Int) ≤ Prod.fst x3 ∧ Prod.fst x3 ≤ z23 ∧ z23 ≤ (↑(List.length b1) : Int)) ∧ ∀ (a24 b25 : Nat), (↑a24 : Int) = Prod.fst x3 → (↑b25 : Int) = z23 - Prod.fst x3 → ∀ (l'26 : List Int), l'26 = List.take b25 (List.drop a24 b1) → ((0 : Nat) + Prod.fst (Prod.snd (Prod.snd x3)) ≤ List.length (Prod.fst (Prod.snd x3)) ∧ (0 : Nat) + Prod.snd (Prod.snd (Prod.snd x3)) ≤ Prod.snd (Prod.snd (Prod.snd x3))) ∧ True ∧ Prod.fst (Prod.snd (Prod.snd x3)) ≤ (16777216 : Nat) ∧ (1 : Nat) ≤ (16777216 : Nat) ∧ ∀ (L'27 : List (List CV)) (n'28 c'29 : Nat), L'27 = List.take (Prod.fst (Prod.snd (Prod.snd x3))) (List.drop ((0 : Nat)) (Prod.fst (Prod.snd x3))) ++ [CV.i (3 : Int), CV.s l'26, CV.i (0 : Int), CV.i (Prod.fst x3)] :: U.nilL → n'28 = Prod.fst (Prod.snd (Prod.snd x3)) + (1 : Nat) → n'28 ≤ c'29 → ∀ (z30 : Int), z30 = IntKind.wrap IntKind.i64 (Prod.fst x3 + (1 : Int)) → ∃ (y31 : Int × List (List CV) × Nat × Nat), b1 = b1 ∧ ((0 : Nat) = (0 : Nat) ∧ (0 : Nat) = (0 : Nat) ∧ (0 : Nat) = (0 : Nat)) ∧ ((0 : Nat) = (0 : Nat) ∧ n'28 = Prod.fst (Prod.snd (Prod.snd y31)) ∧ c'29 = Prod.snd (Prod.snd (Prod.snd y31))) ∧ z30 = Prod.fst y31 ∧ (U.nilL = U.nilL ∧ (0 : Nat) = (0 : Nat) ∧ false = false) ∧ (L'27 = Prod.fst (Prod.snd y31) ∧ c'29 = Prod.snd (Prod.snd (Prod.snd y31)) ∧ false = false) ∧ U.splR b1 (Prod.fst y31) (Prod.fst (Prod.snd y31)) (Prod.fst (Prod.snd (Prod.snd y31))) (Prod.snd (Prod.snd (Prod.snd y31))) ∧ List.length b1 - Int.toNat (Prod.fst y31) < List.length b1 - Int.toNat (Prod.fst x3)) ∧ (U.inS z22 [(61 : Int), (44 : Int), (59 : Int), (38 : Int), (33 : Int), (58 : Int), (45 : Int)] = false → ∃ (y32 : Int), b1 = b1 ∧ ((0 : Nat) = (0 : Nat) ∧ (0 : Nat) = (0 : Nat) ∧ (0 : Nat) = (0 : Nat)) ∧ ((0 : Nat) = (0 : Nat) ∧ Prod.fst (Prod.snd (Prod.snd x3)) = Prod.fst (Prod.snd (Prod.snd x3)) ∧ Prod.snd (Prod.snd (Prod.snd x3)) = Prod.snd (Prod.snd (Prod.snd x3))) ∧ Prod.fst x3 = Prod.fst x3 ∧ (U.nilL = U.nilL ∧ (0 : Nat) = (0 : Nat) ∧ false = false) ∧ (Prod.fst (Prod.snd x3) = Prod.fst (Prod.snd x3) ∧ Prod.snd (Prod.snd (Prod.snd x3)) = Prod.snd (Prod.snd (Prod.snd x3)) ∧ false = false) ∧ U.nsI b1 (Prod.fst x3))) ∧ ∀ (x33 : Int), U.nsI b1 (Prod.fst x3) → ((∃ (y34 : Int), b1 = b1 ∧ ((0 : Nat) = (0 : Nat) ∧ (0 : Nat) = (0 : Nat) ∧ (0 : Nat) = (0 : Nat)) ∧ ((0 : Nat) = (0 : Nat) ∧ Prod.fst (Prod.snd (Prod.snd x3)) = Prod.fst (Prod.snd (Prod.snd x3)) ∧ Prod.snd (Prod.snd (Prod.snd x3)) = Prod.snd (Prod.snd (Prod.snd x3))) ∧ Prod.fst x3 = Prod.fst x3 ∧ Prod.fst x3 = y34 ∧ (U.nilL = U.nilL ∧ (0 : Nat) = (0 : Nat) ∧ false = false) ∧ (Prod.fst (Prod.snd x3) = Prod.fst (Prod.snd x3) ∧ Prod.snd (Prod.snd (Prod.snd x3)) = Prod.snd (Prod.snd (Prod.snd x3)) ∧ false = false) ∧ U.rnI b1 (Prod.fst x3) ((1 : Nat)) y34) ∧ (∀ (x35 : Int), U.rnI b1 (Prod.fst x3) (0 : Nat) x35 → ∀ (z36 : Int), z36 = (↑(List.length b1) : Int) → (x35 < z36 → ((0 : Int) ≤ x35 ∧ x35 < (↑(List.length b1) : Int)) ∧ ∀ (z37 : Int), z37 = List.getD b1 (Int.toNat x35) (0 : Int) → (0 : Int) ≤ z37 → z37 < (256 : Int) → (26 : Nat) ≤ (1000000000000 : Nat) ∧ (U.inS z37 [(97 : Int), (98 : Int), (99 : Int), (100 : Int), (101 : Int), (102 : Int), (103 : Int), (104 : Int), (105 : Int), (106 : Int), (107 : Int), (108 : Int), (109 : Int), (110 : Int), (111 : Int), (112 : Int), (113 : Int), (114 : Int), (115 : Int), (116 : Int), (117 : Int), (118 : Int), (119 : Int), (120 : Int), (121 : Int), (122 : Int)] = true → ∀ (z38 : Int), z38 = IntKind.wrap IntKind.i64 (x35 + (1 : Int)) → ∃ (y39 : Int), b1 = b1 ∧ ((0 : Nat) = (0 : Nat) ∧ (0 : Nat) = (0 : Nat) ∧ (0 : Nat) = (0 : Nat)) ∧ ((0 : Nat) = (0 : Nat) ∧ Prod.fst (Prod.snd (Prod.snd x3)) = Prod.fst (Prod.snd (Prod.snd x3)) ∧ Prod.snd (Prod.snd (Prod.snd x3)) = Prod.snd (Prod.snd (Prod.snd x3))) ∧ Prod.fst x3 = Prod.fst x3 ∧ z38 = y39 ∧ (U.nilL = U.nilL ∧ (0 : Nat) = (0 : Nat) ∧ false = false) ∧ (Prod.fst (Prod.snd x3) = Prod.fst (Prod.snd x3) ∧ Prod.snd (Prod.snd (Prod.snd x3)) = Prod.snd (Prod.snd (Prod.snd x3)) ∧ false = false) ∧ U.rnI b1 (Prod.fst x3) ((0 : Nat)) y39 ∧ List.length b1 - Int.toNat y39 < List.length b1 - Int.toNat x35) ∧ (U.inS z37 [(97 : Int), (98 : Int), (99 : Int), (100 : Int), (101 : Int), (102 : Int), (103 : Int), (104 : Int), (105 : Int), (106 : Int), (107 : Int), (108 : Int), (109 : Int), (110 : Int), (111 : Int), (112 : Int), (113 : Int), (114 : Int), (115 : Int), (116 : Int), (117 : Int), (118 : Int), (119 : Int), (120 : Int), (121 : Int), (122 : Int)] = false → ((0 : Int) ≤ x35 ∧ x35 < (↑(List.length b1) : Int)) ∧ ∀ (z40 : Int), z40 = List.getD b1 (Int.toNat x35) (0 : Int) → (0 : Int) ≤ z40 → z40 < (256 : Int) → (10 : Nat) ≤ (1000000000000 : Nat) ∧ (U.inS z40 [(48 : Int), (49 : Int), (50 : Int), (51 : Int), (52 : Int), (53 : Int), (54 : Int), (55 : Int), (56 : Int), (57 : Int)] = true → ∀ (z41 : Int), z41 = IntKind.wrap IntKind.i64 (x35 + (1 : Int)) → ∃ (y42 : Int), b1 = b1 ∧ ((0 : Nat) = (0 : Nat) ∧ (0 : Nat) = (0 : Nat) ∧ (0 : Nat) = (0 : Nat)) ∧ ((0 : Nat) = (0 : Nat) ∧ Prod.fst (Prod.snd (Prod.snd x3)) = Prod.fst (Prod.snd (Prod.snd x3)) ∧ Prod.snd (Prod.snd (Prod.snd x3)) = Prod.snd (Prod.snd (Prod.snd x3))) ∧ Prod.fst x3 = Prod.fst x3 ∧ z41 = y42 ∧ (U.nilL = U.nilL ∧ (0 : Nat) = (0 : Nat) ∧ false = false) ∧ (Prod.fst (Prod.snd x3) = Prod.fst (Prod.snd x3) ∧ Prod.snd (Prod.snd (Prod.snd x3)) = Prod.snd (Prod.snd (Prod.snd x3)) ∧ false = false) ∧ U.rnI b1 (Prod.fst x3) ((0 : Nat)) y42 ∧ List.length b1 - Int.toNat y42 < List.length b1 - Int.toNat x35) ∧ (U.inS z40 [(48 : Int), (49 : Int), (50 : Int), (51 : Int), (52 : Int), (53 : Int), (54 : Int), (55 : Int), (56 : Int), (57 : Int)] = false → ∃ (y43 : Int), b1 = b1 ∧ ((0 : Nat) = (0 : Nat) ∧ (0 : Nat) = (0 : Nat) ∧ (0 : Nat) = (0 : Nat)) ∧ ((0 : Nat) = (0 : Nat) ∧ Prod.fst (Prod.snd (Prod.snd x3)) = Prod.fst (Prod.snd (Prod.snd x3)) ∧ Prod.snd (Prod.snd (Prod.snd x3)) = Prod.snd (Prod.snd (Prod.snd x3))) ∧ Prod.fst x3 = Prod.fst x3 ∧ x35 = y43 ∧ (U.nilL = U.nilL ∧ (0 : Nat) = (0 : Nat) ∧ false = false) ∧ (Prod.fst (Prod.snd x3) = Prod.fst (Prod.snd x3) ∧ Prod.snd (Prod.snd (Prod.snd x3)) = Prod.snd (Prod.snd (Prod.snd x3)) ∧ false = false) ∧ U.rnE b1 (Prod.fst x3) ((0 : Nat)) y43))) ∧ (¬x35 < z36 → ∃ (y44 : Int), b1 = b1 ∧ ((0 : Nat) = (0 : Nat) ∧ (0 : Nat) = (0 : Nat) ∧ (0 : Nat) = (0 : Nat)) ∧ ((0 : Nat) = (0 : Nat) ∧ Prod.fst (Prod.snd (Prod.snd x3)) = Prod.fst (Prod.snd (Prod.snd x3)) ∧ Prod.snd (Prod.snd (Prod.snd x3)) = Prod.snd (Prod.snd (Prod.snd x3))) ∧ Prod.fst x3 = Prod.fst x3 ∧ x35 = y44 ∧ (U.nilL = U.nilL ∧ (0 : Nat) = (0 : Nat) ∧ false = false) ∧ (Prod.fst (Prod.snd x3) = Prod.fst (Prod.snd x3) ∧ Prod.snd (Prod.snd (Prod.snd x3)) = Prod.snd (Prod.snd (Prod.snd x3)) ∧ false = false) ∧ U.rnE b1 (Prod.fst x3) ((0 : Nat)) y44)) ∧ ∀ (x45 : Int), U.rnI b1 (Prod.fst x3) (1 : Nat) x45 → ∀ (z46 : Int), z46 = (↑(List.length b1) : Int) → (x45 < z46 → ((0 : Int) ≤ x45 ∧ x45 < (↑(List.length b1) : Int)) ∧ ∀ (z47 : Int), z47 = List.getD b1 (Int.toNat x45) (0 : Int) → (0 : Int) ≤ z47 → z47 < (256 : Int) → (26 : Nat) ≤ (1000000000000 : Nat) ∧ (U.inS z47 [(97 : Int), (98 : Int), (99 : Int), (100 : Int), (101 : Int), (102 : Int), (103 : Int), (104 : Int), (105 : Int), (106 : Int), (107 : Int), (108 : Int), (109 : Int), (110 : Int), (111 : Int), (112 : Int), (113 : Int), (114 : Int), (115 : Int), (116 : Int), (117 : Int), (118 : Int), (119 : Int), (120 : Int), (121 : Int), (122 : Int)] = true → ((0 : Int) ≤ x45 ∧ x45 < (↑(List.length b1) : Int)) ∧ ∀ (z48 : Int), z48 = List.getD b1 (Int.toNat x45) (0 : Int) → (0 : Int) ≤ z48 → z48 < (256 : Int) → (10 : Nat) ≤ (1000000000000 : Nat) ∧ (U.inS z48 [(48 : Int), (49 : Int), (50 : Int), (51 : Int), (52 : Int), (53 : Int), (54 : Int), (55 : Int), (56 : Int), (57 : Int)] = true → ∀ (z49 : Int), z49 = IntKind.wrap IntKind.i64 (x45 + (1 : Int)) → ∃ (y50 : Int), b1 = b1 ∧ ((0 : Nat) = (0 : Nat) ∧ (0 : Nat) = (0 : Nat) ∧ (0 : Nat) = (0 : Nat)) ∧ ((0 : Nat) = (0 : Nat) ∧ Prod.fst (Prod.snd (Prod.snd x3)) = Prod.fst (Prod.snd (Prod.snd x3)) ∧ Prod.snd (Prod.snd (Prod.snd x3)) = Prod.snd (Prod.snd (Prod.snd x3))) ∧ Prod.fst x3 = Prod.fst x3 ∧ z49 = y50 ∧ (U.nilL = U.nilL ∧ (0 : Nat) = (0 : Nat) ∧ false = false) ∧ (Prod.fst (Prod.snd x3) = Prod.fst (Prod.snd x3) ∧ Prod.snd (Prod.snd (Prod.snd x3)) = Prod.snd (Prod.snd (Prod.snd x3)) ∧ false = false) ∧ U.rnI b1 (Prod.fst x3) ((1 : Nat)) y50 ∧ List.length b1 - Int.toNat y50 < List.length b1 - Int.toNat x45) ∧ (U.inS z48 [(48 : Int), (49 : Int), (50 : Int), (51 : Int), (52 : Int), (53 : Int), (54 : Int), (55 : Int), (56 : Int), (57 : Int)] = false → ∀ (z51 : Int), z51 = IntKind.wrap IntKind.i64 (x45 + (1 : Int)) → ∃ (y52 : Int), b1 = b1 ∧ ((0 : Nat) = (0 : Nat) ∧ (0 : Nat) = (0 : Nat) ∧ (0 : Nat) = (0 : Nat)) ∧ ((0 : Nat) = (0 : Nat) ∧ Prod.fst (Prod.snd (Prod.snd x3)) = Prod.fst (Prod.snd (Prod.snd x3)) ∧ Prod.snd (Prod.snd (Prod.snd x3)) = Prod.snd (Prod.snd (Prod.snd x3))) ∧ Prod.fst x3 = Prod.fst x3 ∧ z51 = y52 ∧ (U.nilL = U.nilL ∧ (0 : Nat) = (0 : Nat) ∧ false = false) ∧ (Prod.fst (Prod.snd x3) = Prod.fst (Prod.snd x3) ∧ Prod.snd (Prod.snd (Prod.snd x3)) = Prod.snd (Prod.snd (Prod.snd x3)) ∧ false = false) ∧ U.rnI b1 (Prod.fst x3) ((0 : Nat)) y52 ∧ List.length b1 - Int.toNat y52 < List.length b1 - Int.toNat x45)) ∧ (U.inS z47 [(97 : Int), (98 : Int), (99 : Int), (100 : Int), (101 : Int), (102 : Int), (103 : Int), (104 : Int), (105 : Int), (106 : Int), (107 : Int), (108 : Int), (109 : Int), (110 : Int), (111 : Int), (112 : Int), (113 : Int), (114 : Int), (115 : Int), (116 : Int), (117 : Int), (118 : Int), (119 : Int), (120 : Int), (121 : Int), (122 : Int)] = false → ((0 : Int) ≤ x45 ∧ x45 < (↑(List.length b1) : Int)) ∧ ∀ (z53 : Int), z53 = List.getD b1 (Int.toNat x45) (0 : Int) → (0 : Int) ≤ z53 → z53 < (256 : Int) → (10 : Nat) ≤ (1000000000000 : Nat) ∧ (U.inS z53 [(48 : Int), (49 : Int), (50 : Int), (51 : Int), (52 : Int), (53 : Int), (54 : Int), (55 : Int), (56 : Int), (57 : Int)] = true → ((0 : Int) ≤ x45 ∧ x45 < (↑(List.length b1) : Int)) ∧ ∀ (z54 : Int), z54 = List.getD b1 (Int.toNat x45) (0 : Int) → (0 : Int) ≤ z54 → z54 < (256 : Int) → (10 : Nat) ≤ (1000000000000 : Nat) ∧ (U.inS z54 [(48 : Int), (49 : Int), (50 : Int), (51 : Int), (52 : Int), (53 : Int), (54 : Int), (55 : Int), (56 : Int), (57 : Int)] = true → ∀ (z55 : Int), z55 = IntKind.wrap IntKind.i64 (x45 + (1 : Int)) → ∃ (y56 : Int), b1 = b1 ∧ ((0 : Nat) = (0 : Nat) ∧ (0 : Nat) = (0 : Nat) ∧ (0 : Nat) = (0 : Nat)) ∧ ((0 : Nat) = (0 : Nat) ∧ Prod.fst (Prod.snd (Prod.snd x3)) = Prod.fst (Prod.snd (Prod.snd x3)) ∧ Prod.snd (Prod.snd (Prod.snd x3)) = Prod.snd (Prod.snd (Prod.snd x3))) ∧ Prod.fst x3 = Prod.fst x3 ∧ z55 = y56 ∧ (U.nilL = U.nilL ∧ (0 : Nat) = (0 : Nat) ∧ false = false) ∧ (Prod.fst (Prod.snd x3) = Prod.fst (Prod.snd x3) ∧ Prod.snd (Prod.snd (Prod.snd x3)) = Prod.snd (Prod.snd (Prod.snd x3)) ∧ false = false) ∧ U.rnI b1 (Prod.fst x3) ((1 : Nat)) y56 ∧ List.length b1 - Int.toNat y56 < List.length b1 - Int.toNat x45) ∧ (U.inS z54 [(48 : Int), (49 : Int), (50 : Int), (51 : Int), (52 : Int), (53 : Int), (54 : Int), (55 : Int), (56 : Int), (57 : Int)] = false → ∀ (z57 : Int), z57 = IntKind.wrap IntKind.i64 (x45 + (1 : Int)) → ∃ (y58 : Int), b1 = b1 ∧ ((0 : Nat) = (0 : Nat) ∧ (0 : Nat) = (0 : Nat) ∧ (0 : Nat) = (0 : Nat)) ∧ ((0 : Nat) = (0 : Nat) ∧ Prod.fst (Prod.snd (Prod.snd x3)) = Prod.fst (Prod.snd (Prod.snd x3)) ∧ Prod.snd (Prod.snd (Prod.snd x3)) = Prod.snd (Prod.snd (Prod.snd x3))) ∧ Prod.fst x3 = Prod.fst x3 ∧ z57 = y58 ∧ (U.nilL = U.nilL ∧ (0 : Nat) = (0 : Nat) ∧ false = false) ∧ (Prod.fst (Prod.snd x3) = Prod.fst (Prod.snd x3) ∧ Prod.snd (Prod.snd (Prod.snd x3)) = Prod.snd (Prod.snd (Prod.snd x3)) ∧ false = false) ∧ U.rnI b1 (Prod.fst x3) ((0 : Nat)) y58 ∧ List.length b1 - Int.toNat y58 < List.length b1 - Int.toNat x45)) ∧ (U.inS z53 [(48 : Int), (49 : Int), (50 : Int), (51 : Int), (52 : Int), (53 : Int), (54 : Int), (55 : Int), (56 : Int), (57 : Int)] = false → ∃ (y59 : Int), b1 = b1 ∧ ((0 : Nat) = (0 : Nat) ∧ (0 : Nat) = (0 : Nat) ∧ (0 : Nat) = (0 : Nat)) ∧ ((0 : Nat) = (0 : Nat) ∧ Prod.fst (Prod.snd (Prod.snd x3)) = Prod.fst (Prod.snd (Prod.snd x3)) ∧ Prod.snd (Prod.snd (Prod.snd x3)) = Prod.snd (Prod.snd (Prod.snd x3))) ∧ Prod.fst x3 = Prod.fst x3 ∧ x45 = y59 ∧ (U.nilL = U.nilL ∧ (0 : Nat) = (0 : Nat) ∧ false = false) ∧ (Prod.fst (Prod.snd x3) = Prod.fst (Prod.snd x3) ∧ Prod.snd (Prod.snd (Prod.snd x3)) = Prod.snd (Prod.snd (Prod.snd x3)) ∧ false = false) ∧ U.rnE b1 (Prod.fst x3) ((1 : Nat)) y59))) ∧ (¬x45 < z46 → ∃ (y60 : Int), b1 = b1 ∧ ((0 : Nat) = (0 : Nat) ∧ (0 : Nat) = (0 : Nat) ∧ (0 : Nat) = (0 : Nat)) ∧ ((0 : Nat) = (0 : Nat) ∧ Prod.fst (Prod.snd (Prod.snd x3)) = Prod.fst (Prod.snd (Prod.snd x3)) ∧ Prod.snd (Prod.snd (Prod.snd x3)) = Prod.snd (Prod.snd (Prod.snd x3))) ∧ Prod.fst x3 = Prod.fst x3 ∧ x45 = y60 ∧ (U.nilL = U.nilL ∧ (0 : Nat) = (0 : Nat) ∧ false = false) ∧ (Prod.fst (Prod.snd x3) = Prod.fst (Prod.snd x3) ∧ Prod.snd (Prod.snd (Prod.snd x3)) = Prod.snd (Prod.snd (Prod.snd x3)) ∧ false = false) ∧ U.rnE b1 (Prod.fst x3) ((1 : Nat)) y60)) ∧ (∀ (x61 : Int), U.rnE b1 (Prod.fst x3) (0 : Nat) x61 → ((0 : Int) ≤ Prod.fst x3 ∧ Prod.fst x3 ≤ x61 ∧ x61 ≤ (↑(List.length b1) : Int)) ∧ ∀ (a62 b63 : Nat), (↑a62 : Int) = Prod.fst x3 → (↑b63 : Int) = x61 - Prod.fst x3 → ∀ (l'64 : List Int), l'64 = List.take b63 (List.drop a62 b1) → ∀ (z65 : Int), z65 = (↑(List.length l'64) : Int) → (z65 = (0 : Int) → K (Sum.inr [Sum.inl (Sum.inr (Sum.inr (Sum.inr (Sum.inr (Sum.inr (Sum.inr (Sum.inr (Sum.inr (Sum.inr (Sum.inr (Sum.inr (Sum.inl { a := (0 : Nat), u := (3 : Nat) + (1 : Nat), o := (0 : Nat), n := (0 : Nat), c := (0 : Nat) })))))))))))), Sum.inl (Sum.inr (Sum.inr (Sum.inr (Sum.inr (Sum.inr (Sum.inr (Sum.inl (IntKind.i64, Prod.fst x3)))))))), Sum.inl (Sum.inr (Sum.inr (Sum.inr (Sum.inr (Sum.inr (Sum.inr (Sum.inl (IntKind.i64, (20 : Int)))))))))]) { heap := [], ints := [], opqs := (0 : Nat), arrs := [some { elem := (37 : Nat), k := AK.o (Obj.rows [CK.n IntKind.i64, CK.s, CK.n IntKind.i64, CK.n IntKind.i64] U.nilL), l := [], cap := (0 : Nat), ro := false }], junks := (0 : Nat) }) ∧ (¬z65 = (0 : Int) → ((0 : Int) ≤ (0 : Int) ∧ (0 : Int) < (↑(List.length l'64) : Int)) ∧ ∀ (z66 : Int), z66 = List.getD l'64 (0 : Nat) (0 : Int) → (0 : Int) ≤ z66 → z66 < (256 : Int) → (10 : Nat) ≤ (1000000000000 : Nat) ∧ (U.inS z66 [(48 : Int), (49 : Int), (50 : Int), (51 : Int), (52 : Int), (53 : Int), (54 : Int), (55 : Int), (56 : Int), (57 : Int)] = true → K (Sum.inr [Sum.inl (Sum.inr (Sum.inr (Sum.inr (Sum.inr (Sum.inr (Sum.inr (Sum.inr (Sum.inr (Sum.inr (Sum.inr (Sum.inr (Sum.inl { a := (0 : Nat), u := (3 : Nat) + (1 : Nat), o := (0 : Nat), n := (0 : Nat), c := (0 : Nat) })))))))))))), Sum.inl (Sum.inr (Sum.inr (Sum.inr (Sum.inr (Sum.inr (Sum.inr (Sum.inl (IntKind.i64, Prod.fst x3)))))))), Sum.inl (Sum.inr (Sum.inr (Sum.inr (Sum.inr (Sum.inr (Sum.inr (Sum.inl (IntKind.i64, (20 : Int)))))))))]) { heap := [], ints := [], opqs := (0 : Nat), arrs := [some { elem := (37 : Nat), k := AK.o (Obj.rows [CK.n IntKind.i64, CK.s, CK.n IntKind.i64, CK.n IntKind.i64] U.nilL), l := [], cap := (0 : Nat), ro := false }], junks := (0 : Nat) }) ∧ (U.inS z66 [(48 : Int), (49 : Int), (50 : Int), (51 : Int), (52 : Int), (53 : Int), (54 : Int), (55 : Int), (56 : Int), (57 : Int)] = false → ∀ (z67 : Int), z67 = (↑(List.length l'64) : Int) → ((16 : Int) < z67 → K (Sum.inr [Sum.inl (Sum.inr (Sum.inr (Sum.inr (Sum.inr (Sum.inr (Sum.inr (Sum.inr (Sum.inr (Sum.inr (Sum.inr (Sum.inr (Sum.inl { a := (0 : Nat), u := (3 : Nat) + (1 : Nat), o := (0 : Nat), n := (0 : Nat), c := (0 : Nat) })))))))))))), Sum.inl (Sum.inr (Sum.inr (Sum.inr (Sum.inr (Sum.inr (Sum.inr (Sum.inl (IntKind.i64, Prod.fst x3)))))))), Sum.inl (Sum.inr (Sum.inr (Sum.inr (Sum.inr (Sum.inr (Sum.inr (Sum.inl (IntKind.i64, (6 : Int)))))))))]) { heap := [], ints := [], opqs := (0 : Nat), arrs := [some { elem := (37 : Nat), k := AK.o (Obj.rows [CK.n IntKind.i64, CK.s, CK.n IntKind.i64, CK.n IntKind.i64] U.nilL), l := [], cap := (0 : Nat), ro := false }], junks := (0 : Nat) }) ∧ (¬(16 : Int) < z67 → ((0 : Nat) + Prod.fst (Prod.snd (Prod.snd x3)) ≤ List.length (Prod.fst (Prod.snd x3)) ∧ (0 : Nat) + Prod.snd (Prod.snd (Prod.snd x3)) ≤ Prod.snd (Prod.snd (Prod.snd x3))) ∧ True ∧ Prod.fst (Prod.snd (Prod.snd x3)) ≤ (16777216 : Nat) ∧ (1 : Nat) ≤ (16777216 : Nat) ∧ ∀ (L'68 : List (List CV)) (n'69 c'70 : Nat), L'68 = List.take (Prod.fst (Prod.snd (Prod.snd x3))) (List.drop ((0 : Nat)) (Prod.fst (Prod.snd x3))) ++ [CV.i (1 : Int), CV.s l'64, CV.i (0 : Int), CV.i (Prod.fst x3)] :: U.nilL → n'69 = Prod.fst (Prod.snd (Prod.snd x3)) + (1 : Nat) → n'69 ≤ c'70 → ∃ (y71 : Int × List (List CV) × Nat × Nat), b1 = b1 ∧ ((0 : Nat) = (0 : Nat) ∧ (0 : Nat) = (0 : Nat) ∧ (0 : Nat) = (0 : Nat)) ∧ ((0 : Nat) = (0 : Nat) ∧ n'69 = Prod.fst (Prod.snd (Prod.snd y71)) ∧ c'70 = Prod.snd (Prod.snd (Prod.snd y71))) ∧ x61 = Prod.fst y71 ∧ (U.nilL = U.nilL ∧ (0 : Nat) = (0 : Nat) ∧ false = false) ∧ (L'68 = Prod.fst (Prod.snd y71) ∧ c'70 = Prod.snd (Prod.snd (Prod.snd y71)) ∧ false = false) ∧ U.splR b1 (Prod.fst y71) (Prod.fst (Prod.snd y71)) (Prod.fst (Prod.snd (Prod.snd y71))) (Prod.snd (Prod.snd (Prod.snd y71))) ∧ List.length b1 - Int.toNat (Prod.fst y71) < List.length b1 - Int.toNat (Prod.fst x3))))) ∧ ∀ (x72 : Int), U.rnE b1 (Prod.fst x3) (1 : Nat) x72 → ((0 : Int) ≤ Prod.fst x3 ∧ Prod.fst x3 ≤ x72 ∧ x72 ≤ (↑(List.length b1) : Int)) ∧ ∀ (a73 b74 : Nat), (↑a73 : Int) = Prod.fst x3 → (↑b74 : Int) = x72 - Prod.fst x3 → ∀ (l'75 : List Int), l'75 = List.take b74 (List.drop a73 b1) → ∀ (z76 : Int), z76 = (↑(List.length l'75) : Int) → (z76 = (0 : Int) → K (Sum.inr [Sum.inl (Sum.inr (Sum.inr (Sum.inr (Sum.inr (Sum.inr (Sum.inr (Sum.inr (Sum.inr (Sum.inr (Sum.inr (Sum.inr (Sum.inl { a := (0 : Nat), u := (3 : Nat) + (1 : Nat), o := (0 : Nat), n := (0 : Nat), c := (0 : Nat) })))))))))))), Sum.inl (Sum.inr (Sum.inr (Sum.inr (Sum.inr (Sum.inr (Sum.inr (Sum.inl (IntKind.i64, Prod.fst x3)))))))), Sum.inl (Sum.inr (Sum.inr (Sum.inr (Sum.inr (Sum.inr (Sum.inr (Sum.inl (IntKind.i64, (20 : Int)))))))))]) { heap := [], ints := [], opqs := (0 : Nat), arrs := [some { elem := (37 : Nat), k := AK.o (Obj.rows [CK.n IntKind.i64, CK.s, CK.n IntKind.i64, CK.n IntKind.i64] U.nilL), l := [], cap := (0 : Nat), ro := false }], junks := (0 : Nat) }) ∧ (¬z76 = (0 : Int) → ∀ (z77 : Int), z77 = (↑(List.length l'75) : Int) → ((1 : Int) < z77 → ∀ (z78 : Int), z78 = (↑(List.length l'75) : Int) → (z78 < (7 : Int) → ((0 : Int) ≤ (0 : Int) ∧ (0 : Int) < (↑(List.length l'75) : Int)) ∧ ∀ (z79 : Int), z79 = List.getD l'75 (0 : Nat) (0 : Int) → (0 : Int) ≤ z79 → z79 < (256 : Int) → (z79 = (48 : Int) → K (Sum.inr [Sum.inl (Sum.inr (Sum.inr (Sum.inr (Sum.inr (Sum.inr (Sum.inr (Sum.inr (Sum.inr (Sum.inr (Sum.inr (Sum.inr (Sum.inl { a := (0 : Nat), u := (3 : Nat) + (1 : Nat), o := (0 : Nat), n := (0 : Nat), c := (0 : Nat) })))))))))))), Sum.inl (Sum.inr (Sum.inr (Sum.inr (Sum.inr (Sum.inr (Sum.inr (Sum.inl (IntKind.i64, Prod.fst x3)))))))), Sum.inl (Sum.inr (Sum.inr (Sum.inr (Sum.inr (Sum.inr (Sum.inr (Sum.inl (IntKind.i64, (20 : Int)))))))))]) { heap := [], ints := [], opqs := (0 : Nat), arrs := [some { elem := (37 : Nat), k := AK.o (Obj.rows [CK.n IntKind.i64, CK.s, CK.n IntKind.i64, CK.n IntKind.i64] U.nilL), l := [], cap := (0 : Nat), ro := false }], junks := (0 : Nat) }) ∧ (¬z79 = (48 : Int) → ∀ (z80 : Int), z80 = (↑(List.length l'75) : Int) → ((6 : Int) < z80 → K (Sum.inr [Sum.inl (Sum.inr (Sum.inr (Sum.inr (Sum.inr (Sum.inr (Sum.inr (Sum.inr (Sum.inr (Sum.inr (Sum.inr (Sum.inr (Sum.inl { a := (0 : Nat), u := (3 : Nat) + (1 : Nat), o := (0 : Nat), n := (0 : Nat), c := (0 : Nat) })))))))))))), Sum.inl (Sum.inr (Sum.inr (Sum.inr (Sum.inr (Sum.inr (Sum.inr (Sum.inl (IntKind.i64, Prod.fst x3)))))))), Sum.inl (Sum.inr (Sum.inr (Sum.inr (Sum.inr (Sum.inr (Sum.inr (Sum.inl (IntKind.i64, (6 : Int)))))))))]) { heap := [], ints := [], opqs := (0 : Nat), arrs := [some { elem := (37 : Nat), k := AK.o (Obj.rows [CK.n IntKind.i64, CK.s, CK.n IntKind.i64, CK.n IntKind.i64] U.nilL), l := [], cap := (0 : Nat), ro := false }], junks := (0 : Nat) }) ∧ (¬(6 : Int) < z80 → ∀ (z81 : Int), z81 = (↑(List.length l'75) : Int) → ((16 : Int) < z81 → K (Sum.inr [Sum.inl (Sum.inr (Sum.inr (Sum.inr (Sum.inr (Sum.inr (Sum.inr (Sum.inr (Sum.inr (Sum.inr (Sum.inr (Sum.inr (Sum.inl { a := (0 : Nat), u := (3 : Nat) + (1 : Nat), o := (0 : Nat), n := (0 : Nat), c := (0 : Nat) })))))))))))), Sum.inl (Sum.inr (Sum.inr (Sum.inr (Sum.inr (Sum.inr (Sum.inr (Sum.inl (IntKind.i64, Prod.fst x3)))))))), Sum.inl (Sum.inr (Sum.inr (Sum.inr (Sum.inr (Sum.inr (Sum.inr (Sum.inl (IntKind.i64, (6 : Int)))))))))]) { heap := [], ints := [], opqs := (0 : Nat), arrs := [some { elem := (37 : Nat), k := AK.o (Obj.rows [CK.n IntKind.i64, CK.s, CK.n IntKind.i64, CK.n IntKind.i64] U.nilL), l := [], cap := (0 : Nat), ro := false }], junks := (0 : Nat) }) ∧ (¬(16 : Int) < z81 → (∃ (y82 : Int × Int), b1 = b1 ∧ ((0 : Nat) = (0 : Nat) ∧ (0 : Nat) = (0 : Nat) ∧ (0 : Nat) = (0 : Nat)) ∧ ((0 : Nat) = (0 : Nat) ∧ Prod.fst (Prod.snd (Prod.snd x3)) = Prod.fst (Prod.snd (Prod.snd x3)) ∧ Prod.snd (Prod.snd (Prod.snd x3)) = Prod.snd (Prod.snd (Prod.snd x3))) ∧ Prod.fst x3 = Prod.fst x3 ∧ x72 = x72 ∧ l'75 = l'75 ∧ (0 : Int) = Prod.fst y82 ∧ l'75 = l'75 ∧ (0 : Int) = Prod.snd y82 ∧ Prod.fst x3 = Prod.fst x3 ∧ (U.nilL = U.nilL ∧ (0 : Nat) = (0 : Nat) ∧ false = false) ∧ (Prod.fst (Prod.snd x3) = Prod.fst (Prod.snd x3) ∧ Prod.snd (Prod.snd (Prod.snd x3)) = Prod.snd (Prod.snd (Prod.snd x3)) ∧ false = false) ∧ U.nmI l'75 (Prod.fst y82) (Prod.snd y82)) ∧ ∀ (x83 : Int × Int), U.nmI l'75 (Prod.fst x83) (Prod.snd x83) → ∀ (z84 : Int), z84 = (↑(List.length l'75) : Int) → (Prod.fst x83 < z84 → ∀ (z85 : Int), z85 = IntKind.wrap IntKind.i64 (Prod.snd x83 * (10 : Int)) → ((0 : Int) ≤ Prod.fst x83 ∧ Prod.fst x83 < (↑(List.length l'75) : Int)) ∧ ∀ (z86 : Int), z86 = List.getD l'75 (Int.toNat (Prod.fst x83)) (0 : Int) → (0 : Int) ≤ z86 → z86 < (256 : Int) → ∀ (z87 : Int), z87 = IntKind.wrap IntKind.i64 z86 → ∀ (z88 : Int), z88 = IntKind.wrap IntKind.i64 (z85 + z87) → ∀ (z89 : Int), z89 = IntKind.wrap IntKind.i64 (z88 - (48 : Int)) → ∀ (z90 : Int), z90 = IntKind.wrap IntKind.i64 (Prod.fst x83 + (1 : Int)) → ∃ (y91 : Int × Int), b1 = b1 ∧ ((0 : Nat) = (0 : Nat) ∧ (0 : Nat) = (0 : Nat) ∧ (0 : Nat) = (0 : Nat)) ∧ ((0 : Nat) = (0 : Nat) ∧ Prod.fst (Prod.snd (Prod.snd x3)) = Prod.fst (Prod.snd (Prod.snd x3)) ∧ Prod.snd (Prod.snd (Prod.snd x3)) = Prod.snd (Prod.snd (Prod.snd x3))) ∧ Prod.fst x3 = Prod.fst x3 ∧ x72 = x72 ∧ l'75 = l'75 ∧ z90 = Prod.fst y91 ∧ l'75 = l'75 ∧ z89 = Prod.snd y91 ∧ Prod.fst x3 = Prod.fst x3 ∧ (U.nilL = U.nilL ∧ (0 : Nat) = (0 : Nat) ∧ false = false) ∧ (Prod.fst (Prod.snd x3) = Prod.fst (Prod.snd x3) ∧ Prod.snd (Prod.snd (Prod.snd x3)) = Prod.snd (Prod.snd (Prod.snd x3)) ∧ false = false) ∧ U.nmI l'75 (Prod.fst y91) (Prod.snd y91) ∧ List.length l'75 - Int.toNat (Prod.fst y91) < List.length l'75 - Int.toNat (Prod.fst x83)) ∧ (¬Prod.fst x83 < z84 → ((0 : Nat) + Prod.fst (Prod.snd (Prod.snd x3)) ≤ List.length (Prod.fst (Prod.snd x3)) ∧ (0 : Nat) + Prod.snd (Prod.snd (Prod.snd x3)) ≤ Prod.snd (Prod.snd (Prod.snd x3))) ∧ True ∧ Prod.fst (Prod.snd (Prod.snd x3)) ≤ (16777216 : Nat) ∧ (1 : Nat) ≤ (16777216 : Nat) ∧ ∀ (L'92 : List (List CV)) (n'93 c'94 : Nat), L'92 = List.take (Prod.fst (Prod.snd (Prod.snd x3))) (List.drop ((0 : Nat)) (Prod.fst (Prod.snd x3))) ++ [CV.i (2 : Int), CV.s l'75, CV.i (Prod.snd x83), CV.i (Prod.fst x3)] :: U.nilL → n'93 = Prod.fst (Prod.snd (Prod.snd x3)) + (1 : Nat) → n'93 ≤ c'94 → ∃ (y95 : Int × List (List CV) × Nat × Nat), b1 = b1 ∧ ((0 : Nat) = (0 : Nat) ∧ (0 : Nat) = (0 : Nat) ∧ (0 : Nat) = (0 : Nat)) ∧ ((0 : Nat) = (0 : Nat) ∧ n'93 = Prod.fst (Prod.snd (Prod.snd y95)) ∧ c'94 = Prod.snd (Prod.snd (Prod.snd y95))) ∧ x72 = Prod.fst y95 ∧ (U.nilL = U.nilL ∧ (0 : Nat) = (0 : Nat) ∧ false = false) ∧ (L'92 = Prod.fst (Prod.snd y95) ∧ c'94 = Prod.snd (Prod.snd (Prod.snd y95)) ∧ false = false) ∧ U.splR b1 (Prod.fst y95) (Prod.fst (Prod.snd y95)) (Prod.fst (Prod.snd (Prod.snd y95))) (Prod.snd (Prod.snd (Prod.snd y95))) ∧ List.length b1 - Int.toNat (Prod.fst y95) < List.length b1 - Int.toNat (Prod.fst x3)))))) ∧ (¬z78 < (7 : Int) → ∀ (z96 : Int), z96 = (↑(List.length l'75) : Int) → ((6 : Int) < z96 → K (Sum.inr [Sum.inl (Sum.inr (Sum.inr (Sum.inr (Sum.inr (Sum.inr (Sum.inr (Sum.inr (Sum.inr (Sum.inr (Sum.inr (Sum.inr (Sum.inl { a := (0 : Nat), u := (3 : Nat) + (1 : Nat), o := (0 : Nat), n := (0 : Nat), c := (0 : Nat) })))))))))))), Sum.inl (Sum.inr (Sum.inr (Sum.inr (Sum.inr (Sum.inr (Sum.inr (Sum.inl (IntKind.i64, Prod.fst x3)))))))), Sum.inl (Sum.inr (Sum.inr (Sum.inr (Sum.inr (Sum.inr (Sum.inr (Sum.inl (IntKind.i64, (6 : Int)))))))))]) { heap := [], ints := [], opqs := (0 : Nat), arrs := [some { elem := (37 : Nat), k := AK.o (Obj.rows [CK.n IntKind.i64, CK.s, CK.n IntKind.i64, CK.n IntKind.i64] U.nilL), l := [], cap := (0 : Nat), ro := false }], junks := (0 : Nat) }) ∧ (¬(6 : Int) < z96 → ∀ (z97 : Int), z97 = (↑(List.length l'75) : Int) → ((16 : Int) < z97 → K (Sum.inr [Sum.inl (Sum.inr (Sum.inr (Sum.inr (Sum.inr (Sum.inr (Sum.inr (Sum.inr (Sum.inr (Sum.inr (Sum.inr (Sum.inr (Sum.inl { a := (0 : Nat), u := (3 : Nat) + (1 : Nat), o := (0 : Nat), n := (0 : Nat), c := (0 : Nat) })))))))))))), Sum.inl (Sum.inr (Sum.inr (Sum.inr (Sum.inr (Sum.inr (Sum.inr (Sum.inl (IntKind.i64, Prod.fst x3)))))))), Sum.inl (Sum.inr (Sum.inr (Sum.inr (Sum.inr (Sum.inr (Sum.inr (Sum.inl (IntKind.i64, (6 : Int)))))))))]) { heap := [], ints := [], opqs := (0 : Nat), arrs := [some { elem := (37 : Nat), k := AK.o (Obj.rows [CK.n IntKind.i64, CK.s, CK.n IntKind.i64, CK.n IntKind.i64] U.nilL), l := [], cap := (0 : Nat), ro := false }], junks := (0 : Nat) }) ∧ (¬(16 : Int) < z97 → (∃ (y98 : Int × Int), b1 = b1 ∧ ((0 : Nat) = (0 : Nat) ∧ (0 : Nat) = (0 : Nat) ∧ (0 : Nat) = (0 : Nat)) ∧ ((0 : Nat) = (0 : Nat) ∧ Prod.fst (Prod.snd (Prod.snd x3)) = Prod.fst (Prod.snd (Prod.snd x3)) ∧ Prod.snd (Prod.snd (Prod.snd x3)) = Prod.snd (Prod.snd (Prod.snd x3))) ∧ Prod.fst x3 = Prod.fst x3 ∧ x72 = x72 ∧ l'75 = l'75 ∧ (0 : Int) = Prod.fst y98 ∧ l'75 = l'75 ∧ (0 : Int) = Prod.snd y98 ∧ Prod.fst x3 = Prod.fst x3 ∧ (U.nilL = U.nilL ∧ (0 : Nat) = (0 : Nat) ∧ false = false) ∧ (Prod.fst (Prod.snd x3) = Prod.fst (Prod.snd x3) ∧ Prod.snd (Prod.snd (Prod.snd x3)) = Prod.snd (Prod.snd (Prod.snd x3)) ∧ false = false) ∧ U.nmI l'75 (Prod.fst y98) (Prod.snd y98)) ∧ ∀ (x99 : Int × Int), U.nmI l'75 (Prod.fst x99) (Prod.snd x99) → ∀ (z100 : Int), z100 = (↑(List.length l'75) : Int) → (Prod.fst x99 < z100 → ∀ (z101 : Int), z101 = IntKind.wrap IntKind.i64 (Prod.snd x99 * (10 : Int)) → ((0 : Int) ≤ Prod.fst x99 ∧ Prod.fst x99 < (↑(List.length l'75) : Int)) ∧ ∀ (z102 : Int), z102 = List.getD l'75 (Int.toNat (Prod.fst x99)) (0 : Int) → (0 : Int) ≤ z102 → z102 < (256 : Int) → ∀ (z103 : Int), z103 = IntKind.wrap IntKind.i64 z102 → ∀ (z104 : Int), z104 = IntKind.wrap IntKind.i64 (z101 + z103) → ∀ (z105 : Int), z105 = IntKind.wrap IntKind.i64 (z104 - (48 : Int)) → ∀ (z106 : Int), z106 = IntKind.wrap IntKind.i64 (Prod.fst x99 + (1 : Int)) → ∃ (y107 : Int × Int), b1 = b1 ∧ ((0 : Nat) = (0 : Nat) ∧ (0 : Nat) = (0 : Nat) ∧ (0 : Nat) = (0 : Nat)) ∧ ((0 : Nat) = (0 : Nat) ∧ Prod.fst (Prod.snd (Prod.snd x3)) = Prod.fst (Prod.snd (Prod.snd x3)) ∧ Prod.snd (Prod.snd (Prod.snd x3)) = Prod.snd (Prod.snd (Prod.snd x3))) ∧ Prod.fst x3 = Prod.fst x3 ∧ x72 = x72 ∧ l'75 = l'75 ∧ z106 = Prod.fst y107 ∧ l'75 = l'75 ∧ z105 = Prod.snd y107 ∧ Prod.fst x3 = Prod.fst x3 ∧ (U.nilL = U.nilL ∧ (0 : Nat) = (0 : Nat) ∧ false = false) ∧ (Prod.fst (Prod.snd x3) = Prod.fst (Prod.snd x3) ∧ Prod.snd (Prod.snd (Prod.snd x3)) = Prod.snd (Prod.snd (Prod.snd x3)) ∧ false = false) ∧ U.nmI l'75 (Prod.fst y107) (Prod.snd y107) ∧ List.length l'75 - Int.toNat (Prod.fst y107) < List.length l'75 - Int.toNat (Prod.fst x99)) ∧ (¬Prod.fst x99 < z100 → ((0 : Nat) + Prod.fst (Prod.snd (Prod.snd x3)) ≤ List.length (Prod.fst (Prod.snd x3)) ∧ (0 : Nat) + Prod.snd (Prod.snd (Prod.snd x3)) ≤ Prod.snd (Prod.snd (Prod.snd x3))) ∧ True ∧ Prod.fst (Prod.snd (Prod.snd x3)) ≤ (16777216 : Nat) ∧ (1 : Nat) ≤ (16777216 : Nat) ∧ ∀ (L'108 : List (List CV)) (n'109 c'110 : Nat), L'108 = List.take (Prod.fst (Prod.snd (Prod.snd x3))) (List.drop ((0 : Nat)) (Prod.fst (Prod.snd x3))) ++ [CV.i (2 : Int), CV.s l'75, CV.i (Prod.snd x99), CV.i (Prod.fst x3)] :: U.nilL → n'109 = Prod.fst (Prod.snd (Prod.snd x3)) + (1 : Nat) → n'109 ≤ c'110 → ∃ (y111 : Int × List (List CV) × Nat × Nat), b1 = b1 ∧ ((0 : Nat) = (0 : Nat) ∧ (0 : Nat) = (0 : Nat) ∧ (0 : Nat) = (0 : Nat)) ∧ ((0 : Nat) = (0 : Nat) ∧ n'109 = Prod.fst (Prod.snd (Prod.snd y111)) ∧ c'110 = Prod.snd (Prod.snd (Prod.snd y111))) ∧ x72 = Prod.fst y111 ∧ (U.nilL = U.nilL ∧ (0 : Nat) = (0 : Nat) ∧ false = false) ∧ (L'108 = Prod.fst (Prod.snd y111) ∧ c'110 = Prod.snd (Prod.snd (Prod.snd y111)) ∧ false = false) ∧ U.splR b1 (Prod.fst y111) (Prod.fst (Prod.snd y111)) (Prod.fst (Prod.snd (Prod.snd y111))) (Prod.snd (Prod.snd (Prod.snd y111))) ∧ List.length b1 - Int.toNat (Prod.fst y111) < List.length b1 - Int.toNat (Prod.fst x3)))))) ∧ (¬(1 : Int) < z77 → ∀ (z112 : Int), z112 = (↑(List.length l'75) : Int) → ((6 : Int) < z112 → K (Sum.inr [Sum.inl (Sum.inr (Sum.inr (Sum.inr (Sum.inr (Sum.inr (Sum.inr (Sum.inr (Sum.inr (Sum.inr (Sum.inr (Sum.inr (Sum.inl { a := (0 : Nat), u := (3 : Nat) + (1 : Nat), o := (0 : Nat), n := (0 : Nat), c := (0 : Nat) })))))))))))), Sum.inl (Sum.inr (Sum.inr (Sum.inr (Sum.inr (Sum.inr (Sum.inr (Sum.inl (IntKind.i64, Prod.fst x3)))))))), Sum.inl (Sum.inr (Sum.inr (Sum.inr (Sum.inr (Sum.inr (Sum.inr (Sum.inl (IntKind.i64, (6 : Int)))))))))]) { heap := [], ints := [], opqs := (0 : Nat), arrs := [some { elem := (37 : Nat), k := AK.o (Obj.rows [CK.n IntKind.i64, CK.s, CK.n IntKind.i64, CK.n IntKind.i64] U.nilL), l := [], cap := (0 : Nat), ro := false }], junks := (0 : Nat) }) ∧ (¬(6 : Int) < z112 → ∀ (z113 : Int), z113 = (↑(List.length l'75) : Int) → ((16 : Int) < z113 → K (Sum.inr [Sum.inl (Sum.inr (Sum.inr (Sum.inr (Sum.inr (Sum.inr (Sum.inr (Sum.inr (Sum.inr (Sum.inr (Sum.inr (Sum.inr (Sum.inl { a := (0 : Nat), u := (3 : Nat) + (1 : Nat), o := (0 : Nat), n := (0 : Nat), c := (0 : Nat) })))))))))))), Sum.inl (Sum.inr (Sum.inr (Sum.inr (Sum.inr (Sum.inr (Sum.inr (Sum.inl (IntKind.i64, Prod.fst x3)))))))), Sum.inl (Sum.inr (Sum.inr (Sum.inr (Sum.inr (Sum.inr (Sum.inr (Sum.inl (IntKind.i64, (6 : Int)))))))))]) { heap := [], ints := [], opqs := (0 : Nat), arrs := [some { elem := (37 : Nat), k := AK.o (Obj.rows [CK.n IntKind.i64, CK.s, CK.n IntKind.i64, CK.n IntKind.i64] U.nilL), l := [], cap := (0 : Nat), ro := false }], junks := (0 : Nat) }) ∧ (¬(16 : Int) < z113 → (∃ (y114 : Int × Int), b1 = b1 ∧ ((0 : Nat) = (0 : Nat) ∧ (0 : Nat) = (0 : Nat) ∧ (0 : Nat) = (0 : Nat)) ∧ ((0 : Nat) = (0 : Nat) ∧ Prod.fst (Prod.snd (Prod.snd x3)) = Prod.fst (Prod.snd (Prod.snd x3)) ∧ Prod.snd (Prod.snd (Prod.snd x3)) = Prod.snd (Prod.snd (Prod.snd x3))) ∧ Prod.fst x3 = Prod.fst x3 ∧ x72 = x72 ∧ l'75 = l'75 ∧ (0 : Int) = Prod.fst y114 ∧ l'75 = l'75 ∧ (0 : Int) = Prod.snd y114 ∧ Prod.fst x3 = Prod.fst x3 ∧ (U.nilL = U.nilL ∧ (0 : Nat) = (0 : Nat) ∧ false = false) ∧ (Prod.fst (Prod.snd x3) = Prod.fst (Prod.snd x3) ∧ Prod.snd (Prod.snd (Prod.snd x3)) = Prod.snd (Prod.snd (Prod.snd x3)) ∧ false = false) ∧ U.nmI l'75 (Prod.fst y114) (Prod.snd y114)) ∧ ∀ (x115 : Int × Int), U.nmI l'75 (Prod.fst x115) (Prod.snd x115) → ∀ (z116 : Int), z116 = (↑(List.length l'75) : Int) → (Prod.fst x115 < z116 → ∀ (z117 : Int), z117 = IntKind.wrap IntKind.i64 (Prod.snd x115 * (10 : Int)) → ((0 : Int) ≤ Prod.fst x115 ∧ Prod.fst x115 < (↑(List.length l'75) : Int)) ∧ ∀ (z118 : Int), z118 = List.getD l'75 (Int.toNat (Prod.fst x115)) (0 : Int) → (0 : Int) ≤ z118 → z118 < (256 : Int) → ∀ (z119 : Int), z119 = IntKind.wrap IntKind.i64 z118 → ∀ (z120 : Int), z120 = IntKind.wrap IntKind.i64 (z117 + z119) → ∀ (z121 : Int), z121 = IntKind.wrap IntKind.i64 (z120 - (48 : Int)) → ∀ (z122 : Int), z122 = IntKind.wrap IntKind.i64 (Prod.fst x115 + (1 : Int)) → ∃ (y123 : Int × Int), b1 = b1 ∧ ((0 : Nat) = (0 : Nat) ∧ (0 : Nat) = (0 : Nat) ∧ (0 : Nat) = (0 : Nat)) ∧ ((0 : Nat) = (0 : Nat) ∧ Prod.fst (Prod.snd (Prod.snd x3)) = Prod.fst (Prod.snd (Prod.snd x3)) ∧ Prod.snd (Prod.snd (Prod.snd x3)) = Prod.snd (Prod.snd (Prod.snd x3))) ∧ Prod.fst x3 = Prod.fst x3 ∧ x72 = x72 ∧ l'75 = l'75 ∧ z122 = Prod.fst y123 ∧ l'75 = l'75 ∧ z121 = Prod.snd y123 ∧ Prod.fst x3 = Prod.fst x3 ∧ (U.nilL = U.nilL ∧ (0 : Nat) = (0 : Nat) ∧ false = false) ∧ (Prod.fst (Prod.snd x3) = Prod.fst (Prod.snd x3) ∧ Prod.snd (Prod.snd (Prod.snd x3)) = Prod.snd (Prod.snd (Prod.snd x3)) ∧ false = false) ∧ U.nmI l'75 (Prod.fst y123) (Prod.snd y123) ∧ List.length l'75 - Int.toNat (Prod.fst y123) < List.length l'75 - Int.toNat (Prod.fst x115)) ∧ (¬Prod.fst x115 < z116 → ((0 : Nat) + Prod.fst (Prod.snd (Prod.snd x3)) ≤ List.length (Prod.fst (Prod.snd x3)) ∧ (0 : Nat) + Prod.snd (Prod.snd (Prod.snd x3)) ≤ Prod.snd (Prod.snd (Prod.snd x3))) ∧ True ∧ Prod.fst (Prod.snd (Prod.snd x3)) ≤ (16777216 : Nat) ∧ (1 : Nat) ≤ (16777216 : Nat) ∧ ∀ (L'124 : List (List CV)) (n'125 c'126 : Nat), L'124 = List.take (Prod.fst (Prod.snd (Prod.snd x3))) (List.drop ((0 : Nat)) (Prod.fst (Prod.snd x3))) ++ [CV.i (2 : Int), CV.s l'75, CV.i (Prod.snd x115), CV.i (Prod.fst x3)] :: U.nilL → n'125 = Prod.fst (Prod.snd (Prod.snd x3)) + (1 : Nat) → n'125 ≤ c'126 → ∃ (y127 : Int × List (List CV) × Nat × Nat), b1 = b1 ∧ ((0 : Nat) = (0 : Nat) ∧ (0 : Nat) = (0 : Nat) ∧ (0 : Nat) = (0 : Nat)) ∧ ((0 : Nat) = (0 : Nat) ∧ n'125 = Prod.fst (Prod.snd (Prod.snd y127)) ∧ c'126 = Prod.snd (Prod.snd (Prod.snd y127))) ∧ x72 = Prod.fst y127 ∧ (U.nilL = U.nilL ∧ (0 : Nat) = (0 : Nat) ∧ false = false) ∧ (L'124 = Prod.fst (Prod.snd y127) ∧ c'126 = Prod.snd (Prod.snd (Prod.snd y127)) ∧ false = false) ∧ U.splR b1 (Prod.fst y127) (Prod.fst (Prod.snd y127)) (Prod.fst (Prod.snd (Prod.snd y127))) (Prod.snd (Prod.snd (Prod.snd y127))) ∧ List.length b1 - Int.toNat (Prod.fst y127) < List.length b1 - Int.toNat (Prod.fst x3)))))))) ∧ (¬Prod.fst x3 < z4 → K (Sum.inr [Sum.inl (Sum.inr (Sum.inr (Sum.inr (Sum.inr (Sum.inr (Sum.inr (Sum.inr (Sum.inr (Sum.inr (Sum.inr (Sum.inr (Sum.inl { a := (0 : Nat), u := (4 : Nat), o := (0 : Nat), n := Prod.fst (Prod.snd (Prod.snd x3)), c := Prod.snd (Prod.snd (Prod.snd x3)) })))))))))))), Sum.inl (Sum.inr (Sum.inr (Sum.inr (Sum.inr (Sum.inr (Sum.inr (Sum.inl (IntKind.i64, (0 : Int))))))))), Sum.inl (Sum.inr (Sum.inr (Sum.inr (Sum.inr (Sum.inr (Sum.inr (Sum.inl (IntKind.i64, (0 : Int)))))))))]) { heap := [], ints := [], opqs := (0 : Nat), arrs := [some { elem := (37 : Nat), k := AK.o (Obj.rows [CK.n IntKind.i64, CK.s, CK.n IntKind.i64, CK.n IntKind.i64] (Prod.fst (Prod.snd x3))), l := [], cap := Prod.snd (Prod.snd (Prod.snd x3)), ro := false }], junks := (0 : Nat) }))) := by kernel_rfl
end Go.Proofs.YtdlmiebiineabaaDoor
end

section
set_option linter.unusedVariables false
set_option linter.unusedSimpArgs false
namespace Go.Proofs.YtdlmiebiineabaaDoor
open Go Reck Ost
theorem inS_blank (c : Int) : U.inS c [32, 9, 10, 13] = U.blank c := by
  rw [Bool.eq_iff_iff]; simp [U.inS, U.blank]
theorem inS_sign (c : Int) : U.inS c [61, 44, 59, 38, 33, 58, 45] = U.sign1 c := by
  rw [Bool.eq_iff_iff]; simp [U.inS, U.sign1]
theorem inS_dig (c : Int) : U.inS c [48, 49, 50, 51, 52, 53, 54, 55, 56, 57] = U.dig c := by
  rw [Bool.eq_iff_iff]; simp [U.inS, U.dig]; omega
theorem inS_let (c : Int) : U.inS c [97, 98, 99, 100, 101, 102, 103, 104, 105, 106, 107, 108, 109, 110, 111, 112, 113, 114, 115, 116, 117, 118, 119, 120, 121, 122] = decide (97 ≤ c ∧ c ≤ 122) := by
  rw [Bool.eq_iff_iff]; simp [U.inS]; omega
theorem alnum_or (c : Int) : U.alnum c = (decide (97 ≤ c ∧ c ≤ 122) || U.dig c) := by
  rw [Bool.eq_iff_iff]; simp [U.alnum, U.dig]
theorem signN_two (l : List Int) (h : l.take 2 = [45, 62]) : U.signN l = 2 := by
  match l, h with
  | a :: b :: m, h => simp at h; obtain ⟨rfl, rfl⟩ := h; rfl
theorem signN_one (l : List Int) (h : ¬ l.take 2 = [45, 62]) (hn : l ≠ []) : U.signN l = if U.sign1 (l.getD 0 0) then 1 else 0 := by
  match l, hn with
  | [a], _ => rfl
  | a :: b :: m, _ =>
    have : ¬ (a = 45 ∧ b = 62) := by simpa using h
    unfold U.signN
    dsimp only
    rw [if_neg this]; rfl
theorem tk_sign (l : List Int) (n : Nat) (h : U.signN l = n) (hn : n ≠ 0) : U.tk l = ⟨0, n, 3, 0⟩ := by
  unfold U.tk; rw [if_pos (by omega), h]
theorem tk_run (l : List Int) (h : U.signN l = 0) (w : List Int) (hw : w = l.takeWhile U.alnum) : U.tk l = if (U.kind w).2 ≠ 0 then ⟨(U.kind w).2, 0, 0, 0⟩ else ⟨0, w.length, (U.kind w).1, if (U.kind w).1 = 2 then U.num w else 0⟩ := by
  unfold U.tk; rw [if_neg (by omega), hw]
theorem num_snoc (w : List Int) (j : Nat) (h : j < w.length) : U.num (w.take (j + 1)) = U.num (w.take j) * 10 + (w.getD j 0 - 48) := by
  unfold U.num
  rw [List.take_add_one, List.getElem?_eq_getElem h, List.getD_eq_getElem?_getD, List.getElem?_eq_getElem h, List.foldl_append]
  rfl
theorem num_bound (w : List Int) (hd : U.alld w = true) : ∀ j : Nat, j ≤ w.length → 0 ≤ U.num (w.take j) ∧ U.num (w.take j) < 10 ^ j
  | 0, _ => by simp [U.num]
  | j + 1, h => by
    have ih := num_bound w hd j (by omega)
    rw [num_snoc w j (by omega)]
    have := dig_of.1 ((alld_iff w).1 hd j (by omega))
    have e : (10 : Int) ^ (j + 1) = 10 ^ j * 10 := by rw [Int.pow_succ]
    rw [e]; omega
theorem getD_drop (B : List Int) (i j : Nat) : (B.drop i).getD j 0 = B.getD (i + j) 0 := by
  rw [List.getD_eq_getElem?_getD, List.getElem?_drop, ← List.getD_eq_getElem?_getD]
theorem getD_take (B : List Int) (n j : Nat) (h : j < n) : (B.take n).getD j 0 = B.getD j 0 := by
  rw [List.getD_eq_getElem?_getD, List.getElem?_take, if_pos h, ← List.getD_eq_getElem?_getD]
end Go.Proofs.YtdlmiebiineabaaDoor
end

section
set_option linter.unusedVariables false
set_option linter.unusedSimpArgs false
namespace Go.Proofs.YtdlmiebiineabaaDoor
open Go Reck Ost
theorem na_ne {B : List Int} {a : Int} (ha : 0 ≤ a) (hl : a < B.length) (h : U.naI B a) : ¬ (B.drop a.toNat).take 2 = [45, 62] := by
  by_cases h2 : a + 1 < B.length
  · exact h.no h2
  · intro he
    have := congrArg List.length he
    rw [List.length_take, List.length_drop] at this
    simp only [List.length_cons, List.length_nil] at this
    omega
theorem drop_ne {B : List Int} {a : Int} (ha : 0 ≤ a) (hl : a < B.length) : B.drop a.toNat ≠ [] := by
  intro h
  have := congrArg List.length h
  rw [List.length_drop, List.length_nil] at this
  omega
theorem get_drop0 (B : List Int) (a : Int) : (B.drop a.toNat).getD 0 0 = B.getD a.toNat 0 := by
  rw [getD_drop, Nat.add_zero]
theorem sgn0 {B : List Int} {a : Int} (ha : 0 ≤ a) (hl : a < B.length) (h1 : U.naI B a) (h2 : U.nsI B a) : U.signN (B.drop a.toNat) = 0 := by
  rw [signN_one _ (na_ne ha hl h1) (drop_ne ha hl), get_drop0, h2.no]; rfl
theorem spR_skip {B : List Int} {a : Int} {L : List (List CV)} {n c : Nat} (h : U.splR B a L n c) (hl : a < B.length) (hb : U.blank (B.getD a.toNat 0) = true) : U.splR B (a + 1) L n c := by
  have h0 := h.lo
  have h1 := h.len
  refine ⟨by omega, ⟨h1.1, h1.2.1, by omega⟩, fun R p e hh => h.go R p e ?_⟩
  rw [drop_at (by omega)]
  refine U.Lexed.skip _ _ _ L R p e hb ?_
  rw [show a.toNat + 1 = (a + 1).toNat by omega]; exact hh
theorem spR_tok {B : List Int} {a k z b : Int} {w : List Int} {L L' : List (List CV)} {n c n' c' m : Nat} (h : U.splR B a L n c) (hl : a < B.length) (hb : U.blank (B.getD a.toNat 0) = false)
    (ht : U.tk (B.drop a.toNat) = ⟨0, m, k, z⟩) (hm : 1 ≤ m) (hw : w = (B.drop a.toNat).take m) (hbb : b = a + m) (hmb : b ≤ B.length) (hL : L' = L ++ [[CV.i k, CV.s w, CV.i z, CV.i a]]) (hn : n' = n + 1) (hc : n' ≤ c') :
    U.splR B b L' n' c' ∧ B.length - b.toNat < B.length - a.toNat := by
  have h0 := h.lo
  have h1 := h.len
  refine ⟨⟨by omega, ⟨?_, hc, by omega⟩, fun R p e hh => h.go R p e ?_⟩, by omega⟩
  · rw [hL, List.length_append]; simp only [List.length_cons, List.length_nil]; omega
  · have hd := drop_at (s := B) (i := a.toNat) (by omega)
    rw [hd] at ht ⊢
    refine U.Lexed.tok _ _ _ L R p e hb (by rw [ht]) ?_
    rw [ht, ← hd]
    dsimp only
    rw [List.drop_drop, ← hw, show ((a.toNat : Int)) = a by omega, show a.toNat + m = b.toNat by omega, ← hL]
    exact hh
theorem spR_bad {B : List Int} {a e : Int} {L : List (List CV)} {n c : Nat} (h : U.splR B a L n c) (hl : a < B.length) (hb : U.blank (B.getD a.toNat 0) = false) (ht : (U.tk (B.drop a.toNat)).e = e) (he : e ≠ 0) : U.Lexed 0 B [] [] a e := by
  have h0 := h.lo
  refine h.go [] a e ?_
  rw [drop_at (by omega)] at ht ⊢
  have := U.Lexed.bad a.toNat (B.getD a.toNat 0) (B.drop (a.toNat + 1)) L hb (by rw [ht]; exact he)
  rw [ht, show ((a.toNat : Int)) = a by omega] at this
  exact this
theorem rn_step {B : List Int} {i x y c : Int} {t t' : Nat} (hB : B.length ≤ 4096) (hi : 0 ≤ i) (h : U.rnI B i t x) (hx : x < B.length) (hc : c = B.getD x.toNat 0) (hy : y = IntKind.wrap .i64 (x + 1)) (ha : U.alnum c = true)
    (hd : t' = 1 → t = 1 ∧ U.dig c = true) (hn : t' = 0 → t = 0 ∨ U.dig c = false) : U.rnI B i t' y ∧ B.length - y.toNat < B.length - x.toNat := by
  have h0 := h.lo
  rw [w64 _ (by omega)] at hy
  have key : ∀ j : Nat, i ≤ j → (j : Int) < y → (j : Int) < x ∨ j = x.toNat := by intro j _ h; omega
  refine ⟨⟨by omega, fun j h1 h2 => ?_, fun ht j h1 h2 => ?_, fun ht => ?_⟩, by omega⟩
  · rcases key j h1 h2 with h3 | h3
    · exact h.al j h1 h3
    · rw [h3, ← hc]; exact ha
  · rcases key j h1 h2 with h3 | h3
    · exact h.dg (hd ht).1 j h1 h3
    · rw [h3, ← hc]; exact (hd ht).2
  · rcases hn ht with h3 | h3
    · obtain ⟨j, g1, g2, g3⟩ := h.nd h3
      exact ⟨j, g1, by omega, g3⟩
    · exact ⟨x.toNat, by omega, by omega, by rw [← hc]; exact h3⟩
/-- A run that has ended is the run at its beginning. -/
theorem rn_end {B : List Int} {a k : Int} {t m n : Nat} {w : List Int} (ha : 0 ≤ a) (hB : B.length ≤ 4096) (h : U.rnE B a t k) (hm : (m : Int) = a) (hn : (n : Int) = k - a) (hw : w = List.take n (List.drop m B)) :
    w = (B.drop a.toNat).takeWhile U.alnum ∧ w = (B.drop a.toNat).take n ∧ w.length = n ∧ w.length ≤ 4096 ∧ k = a + w.length ∧ (t = 1 → U.alld w = true) ∧ (t = 0 → U.alld w = false ∧ w ≠ []) ∧ (w ≠ [] → U.alnum (w.getD 0 0) = true) := by
  obtain ⟨h1, h2⟩ := h
  have h0 := h1.lo
  obtain rfl : m = a.toNat := by omega
  have hl : (B.drop a.toNat).length = B.length - a.toNat := List.length_drop
  have hwl : w.length = n := by rw [hw, List.length_take, hl]; omega
  have hg : ∀ j, j < n → w.getD j 0 = B.getD (a.toNat + j) 0 := fun j hj => by rw [hw, getD_take _ _ _ hj, getD_drop]
  have hr : U.runN (B.drop a.toNat) = n := by
    refine runN_of _ n (by omega) (fun j hj => ?_) ?_
    · rw [getD_drop]; exact h1.al (a.toNat + j) (by omega) (by omega)
    · rcases h2 with h2 | h2
      · left; omega
      · right; rw [getD_drop, show a.toNat + n = k.toNat by omega]; exact h2
  refine ⟨by rw [takeW_eq, hr, hw], hw, hwl, by omega, by omega, fun ht => ?_, fun ht => ?_, fun hne => ?_⟩
  · rw [alld_iff]
    intro j hj
    rw [hg j (by omega)]
    exact h1.dg ht _ (by omega) (by omega)
  · obtain ⟨j, g1, g2, g3⟩ := h1.nd ht
    refine ⟨?_, fun hw0 => by rw [hw0] at hwl; simp at hwl; omega⟩
    rw [Bool.eq_false_iff]
    intro hal
    have := (alld_iff w).1 hal (j - a.toNat) (by omega)
    rw [hg _ (by omega), show a.toNat + (j - a.toNat) = j by omega, g3] at this
    cases this
  · have := List.length_pos_iff.2 hne
    rw [hg 0 (by omega)]
    exact h1.al _ (by omega) (by omega)
theorem nm_step {w : List Int} {j z c z1 z2 z3 z4 y : Int} (hl : w.length ≤ 6) (hd : U.alld w = true) (h : U.nmI w j z) (hj : j < w.length) (h1 : z1 = IntKind.wrap .i64 (z * 10)) (hc : c = w.getD j.toNat 0) (hc0 : 0 ≤ c) (hc1 : c < 256) (h2 : z2 = IntKind.wrap .i64 c) (h3 : z3 = IntKind.wrap .i64 (z1 + z2)) (h4 : z4 = IntKind.wrap .i64 (z3 - 48)) (hy : y = IntKind.wrap .i64 (j + 1)) :
    U.nmI w y z4 ∧ w.length - y.toNat < w.length - j.toNat := by
  have h0 := h.lo
  have hb := num_bound w hd j.toNat (by omega)
  have hdj := dig_of.1 ((alld_iff w).1 hd j.toNat (by omega))
  rw [← hc] at hdj
  have hp : (10 : Int) ^ j.toNat ≤ 10 ^ 6 := by
    have : j.toNat ≤ 6 := by omega
    exact_mod_cast Nat.pow_le_pow_right (by decide) this
  rw [← h.eq] at hb
  have hp' : (10 : Int) ^ 6 = 1000000 := by decide
  rw [hp'] at hp
  rw [w64 _ (by omega)] at h1 h2 hy
  subst h1 h2
  rw [w64 _ (by omega)] at h3
  subst h3
  rw [w64 _ (by omega)] at h4
  refine ⟨⟨by omega, ?_⟩, by omega⟩
  rw [show y.toNat = j.toNat + 1 by omega, num_snoc w j.toNat (by omega), ← h.eq, ← hc]; omega
theorem rsplit_run (K : AV → St → Prop) (s : List Int)
    (hK : ∀ (L : List (List CV)) (n c : Nat) (p e : Int), U.Split s L p e → L.length = n → n ≤ c → n ≤ 4096 → K (spV (rslC ⟨0, 4, 0, n, c⟩) p e) ⟨[], [], 0, [tokB 37 L c], 0⟩) :
    goT Tryd.prog [] (orcR invLS9 meetLS9 tLS9) (opMem Tryd.prog) 3000 (.inr (.inr (.inr (.inr 8)))) [cell (strC s)] emptySt (retC emptySt K) := by
  rw [rsplit_vc]
  intro z0 hz0
  refine ⟨fun hl => hK [] 0 0 0 6 ⟨fun _ => ⟨rfl, rfl, rfl⟩, fun h => by omega⟩ rfl (Nat.le_refl _) (by omega), fun hl => ⟨by omega, fun B hB => ⟨⟨(0, [], 0, 0), rfl, ⟨rfl, rfl, rfl⟩, ⟨rfl, rfl, rfl⟩, rfl, ⟨rfl, rfl, rfl⟩, ⟨rfl, rfl, rfl⟩, ⟨⟨by dsimp only; omega, by dsimp only; omega⟩, ⟨rfl, by dsimp only; omega, by dsimp only; omega⟩, fun R p e h => h⟩⟩, ?_⟩⟩⟩
  have hBl : B.length = s.length := by rw [hB, bare_len]
  have hB4 : B.length ≤ 4096 := by omega
  have short : ∀ (L : List (List CV)) (p e : Int), U.Lexed 0 B [] L p e → U.Split s L p e := fun L p e h => ⟨fun h => by omega, fun _ => by rw [← hB]; exact h⟩
  rintro ⟨a, L, n, c⟩ h
  dsimp only at h ⊢
  have h0 := h.lo
  have h1 := h.len
  have err : ∀ e : Int, U.Lexed 0 B [] [] a e → K (spV (rslC ⟨0, 4, 0, 0, 0⟩) a e) ⟨[], [], 0, [tokB 37 [] 0], 0⟩ := fun e he => hK [] 0 0 a e (short _ _ _ he) rfl (Nat.le_refl _) (by omega)
  have hLL : List.take n (List.drop (OfNat.ofNat 0) L) = L := List.take_of_length_le (by simp; omega)
  intro z4 hz4
  refine ⟨fun ha => ⟨⟨by omega, by omega⟩, fun d hd d0 d1 => ⟨by decide, fun gb y hy => ?_, fun gb => ⟨fun y hy z9 h9 => ⟨fun g2 z10 h10 => ⟨⟨by omega, ?_, ?_⟩, fun m11 n12 h11 h12 t ht => ⟨fun gt => ⟨⟨by simp; omega, by omega⟩, trivial, by omega, by decide, fun L' n' c' hL' hn' hc' z17 h17 => ?_⟩, fun gt => ⟨0, rfl, ⟨rfl, rfl, rfl⟩, ⟨rfl, rfl, rfl⟩, rfl, ⟨rfl, rfl, rfl⟩, ⟨rfl, rfl, rfl⟩, ⟨fun _ => ?_⟩⟩⟩⟩, fun g2 => ⟨0, rfl, ⟨rfl, rfl, rfl⟩, ⟨rfl, rfl, rfl⟩, rfl, ⟨rfl, rfl, rfl⟩, ⟨rfl, rfl, rfl⟩, ⟨fun g3 => ?_⟩⟩⟩, fun _ hna => ?_⟩⟩⟩, fun ha => hK L n c 0 0 (short _ _ _ (h.go _ _ _ ?_)) h1.1 h1.2.1 (by omega)⟩
  · rw [w64 _ (by omega)] at hy
    rw [inS_blank, hd] at gb
    have := spR_skip h (by omega) gb
    rw [hy]
    exact ⟨(a + 1, L, n, c), rfl, ⟨rfl, rfl, rfl⟩, ⟨rfl, rfl, rfl⟩, rfl, ⟨rfl, rfl, rfl⟩, ⟨rfl, rfl, rfl⟩, this, by dsimp only; omega⟩
  · rw [w64 _ (by omega)] at h10; omega
  · rw [w64 _ (by omega)] at h10 hy; omega
  · rw [w64 _ (by omega)] at h10 h17 hy
    rw [hLL] at hL'
    rw [inS_blank, hd] at gb
    have e11 : m11 = a.toNat := by omega
    have e12 : n12 = 2 := by omega
    have ht2 : (B.drop a.toNat).take 2 = [45, 62] := by rw [← e11, ← e12, ← ht]; exact gt
    obtain ⟨q1, q2⟩ := spR_tok (m := 2) (b := a + 2) h (by omega) gb (tk_sign _ 2 (signN_two _ ht2) (by decide)) (by decide) ht2.symm (by omega) (by omega) hL' hn' hc'
    rw [h17]
    exact ⟨(a + 2, L', n', c'), rfl, ⟨rfl, rfl, rfl⟩, ⟨rfl, rfl, rfl⟩, rfl, ⟨rfl, rfl, rfl⟩, ⟨rfl, rfl, rfl⟩, q1, q2⟩
  · rw [w64 _ (by omega)] at h10 hy
    have e11 : m11 = a.toNat := by omega
    have e12 : n12 = 2 := by omega
    rw [← e11, ← e12, ← ht]; exact gt
  · rw [w64 _ (by omega)] at hy; omega
  · rw [inS_blank, hd] at gb
    refine ⟨⟨⟨by omega, by omega⟩, fun d2 hd2 d20 d21 => ⟨by decide, fun gs z23 h23 => ⟨⟨by omega, ?_, ?_⟩, fun m24 n25 h24 h25 t ht => ⟨⟨by simp; omega, by omega⟩, trivial, by omega, by decide, fun L' n' c' hL' hn' hc' z30 h30 => ?_⟩⟩, fun gs => ⟨0, rfl, ⟨rfl, rfl, rfl⟩, ⟨rfl, rfl, rfl⟩, rfl, ⟨rfl, rfl, rfl⟩, ⟨rfl, rfl, rfl⟩, ⟨?_⟩⟩⟩⟩, fun _ hns => ?_⟩
    · rw [w64 _ (by omega)] at h23; omega
    · rw [w64 _ (by omega)] at h23; omega
    · rw [w64 _ (by omega)] at h23 h30
      rw [hLL] at hL'
      rw [inS_sign, hd2] at gs
      have e24 : m24 = a.toNat := by omega
      have e25 : n25 = 1 := by omega
      have hsg : U.signN (B.drop a.toNat) = 1 := by rw [signN_one _ (na_ne (by omega) (by omega) hna) (drop_ne (by omega) (by omega)), get_drop0, gs]; rfl
      obtain ⟨q1, q2⟩ := spR_tok (m := 1) (b := a + 1) (w := t) h (by omega) gb (tk_sign _ 1 hsg (by decide)) (by decide) (by rw [ht, e24, e25]) (by omega) (by omega) hL' hn' hc'
      rw [h30]
      exact ⟨(a + 1, L', n', c'), rfl, ⟨rfl, rfl, rfl⟩, ⟨rfl, rfl, rfl⟩, rfl, ⟨rfl, rfl, rfl⟩, ⟨rfl, rfl, rfl⟩, q1, q2⟩
    · rw [inS_sign, hd2] at gs; exact gs
    · have hsg := sgn0 (by omega) (by omega) hna hns
      have hdl : ∀ d : Int, U.inS d [97, 98, 99, 100, 101, 102, 103, 104, 105, 106, 107, 108, 109, 110, 111, 112, 113, 114, 115, 116, 117, 118, 119, 120, 121, 122] = true → U.alnum d = true ∧ U.dig d = false := by
        intro d h; rw [inS_let] at h; simp only [decide_eq_true_eq] at h
        exact ⟨by simp only [U.alnum, decide_eq_true_eq]; omega, by simp only [U.dig, decide_eq_false_iff_not]; omega⟩
      have hdd : ∀ d : Int, U.inS d [48, 49, 50, 51, 52, 53, 54, 55, 56, 57] = true → U.alnum d = true ∧ U.dig d = true := by
        intro d h; rw [inS_dig] at h; exact ⟨by rw [alnum_or, h, Bool.or_true], h⟩
      have hno : ∀ d : Int, U.inS d [97, 98, 99, 100, 101, 102, 103, 104, 105, 106, 107, 108, 109, 110, 111, 112, 113, 114, 115, 116, 117, 118, 119, 120, 121, 122] = false → U.inS d [48, 49, 50, 51, 52, 53, 54, 55, 56, 57] = false → U.alnum d = false := by
        intro d h h'; rw [inS_let] at h; rw [inS_dig] at h'; rw [alnum_or, h, h']; rfl
      refine ⟨⟨⟨a, rfl, ⟨rfl, rfl, rfl⟩, ⟨rfl, rfl, rfl⟩, rfl, rfl, ⟨rfl, rfl, rfl⟩, ⟨rfl, rfl, rfl⟩, ⟨by omega, fun j g1 g2 => by omega, fun _ j g1 g2 => by omega, fun g => absurd g (by decide)⟩⟩, ?_, ?_⟩, ?_, ?_⟩
      · intro x hx z36 h36
        have hx0 := hx.lo
        refine ⟨fun g1 => ⟨⟨by omega, by omega⟩, fun d hd d0 d1 => ⟨by decide, fun g y hy => ?_, fun g => ⟨⟨by omega, by omega⟩, fun d' hd' d0' d1' => ⟨by decide, fun g' y hy => ?_, fun g' => ⟨x, rfl, ⟨rfl, rfl, rfl⟩, ⟨rfl, rfl, rfl⟩, rfl, rfl, ⟨rfl, rfl, rfl⟩, ⟨rfl, rfl, rfl⟩, hx, Or.inr ?_⟩⟩⟩⟩⟩, fun g1 => ⟨x, rfl, ⟨rfl, rfl, rfl⟩, ⟨rfl, rfl, rfl⟩, rfl, rfl, ⟨rfl, rfl, rfl⟩, ⟨rfl, rfl, rfl⟩, hx, Or.inl (by omega)⟩⟩
        · obtain ⟨q1, q2⟩ := rn_step (t' := 0) hB4 (by omega) hx (by omega) hd hy (hdl d g).1 (fun h => absurd h (by decide)) (fun _ => Or.inl rfl)
          exact ⟨y, rfl, ⟨rfl, rfl, rfl⟩, ⟨rfl, rfl, rfl⟩, rfl, rfl, ⟨rfl, rfl, rfl⟩, ⟨rfl, rfl, rfl⟩, q1, q2⟩
        · obtain ⟨q1, q2⟩ := rn_step (t' := 0) hB4 (by omega) hx (by omega) hd' hy (hdd d' g').1 (fun h => absurd h (by decide)) (fun _ => Or.inl rfl)
          exact ⟨y, rfl, ⟨rfl, rfl, rfl⟩, ⟨rfl, rfl, rfl⟩, rfl, rfl, ⟨rfl, rfl, rfl⟩, ⟨rfl, rfl, rfl⟩, q1, q2⟩
        · rw [← hd]; exact hno d g (by rw [hd, ← hd']; exact g')
      · intro x hx z46 h46
        have hx0 := hx.lo
        refine ⟨fun g1 => ⟨⟨by omega, by omega⟩, fun d hd d0 d1 => ⟨by decide, fun g => ⟨⟨by omega, by omega⟩, fun d' hd' d0' d1' => ⟨by decide, fun g' y hy => ?_, fun g' y hy => ?_⟩⟩, fun g => ⟨⟨by omega, by omega⟩, fun d' hd' d0' d1' => ⟨by decide, fun g' => ⟨⟨by omega, by omega⟩, fun d'' hd'' d0'' d1'' => ⟨by decide, fun g'' y hy => ?_, fun g'' y hy => ?_⟩⟩, fun g' => ⟨x, rfl, ⟨rfl, rfl, rfl⟩, ⟨rfl, rfl, rfl⟩, rfl, rfl, ⟨rfl, rfl, rfl⟩, ⟨rfl, rfl, rfl⟩, hx, Or.inr ?_⟩⟩⟩⟩⟩, fun g1 => ⟨x, rfl, ⟨rfl, rfl, rfl⟩, ⟨rfl, rfl, rfl⟩, rfl, rfl, ⟨rfl, rfl, rfl⟩, ⟨rfl, rfl, rfl⟩, hx, Or.inl (by omega)⟩⟩
        · obtain ⟨q1, q2⟩ := rn_step (t' := 1) hB4 (by omega) hx (by omega) hd' hy (hdd d' g').1 (fun _ => ⟨rfl, (hdd d' g').2⟩) (fun h => absurd h (by decide))
          exact ⟨y, rfl, ⟨rfl, rfl, rfl⟩, ⟨rfl, rfl, rfl⟩, rfl, rfl, ⟨rfl, rfl, rfl⟩, ⟨rfl, rfl, rfl⟩, q1, q2⟩
        · obtain ⟨q1, q2⟩ := rn_step (t' := 0) hB4 (by omega) hx (by omega) hd hy (hdl d g).1 (fun h => absurd h (by decide)) (fun _ => Or.inr (hdl d g).2)
          exact ⟨y, rfl, ⟨rfl, rfl, rfl⟩, ⟨rfl, rfl, rfl⟩, rfl, rfl, ⟨rfl, rfl, rfl⟩, ⟨rfl, rfl, rfl⟩, q1, q2⟩
        · obtain ⟨q1, q2⟩ := rn_step (t' := 1) hB4 (by omega) hx (by omega) hd' hy (hdd d' g').1 (fun _ => ⟨rfl, (hdd d' g').2⟩) (fun h => absurd h (by decide))
          exact ⟨y, rfl, ⟨rfl, rfl, rfl⟩, ⟨rfl, rfl, rfl⟩, rfl, rfl, ⟨rfl, rfl, rfl⟩, ⟨rfl, rfl, rfl⟩, q1, q2⟩
        · rw [hd'', ← hd', g'] at g''; cases g''
        · rw [← hd]; exact hno d g (by rw [hd, ← hd']; exact g')
      · intro x hx
        have hx0 := hx.run.lo
        refine ⟨⟨by omega, by omega, by omega⟩, fun m n hm hn w hw z65 h65 => ?_⟩
        obtain ⟨w1, w2, w3, w4, w5, _, w7, w8⟩ := rn_end (by omega) hB4 hx hm hn hw
        obtain ⟨w9, w10⟩ := w7 rfl
        have htk := tk_run _ hsg w w1
        have hw11 := w8 w10
        have hw0 := List.length_pos_iff.2 w10
        have hkind : U.kind w = if ¬ U.dig (w.getD 0 0) then (if 16 < w.length then (0, 6) else (1, 0)) else (0, 20) := by
          unfold U.kind; rw [if_neg w10]
          split
          · rfl
          · rw [if_pos (by rw [w9]; decide)]
        refine ⟨fun g => by omega, fun _ => ⟨⟨by omega, by omega⟩, fun d hd d0 d1 => ⟨by decide, fun g => err 20 (spR_bad h (by omega) gb ?_ (by decide)), fun g z67 h67 => ⟨fun g2 => err 6 (spR_bad h (by omega) gb ?_ (by decide)), fun g2 => ⟨⟨by simp; omega, by omega⟩, trivial, by omega, by decide, fun L' n' c' hL' hn' hc' => ?_⟩⟩⟩⟩⟩
        · rw [inS_dig, hd] at g
          have hk : U.kind w = (0, 20) := by rw [hkind, if_neg (by rw [g]; simp)]
          rw [htk, hk]; rfl
        · rw [inS_dig, hd] at g
          have hk : U.kind w = (0, 6) := by rw [hkind, if_pos (by rw [g]; simp), if_pos (by omega)]
          rw [htk, hk]; rfl
        · rw [inS_dig, hd] at g
          rw [hLL] at hL'
          have ht : U.tk (B.drop a.toNat) = ⟨0, w.length, 1, 0⟩ := by
            have hk : U.kind w = (1, 0) := by rw [hkind, if_pos (by rw [g]; simp), if_neg (by omega)]
            rw [htk, hk]; rfl
          obtain ⟨q1, q2⟩ := spR_tok (b := x) (w := w) h (by omega) gb ht (by omega) (by rw [w3]; exact w2) (by omega) (by omega) hL' hn' hc'
          exact ⟨(x, L', n', c'), rfl, ⟨rfl, rfl, rfl⟩, ⟨rfl, rfl, rfl⟩, rfl, ⟨rfl, rfl, rfl⟩, ⟨rfl, rfl, rfl⟩, q1, q2⟩
      · intro x hx
        have hx0 := hx.run.lo
        refine ⟨⟨by omega, by omega, by omega⟩, fun m n hm hn w hw z76 h76 => ?_⟩
        obtain ⟨w1, w2, w3, w4, w5, w6, _, w8⟩ := rn_end (by omega) hB4 hx hm hn hw
        have w6 := w6 rfl
        have htk := tk_run _ hsg w w1
        have hdg : w ≠ [] → U.dig (w.getD 0 0) = true := fun hne => (alld_iff w).1 w6 0 (List.length_pos_iff.2 hne)
        have hkind : w ≠ [] → U.kind w = if 6 < w.length then (0, 6) else if w.getD 0 0 = 48 ∧ 1 < w.length then (0, 20) else (2, 0) := by
          intro hne
          unfold U.kind; rw [if_neg hne, if_neg (by rw [hdg hne]; simp), if_neg (by rw [w6]; simp)]
        have ne : ¬ z76 = 0 → w ≠ [] := fun g hw0 => g (by rw [h76, hw0]; rfl)
        have e6 : ¬ z76 = 0 → 6 < w.length → (U.tk (B.drop a.toNat)).e = 6 := fun g g2 => by
          have hk : U.kind w = (0, 6) := by rw [hkind (ne g), if_pos g2]
          rw [htk, hk]; rfl
        have e20 : ¬ z76 = 0 → ¬ 6 < w.length → w.getD 0 0 = 48 ∧ 1 < w.length → (U.tk (B.drop a.toNat)).e = 20 := fun g g2 g3 => by
          have hk : U.kind w = (0, 20) := by rw [hkind (ne g), if_neg g2, if_pos g3]
          rw [htk, hk]; rfl
        refine ⟨fun g => err 20 (spR_bad h (by omega) gb (by rw [htk, List.length_eq_zero_iff.1 (by omega : w.length = 0)]; rfl) (by decide)), fun g z77 h77 => ⟨fun g1 z78 h78 => ⟨fun g78 => ⟨⟨by omega, by omega⟩, fun d hd d0 d1 => ⟨fun g48 => err 20 (spR_bad h (by omega) gb (e20 g (by omega) ⟨by rw [← g48, hd], by omega⟩) (by decide)), fun g48 z80 h80 => ⟨fun g6 => err 6 (spR_bad h (by omega) gb (e6 g (by omega)) (by decide)), fun g6 z81 h81 => ⟨fun g16 => by omega, fun g16 => ?_⟩⟩⟩⟩, fun g78 z96 h96 => ⟨fun g6 => err 6 (spR_bad h (by omega) gb (e6 g (by omega)) (by decide)), fun g6 z97 h97 => ⟨fun g16 => by omega, fun g16 => ?_⟩⟩⟩, fun g1 z112 h112 => ⟨fun g6 => err 6 (spR_bad h (by omega) gb (e6 g (by omega)) (by decide)), fun g6 z113 h113 => ⟨fun g16 => by omega, fun g16 => ?_⟩⟩⟩⟩
        all_goals
          have hg3 : ¬ (w.getD 0 0 = 48 ∧ 1 < w.length) := by
            rintro ⟨q1, q2⟩
            first | omega | exact g48 (by rw [hd]; exact q1)
          have ht : U.tk (B.drop a.toNat) = ⟨0, w.length, 2, U.num w⟩ := by
            have hk : U.kind w = (2, 0) := by rw [hkind (ne g), if_neg (by omega), if_neg hg3]
            rw [htk, hk]; rfl
          refine ⟨⟨(0, 0), rfl, ⟨rfl, rfl, rfl⟩, ⟨rfl, rfl, rfl⟩, rfl, rfl, rfl, rfl, rfl, rfl, rfl, ⟨rfl, rfl, rfl⟩, ⟨rfl, rfl, rfl⟩, ⟨⟨by decide, by dsimp only; omega⟩, rfl⟩⟩, ?_⟩
          rintro ⟨j, z⟩ hj zl hzl
          dsimp only at hj ⊢
          have hj0 := hj.lo
          refine ⟨fun q1 z1 r1 => ⟨⟨by omega, by omega⟩, fun c hc c0 c1 z2 r2 z3 r3 z4 r4 y hy => ?_⟩, fun q1 => ⟨⟨by simp; omega, by omega⟩, trivial, by omega, by decide, fun L' n' c' hL' hn' hc' => ?_⟩⟩
          · obtain ⟨p1, p2⟩ := nm_step (by omega) w6 hj (by omega) r1 hc c0 c1 r2 r3 r4 hy
            exact ⟨(y, z4), rfl, ⟨rfl, rfl, rfl⟩, ⟨rfl, rfl, rfl⟩, rfl, rfl, rfl, rfl, rfl, rfl, rfl, ⟨rfl, rfl, rfl⟩, ⟨rfl, rfl, rfl⟩, p1, p2⟩
          · have hz : z = U.num w := by rw [hj.eq, List.take_of_length_le (by omega)]
            rw [hLL] at hL'
            obtain ⟨p1, p2⟩ := spR_tok (b := x) (w := w) h (by omega) gb (by rw [ht, ← hz]) (by omega) (by rw [w3]; exact w2) (by omega) (by omega) hL' hn' hc'
            exact ⟨(x, L', n', c'), rfl, ⟨rfl, rfl, rfl⟩, ⟨rfl, rfl, rfl⟩, rfl, ⟨rfl, rfl, rfl⟩, ⟨rfl, rfl, rfl⟩, p1, p2⟩
  · rw [List.drop_of_length_le (by omega)]
    exact U.Lexed.stop _ _
theorem pRSplit_ok : PatOk 8 (pSplit 37) := by
  intro tm σ C h K hK w0 e w hk vs hvs
  unfold pSplit at h
  split at h
  · split at h
    · rename_i s hs
      simp only [Option.some.injEq] at h; subst h
      obtain ⟨v, rfl, hv⟩ := ones hvs
      exact knownC (R := orcR invLS9 meetLS9 tLS9) (n := 3000) noOv names (conOk_ofR tLS9_ok) (rsplit_run K s hK) w0 e w hk [v] (by simp [as_str hs hv])
    · cases h
  · cases h
end Go.Proofs.YtdlmiebiineabaaDoor
end
