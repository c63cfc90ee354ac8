/- Parts of a proof, one behind the other: SD1 SD2 SD3 SD4 SD5 SD6. No condition. -/
import Derived.Test.YtfiadoboagpgkaaGC
section
namespace Go.Proofs.Ytfiadoboagpgkaa
open Go Reck Ost
set_option linter.unusedVariables false
set_option maxRecDepth 100000
def ssG (G : Rws) (cg : Nat) : ABlk := sskB G cg
structure U.ssIn (G : Rws) (q : Nat) (k : List Int) : Prop where
  out : ∃ m : Nat, m < q ∧ U.fs G m 0 = k
/-- The places that stay, of the first ones. -/
noncomputable def U.ssKp (G : Rws) (q : Nat) (L : Rws) (i : Nat) : List Nat := (List.range i).filter fun m => @decide (¬ U.ssIn G q (U.fs L m 0)) (Classical.propDecidable _)
structure U.swI (G : Rws) (q : Nat) (L M : Rws) (n : Nat) (i j : Int) (L' M' : Rws) : Prop where
  b : 0 ≤ i ∧ i ≤ n ∧ 0 ≤ j ∧ j ≤ i
  ln : L'.length = L.length ∧ M'.length = M.length
  jq : j = (U.ssKp G q L i.toNat).length
  kk : L'.take j.toNat = (U.ssKp G q L i.toNat).map fun m => L.getD m []
  vv : M'.take j.toNat = (U.ssKp G q L i.toNat).map fun m => M.getD m []
  rl : ∀ m : Nat, i ≤ m → L'[m]? = L[m]?
  rm : ∀ m : Nat, i ≤ m → M'[m]? = M[m]?
  tk : ∀ m : Nat, m < n → ∃ k : List Int, L'[m]? = some [.s k]
  tv : ∀ m : Nat, m < n → ∃ v : Int, M'[m]? = some [.i v]
def shArr (σ : St) (s i : Nat) : RSl := match getBlk σ s with
  | some x => (match cRsl (x.cells.getD i (.inl undef)) with
    | some r => r
    | none => ⟨0, 0, 0, 0, 0⟩)
  | none => ⟨0, 0, 0, 0, 0⟩
def capAt (σ : St) (a : Nat) : Nat := match getArr σ a with
  | some b => b.cap
  | none => 0
def swInv (tm : List AV) (σ : St) : Inv where
  X := Int × (Int × (Rws × Rws))
  tags := [0]
  tag _ _ := 0
  J := [2, 3, 5, 6, 7, 8, 9, 10, 11, 15, 16, 17, 18, 19, 20, 21, 22, 23, 24, 25, 26, 27, 28, 29, 30, 31, 32, 33, 34, 35, 36, 37, 38, 39, 40, 41, 42, 43, 44, 45, 46, 47, 48, 49, 50, 51, 52, 53, 54, 55, 56, 57, 58, 59, 60, 61, 62, 63, 64, 65, 66, 67, 68, 69, 70, 71, 72, 73, 74, 75, 76, 77, 78, 79]
  val _ x := [(4, xi .i64 x.2.1), (14, xi .i64 x.1)]
  st _ x σ' := ⟨σ'.heap, σ'.ints, σ'.opqs, (σ'.arrs.set (shArr σ 0 0).a (some (sskB x.2.2.1 (capAt σ (shArr σ 0 0).a)))).set (shArr σ 0 1).a (some (ssvB x.2.2.2 (capAt σ (shArr σ 0 1).a))), σ'.junks⟩
  I _ x := U.swI (rowsAt σ (slotR tm 1).a) (slotR tm 1).n (rowsAt σ (shArr σ 0 0).a) (rowsAt σ (shArr σ 0 1).a) (slotR tm 12).n x.1 x.2.1 x.2.2.1 x.2.2.2
  m _ x := ((slotR tm 12).n : Int).toNat - x.1.toNat
  ren := noRen
def invSw : InvF := fun c tm σ => match tm.length, firstReg c with
  | 80, some 2 => some (swInv tm σ)
  | _, _ => none
def swSt (n c : Nat) (L : Rws) (d : Nat) (M : Rws) (m : Int) (G : Rws) (cg : Nat) : St := ⟨[ssB (rslC ⟨0, 1, 0, n, c⟩) (rslC ⟨1, 1, 0, n, d⟩) m], [], 0, [some (sskB L c), some (ssvB M d), some (sskB G cg)], 0⟩
--PLAIN
theorem sweep_vc (K : AV → St → Prop) (L M G : Rws) (n c d q cg : Nat) (m : Int) : (runW ssov invSw (tblIf 42 sspBS) 32 [ptr 0 0, cell (rslC ⟨2, 1, 0, q, cg⟩)] (swSt n c L d M m G cg) K) = (∀ (z0 : Int), z0 = (↑n : Int) → (∃ (y1 : Int × Int × Rws × Rws), ((0 : Nat) = (0 : Nat) ∧ q = q ∧ cg = cg) ∧ (0 : Int) = Prod.fst (Prod.snd y1) ∧ ((0 : Nat) = (0 : Nat) ∧ n = n ∧ c = c) ∧ z0 = z0 ∧ (0 : Int) = Prod.fst y1 ∧ ((0 : Nat) = (0 : Nat) ∧ n = n ∧ c = c) ∧ ((0 : Nat) = (0 : Nat) ∧ n = n ∧ d = d) ∧ m = m ∧ (L = Prod.fst (Prod.snd (Prod.snd y1)) ∧ c = c ∧ false = false) ∧ (M = Prod.snd (Prod.snd (Prod.snd y1)) ∧ d = d ∧ false = false) ∧ (G = G ∧ cg = cg ∧ false = false) ∧ U.swI G q L M n (Prod.fst y1) (Prod.fst (Prod.snd y1)) (Prod.fst (Prod.snd (Prod.snd y1))) (Prod.snd (Prod.snd (Prod.snd y1)))) ∧ ∀ (x2 : Int × Int × Rws × Rws), U.swI G q L M n (Prod.fst x2) (Prod.fst (Prod.snd x2)) (Prod.fst (Prod.snd (Prod.snd x2))) (Prod.snd (Prod.snd (Prod.snd x2))) → (Prod.fst x2 < z0 → ((0 : Int) ≤ Prod.fst x2 ∧ Prod.fst x2 < (↑n : Int)) ∧ ∀ (j3 : Nat), (↑j3 : Int) = (↑((0 : Nat)) : Int) + Prod.fst x2 → j3 < List.length (Prod.fst (Prod.snd (Prod.snd x2))) ∧ ∀ (z4 : List Int), z4 = U.fs (Prod.fst (Prod.snd (Prod.snd x2))) j3 ((0 : Nat)) → (cg = cg ∧ q ≤ List.length G ∧ q ≤ (1000000 : Nat) ∧ U.ssSrtR G q) ∧ ∀ (z5 : Int), U.ssAt G q z4 z5 → (U.ssHasAt G q z4 z5 → ∀ (z6 : Int), z6 = IntKind.wrap IntKind.i64 (Prod.fst x2 + (1 : Int)) → ∃ (y7 : Int × Int × Rws × Rws), ((0 : Nat) = (0 : Nat) ∧ q = q ∧ cg = cg) ∧ Prod.fst (Prod.snd x2) = Prod.fst (Prod.snd y7) ∧ ((0 : Nat) = (0 : Nat) ∧ n = n ∧ c = c) ∧ z0 = z0 ∧ z6 = Prod.fst y7 ∧ ((0 : Nat) = (0 : Nat) ∧ n = n ∧ c = c) ∧ ((0 : Nat) = (0 : Nat) ∧ n = n ∧ d = d) ∧ m = m ∧ (Prod.fst (Prod.snd (Prod.snd x2)) = Prod.fst (Prod.snd (Prod.snd y7)) ∧ c = c ∧ false = false) ∧ (Prod.snd (Prod.snd (Prod.snd x2)) = Prod.snd (Prod.snd (Prod.snd y7)) ∧ d = d ∧ false = false) ∧ (G = G ∧ cg = cg ∧ false = false) ∧ U.swI G q L M n (Prod.fst y7) (Prod.fst (Prod.snd y7)) (Prod.fst (Prod.snd (Prod.snd y7))) (Prod.snd (Prod.snd (Prod.snd y7))) ∧ Int.toNat (↑n : Int) - Int.toNat (Prod.fst y7) < Int.toNat (↑n : Int) - Int.toNat (Prod.fst x2)) ∧ (¬U.ssHasAt G q z4 z5 → ((0 : Int) ≤ Prod.fst x2 ∧ Prod.fst x2 < (↑n : Int)) ∧ ∀ (j8 : Nat), (↑j8 : Int) = (↑((0 : Nat)) : Int) + Prod.fst x2 → j8 < List.length (Prod.snd (Prod.snd (Prod.snd x2))) ∧ ∀ (z9 : Int), z9 = U.fi (Prod.snd (Prod.snd (Prod.snd x2))) j8 ((0 : Nat)) → ((0 : Int) ≤ Prod.fst (Prod.snd x2) ∧ Prod.fst (Prod.snd x2) < (↑n : Int)) ∧ ∀ (j10 : Nat), (↑j10 : Int) = (↑((0 : Nat)) : Int) + Prod.fst (Prod.snd x2) → j10 < List.length (Prod.fst (Prod.snd (Prod.snd x2))) ∧ ∀ (L'11 : List (List CV)), L'11 = U.put (Prod.fst (Prod.snd (Prod.snd x2))) j10 ((0 : Nat)) [CV.s z4] → ((0 : Int) ≤ Prod.fst (Prod.snd x2) ∧ Prod.fst (Prod.snd x2) < (↑n : Int)) ∧ ∀ (j12 : Nat), (↑j12 : Int) = (↑((0 : Nat)) : Int) + Prod.fst (Prod.snd x2) → j12 < List.length (Prod.snd (Prod.snd (Prod.snd x2))) ∧ ∀ (L'13 : List (List CV)), L'13 = U.put (Prod.snd (Prod.snd (Prod.snd x2))) j12 ((0 : Nat)) [CV.i z9] → ∀ (z14 : Int), z14 = IntKind.wrap IntKind.i64 (Prod.fst (Prod.snd x2) + (1 : Int)) → ∀ (z15 : Int), z15 = IntKind.wrap IntKind.i64 (Prod.fst x2 + (1 : Int)) → ∃ (y16 : Int × Int × Rws × Rws), ((0 : Nat) = (0 : Nat) ∧ q = q ∧ cg = cg) ∧ z14 = Prod.fst (Prod.snd y16) ∧ ((0 : Nat) = (0 : Nat) ∧ n = n ∧ c = c) ∧ z0 = z0 ∧ z15 = Prod.fst y16 ∧ ((0 : Nat) = (0 : Nat) ∧ n = n ∧ c = c) ∧ ((0 : Nat) = (0 : Nat) ∧ n = n ∧ d = d) ∧ m = m ∧ (L'11 = Prod.fst (Prod.snd (Prod.snd y16)) ∧ c = c ∧ false = false) ∧ (L'13 = Prod.snd (Prod.snd (Prod.snd y16)) ∧ d = d ∧ false = false) ∧ (G = G ∧ cg = cg ∧ false = false) ∧ U.swI G q L M n (Prod.fst y16) (Prod.fst (Prod.snd y16)) (Prod.fst (Prod.snd (Prod.snd y16))) (Prod.snd (Prod.snd (Prod.snd y16))) ∧ Int.toNat (↑n : Int) - Int.toNat (Prod.fst y16) < Int.toNat (↑n : Int) - Int.toNat (Prod.fst x2))) ∧ (¬Prod.fst x2 < z0 → ((0 : Int) ≤ Prod.fst (Prod.snd x2) ∧ Prod.fst (Prod.snd x2) ≤ (↑n : Int) ∧ (↑n : Int) ≤ (↑c : Int)) ∧ ∀ (o17 n18 c19 : Nat), ((↑o17 : Int) = if (↑c : Int) = Option.getD (some (Prod.fst (Prod.snd x2))) (0 : Int) then (↑((0 : Nat)) : Int) else (↑((0 : Nat)) : Int) + Prod.fst (Prod.snd x2)) → (↑n18 : Int) = (↑n : Int) - Prod.fst (Prod.snd x2) → (↑c19 : Int) = (↑c : Int) - Prod.fst (Prod.snd x2) → o17 + n18 ≤ List.length (Prod.fst (Prod.snd (Prod.snd x2))) ∧ ∀ (L'20 : List (List CV)), L'20 = List.take o17 (Prod.fst (Prod.snd (Prod.snd x2))) ++ List.replicate n18 [CV.s []] ++ List.drop (o17 + n18) (Prod.fst (Prod.snd (Prod.snd x2))) → ((0 : Int) ≤ Prod.fst (Prod.snd x2) ∧ Prod.fst (Prod.snd x2) ≤ (↑n : Int) ∧ (↑n : Int) ≤ (↑d : Int)) ∧ ∀ (o21 n22 c23 : Nat), ((↑o21 : Int) = if (↑d : Int) = Option.getD (some (Prod.fst (Prod.snd x2))) (0 : Int) then (↑((0 : Nat)) : Int) else (↑((0 : Nat)) : Int) + Prod.fst (Prod.snd x2)) → (↑n22 : Int) = (↑n : Int) - Prod.fst (Prod.snd x2) → (↑c23 : Int) = (↑d : Int) - Prod.fst (Prod.snd x2) → o21 + n22 ≤ List.length (Prod.snd (Prod.snd (Prod.snd x2))) ∧ ∀ (L'24 : List (List CV)), L'24 = List.take o21 (Prod.snd (Prod.snd (Prod.snd x2))) ++ List.replicate n22 [CV.i (0 : Int)] ++ List.drop (o21 + n22) (Prod.snd (Prod.snd (Prod.snd x2))) → ((0 : Int) ≤ (0 : Int) ∧ (0 : Int) ≤ Prod.fst (Prod.snd x2) ∧ Prod.fst (Prod.snd x2) ≤ (↑c : Int)) ∧ ∀ (o25 n26 c27 : Nat), ((↑o25 : Int) = if (↑c : Int) = Option.getD none (0 : Int) then (↑((0 : Nat)) : Int) else (0 : Int)) → (↑n26 : Int) = Prod.fst (Prod.snd x2) - (0 : Int) → (↑c27 : Int) = (↑c : Int) - (0 : Int) → ((0 : Int) ≤ (0 : Int) ∧ (0 : Int) ≤ Prod.fst (Prod.snd x2) ∧ Prod.fst (Prod.snd x2) ≤ (↑d : Int)) ∧ ∀ (o28 n29 c30 : Nat), ((↑o28 : Int) = if (↑d : Int) = Option.getD none (0 : Int) then (↑((0 : Nat)) : Int) else (0 : Int)) → (↑n29 : Int) = Prod.fst (Prod.snd x2) - (0 : Int) → (↑c30 : Int) = (↑d : Int) - (0 : Int) → K (Sum.inr []) { heap := [some { elem := nat_lit 43, cells := [Sum.inr (Sum.inr (Sum.inr (Sum.inr (Sum.inr (Sum.inr (Sum.inr (Sum.inr (Sum.inr (Sum.inr (Sum.inr (Sum.inl { a := (0 : Nat), u := (1 : Nat), o := o25, n := n26, c := c27 }))))))))))), Sum.inr (Sum.inr (Sum.inr (Sum.inr (Sum.inr (Sum.inr (Sum.inr (Sum.inr (Sum.inr (Sum.inr (Sum.inr (Sum.inl { a := (1 : Nat), u := (1 : Nat), o := o28, n := n29, c := c30 }))))))))))), Sum.inr (Sum.inr (Sum.inr (Sum.inr (Sum.inr (Sum.inr (Sum.inl (IntKind.i64, m)))))))], j := none, c := (3 : Nat), z := false }], ints := [], opqs := (0 : Nat), arrs := [some { elem := nat_lit 9, k := AK.o (Obj.rows [CK.s] L'20), l := [], cap := c, ro := false }, some { elem := nat_lit 3, k := AK.o (Obj.rows [CK.n IntKind.i64] L'24), l := [], cap := d, ro := false }, some { elem := (9 : Nat), k := AK.o (Obj.rows [CK.s] G), l := [], cap := cg, ro := false }], junks := (0 : Nat) })) := by kernel_rfl
theorem ssLen_vc (K : AV → St → Prop) (L M : Rws) (n c d : Nat) (m : Int) : (runV ssov inv0 tbl0 10 [ptr 0 0] (ssSt n c L d M m) K) = (∀ (z0 : Int), z0 = (↑n : Int) → K (Sum.inl (Sum.inl (Sum.inr (Sum.inr (Sum.inr (Sum.inr (Sum.inr (Sum.inr (Sum.inl (IntKind.i64, z0)))))))))) { heap := [some { elem := nat_lit 43, cells := [Sum.inr (Sum.inr (Sum.inr (Sum.inr (Sum.inr (Sum.inr (Sum.inr (Sum.inr (Sum.inr (Sum.inr (Sum.inr (Sum.inl { a := (0 : Nat), u := (1 : Nat), o := (0 : Nat), n := n, c := c }))))))))))), Sum.inr (Sum.inr (Sum.inr (Sum.inr (Sum.inr (Sum.inr (Sum.inr (Sum.inr (Sum.inr (Sum.inr (Sum.inr (Sum.inl { a := (1 : Nat), u := (1 : Nat), o := (0 : Nat), n := n, c := d }))))))))))), Sum.inr (Sum.inr (Sum.inr (Sum.inr (Sum.inr (Sum.inr (Sum.inl (IntKind.i64, m)))))))], j := none, c := (3 : Nat), z := false }], ints := [], opqs := (0 : Nat), arrs := [some { elem := (9 : TypeId), k := AK.o (Obj.rows [CK.s] L), l := [], cap := c, ro := false }, some { elem := (3 : TypeId), k := AK.o (Obj.rows [CK.n IntKind.i64] M), l := [], cap := d, ro := false }], junks := (0 : Nat) }) := by kernel_rfl
theorem ssNext_vc (K : AV → St → Prop) (L M : Rws) (n c d : Nat) (m : Int) (k : List Int) : (runV ssov inv0 sstSh 21 [ptr 0 0, cell (strC k)] (ssSt n c L d M m) K) = ((c = c ∧ n ≤ List.length L ∧ n ≤ (1000000 : Nat) ∧ U.ssSrtR L n) ∧ ∀ (z0 : Int), U.ssAt L n k z0 → (U.ssHasAt L n k z0 → ∀ (z1 : Int), z1 = IntKind.wrap IntKind.i64 (z0 + (1 : Int)) → ∀ (z2 : Int), z2 = (↑n : Int) → (z2 ≤ z1 → K (Sum.inr [Sum.inl (Sum.inr (Sum.inr (Sum.inr (Sum.inr (Sum.inr (Sum.inr (Sum.inr (Sum.inr (Sum.inr (Sum.inr (Sum.inl k))))))))))), Sum.inl (Sum.inr (Sum.inr (Sum.inr (Sum.inr (Sum.inr (Sum.inr (Sum.inl (IntKind.i64, (0 : Int))))))))), Sum.inl (Sum.inl (Value.bool false))]) { heap := [some { elem := nat_lit 43, cells := [Sum.inr (Sum.inr (Sum.inr (Sum.inr (Sum.inr (Sum.inr (Sum.inr (Sum.inr (Sum.inr (Sum.inr (Sum.inr (Sum.inl { a := (0 : Nat), u := (1 : Nat), o := (0 : Nat), n := n, c := c }))))))))))), Sum.inr (Sum.inr (Sum.inr (Sum.inr (Sum.inr (Sum.inr (Sum.inr (Sum.inr (Sum.inr (Sum.inr (Sum.inr (Sum.inl { a := (1 : Nat), u := (1 : Nat), o := (0 : Nat), n := n, c := d }))))))))))), Sum.inr (Sum.inr (Sum.inr (Sum.inr (Sum.inr (Sum.inr (Sum.inl (IntKind.i64, m)))))))], j := none, c := (3 : Nat), z := false }], ints := [], opqs := (0 : Nat), arrs := [some { elem := (9 : TypeId), k := AK.o (Obj.rows [CK.s] L), l := [], cap := c, ro := false }, some { elem := (3 : TypeId), k := AK.o (Obj.rows [CK.n IntKind.i64] M), l := [], cap := d, ro := false }], junks := (0 : Nat) }) ∧ (¬z2 ≤ z1 → ((0 : Int) ≤ z1 ∧ z1 < (↑n : Int)) ∧ ∀ (j3 : Nat), (↑j3 : Int) = (↑((0 : Nat)) : Int) + z1 → j3 < List.length L ∧ ∀ (z4 : List Int), z4 = U.fs L j3 ((0 : Nat)) → ((0 : Int) ≤ z1 ∧ z1 < (↑n : Int)) ∧ ∀ (j5 : Nat), (↑j5 : Int) = (↑((0 : Nat)) : Int) + z1 → j5 < List.length M ∧ ∀ (z6 : Int), z6 = U.fi M j5 ((0 : Nat)) → K (Sum.inr [Sum.inl (Sum.inr (Sum.inr (Sum.inr (Sum.inr (Sum.inr (Sum.inr (Sum.inr (Sum.inr (Sum.inr (Sum.inr (Sum.inl z4))))))))))), Sum.inl (Sum.inr (Sum.inr (Sum.inr (Sum.inr (Sum.inr (Sum.inr (Sum.inl (IntKind.i64, z6)))))))), Sum.inl (Sum.inl (Value.bool true))]) { heap := [some { elem := nat_lit 43, cells := [Sum.inr (Sum.inr (Sum.inr (Sum.inr (Sum.inr (Sum.inr (Sum.inr (Sum.inr (Sum.inr (Sum.inr (Sum.inr (Sum.inl { a := (0 : Nat), u := (1 : Nat), o := (0 : Nat), n := n, c := c }))))))))))), Sum.inr (Sum.inr (Sum.inr (Sum.inr (Sum.inr (Sum.inr (Sum.inr (Sum.inr (Sum.inr (Sum.inr (Sum.inr (Sum.inl { a := (1 : Nat), u := (1 : Nat), o := (0 : Nat), n := n, c := d }))))))))))), Sum.inr (Sum.inr (Sum.inr (Sum.inr (Sum.inr (Sum.inr (Sum.inl (IntKind.i64, m)))))))], j := none, c := (3 : Nat), z := false }], ints := [], opqs := (0 : Nat), arrs := [some { elem := (9 : TypeId), k := AK.o (Obj.rows [CK.s] L), l := [], cap := c, ro := false }, some { elem := (3 : TypeId), k := AK.o (Obj.rows [CK.n IntKind.i64] M), l := [], cap := d, ro := false }], junks := (0 : Nat) })) ∧ (¬U.ssHasAt L n k z0 → ∀ (z7 : Int), z7 = (↑n : Int) → (z7 ≤ z0 → K (Sum.inr [Sum.inl (Sum.inr (Sum.inr (Sum.inr (Sum.inr (Sum.inr (Sum.inr (Sum.inr (Sum.inr (Sum.inr (Sum.inr (Sum.inl k))))))))))), Sum.inl (Sum.inr (Sum.inr (Sum.inr (Sum.inr (Sum.inr (Sum.inr (Sum.inl (IntKind.i64, (0 : Int))))))))), Sum.inl (Sum.inl (Value.bool false))]) { heap := [some { elem := nat_lit 43, cells := [Sum.inr (Sum.inr (Sum.inr (Sum.inr (Sum.inr (Sum.inr (Sum.inr (Sum.inr (Sum.inr (Sum.inr (Sum.inr (Sum.inl { a := (0 : Nat), u := (1 : Nat), o := (0 : Nat), n := n, c := c }))))))))))), Sum.inr (Sum.inr (Sum.inr (Sum.inr (Sum.inr (Sum.inr (Sum.inr (Sum.inr (Sum.inr (Sum.inr (Sum.inr (Sum.inl { a := (1 : Nat), u := (1 : Nat), o := (0 : Nat), n := n, c := d }))))))))))), Sum.inr (Sum.inr (Sum.inr (Sum.inr (Sum.inr (Sum.inr (Sum.inl (IntKind.i64, m)))))))], j := none, c := (3 : Nat), z := false }], ints := [], opqs := (0 : Nat), arrs := [some { elem := (9 : TypeId), k := AK.o (Obj.rows [CK.s] L), l := [], cap := c, ro := false }, some { elem := (3 : TypeId), k := AK.o (Obj.rows [CK.n IntKind.i64] M), l := [], cap := d, ro := false }], junks := (0 : Nat) }) ∧ (¬z7 ≤ z0 → ((0 : Int) ≤ z0 ∧ z0 < (↑n : Int)) ∧ ∀ (j8 : Nat), (↑j8 : Int) = (↑((0 : Nat)) : Int) + z0 → j8 < List.length L ∧ ∀ (z9 : List Int), z9 = U.fs L j8 ((0 : Nat)) → ((0 : Int) ≤ z0 ∧ z0 < (↑n : Int)) ∧ ∀ (j10 : Nat), (↑j10 : Int) = (↑((0 : Nat)) : Int) + z0 → j10 < List.length M ∧ ∀ (z11 : Int), z11 = U.fi M j10 ((0 : Nat)) → K (Sum.inr [Sum.inl (Sum.inr (Sum.inr (Sum.inr (Sum.inr (Sum.inr (Sum.inr (Sum.inr (Sum.inr (Sum.inr (Sum.inr (Sum.inl z9))))))))))), Sum.inl (Sum.inr (Sum.inr (Sum.inr (Sum.inr (Sum.inr (Sum.inr (Sum.inl (IntKind.i64, z11)))))))), Sum.inl (Sum.inl (Value.bool true))]) { heap := [some { elem := nat_lit 43, cells := [Sum.inr (Sum.inr (Sum.inr (Sum.inr (Sum.inr (Sum.inr (Sum.inr (Sum.inr (Sum.inr (Sum.inr (Sum.inr (Sum.inl { a := (0 : Nat), u := (1 : Nat), o := (0 : Nat), n := n, c := c }))))))))))), Sum.inr (Sum.inr (Sum.inr (Sum.inr (Sum.inr (Sum.inr (Sum.inr (Sum.inr (Sum.inr (Sum.inr (Sum.inr (Sum.inl { a := (1 : Nat), u := (1 : Nat), o := (0 : Nat), n := n, c := d }))))))))))), Sum.inr (Sum.inr (Sum.inr (Sum.inr (Sum.inr (Sum.inr (Sum.inl (IntKind.i64, m)))))))], j := none, c := (3 : Nat), z := false }], ints := [], opqs := (0 : Nat), arrs := [some { elem := (9 : TypeId), k := AK.o (Obj.rows [CK.s] L), l := [], cap := c, ro := false }, some { elem := (3 : TypeId), k := AK.o (Obj.rows [CK.n IntKind.i64] M), l := [], cap := d, ro := false }], junks := (0 : Nat) }))) := by kernel_rfl
theorem ssDel2_vc (K : AV → St → Prop) (L M : Rws) (n c d : Nat) (m : Int) (k l : List Int) : (runV ssov inv0 sstSh 19 [ptr 0 0, sl ⟨1, 0, 2, none, 2⟩] ⟨[ssB (rslC ⟨0, 1, 0, n, c⟩) (rslC ⟨1, 1, 0, n, d⟩) m, some ⟨9, [strC k, strC l], none, 2, false⟩], [], 0, [some (sskB L c), some (ssvB M d)], 0⟩ K) = ((c = c ∧ n ≤ List.length L ∧ n ≤ (1000000 : Nat) ∧ U.ssSrtR L n) ∧ ∀ (z0 : Int), U.ssAt L n k z0 → (U.ssHasAt L n k z0 → ∀ (z1 : Int), z1 = IntKind.wrap IntKind.i64 (z0 + (1 : Int)) → ∃ (y2 : Rws), (c = c ∧ U.Fu L n c y2 ∧ ((0 : Int) ≤ z0 ∧ z0 < (↑n : Int)) ∧ z1 = z0 + (1 : Int)) ∧ ∀ (n'3 : Nat) (L'4 : Rws), n'3 + (1 : Nat) = n → U.Fu L'4 n'3 c (U.erR y2 z0) → ∀ (z5 : Int), z5 = IntKind.wrap IntKind.i64 (z0 + (1 : Int)) → ∃ (y6 : Rws), (d = d ∧ U.Fu M n d y6 ∧ ((0 : Int) ≤ z0 ∧ z0 < (↑n : Int)) ∧ z5 = z0 + (1 : Int)) ∧ ∀ (n'7 : Nat) (L'8 : Rws), n'7 + (1 : Nat) = n → U.Fu L'8 n'7 d (U.erR y6 z0) → (c = c ∧ n'3 ≤ List.length L'4 ∧ n'3 ≤ (1000000 : Nat) ∧ U.ssSrtR L'4 n'3) ∧ ∀ (z9 : Int), U.ssAt L'4 n'3 l z9 → (U.ssHasAt L'4 n'3 l z9 → ∀ (z10 : Int), z10 = IntKind.wrap IntKind.i64 (z9 + (1 : Int)) → ∃ (y11 : Rws), (c = c ∧ U.Fu L'4 n'3 c y11 ∧ ((0 : Int) ≤ z9 ∧ z9 < (↑n'3 : Int)) ∧ z10 = z9 + (1 : Int)) ∧ ∀ (n'12 : Nat) (L'13 : Rws), n'12 + (1 : Nat) = n'3 → U.Fu L'13 n'12 c (U.erR y11 z9) → ∀ (z14 : Int), z14 = IntKind.wrap IntKind.i64 (z9 + (1 : Int)) → ∃ (y15 : Rws), (d = d ∧ U.Fu L'8 n'7 d y15 ∧ ((0 : Int) ≤ z9 ∧ z9 < (↑n'7 : Int)) ∧ z14 = z9 + (1 : Int)) ∧ ∀ (n'16 : Nat) (L'17 : Rws), n'16 + (1 : Nat) = n'7 → U.Fu L'17 n'16 d (U.erR y15 z9) → K (Sum.inl (Sum.inl (Sum.inr (Sum.inr (Sum.inr (Sum.inr (Sum.inr (Sum.inr (Sum.inl (IntKind.i64, (2 : Int))))))))))) { heap := [some { elem := nat_lit 43, cells := [Sum.inr (Sum.inr (Sum.inr (Sum.inr (Sum.inr (Sum.inr (Sum.inr (Sum.inr (Sum.inr (Sum.inr (Sum.inr (Sum.inl { a := (2 : Nat), u := (1 : Nat), o := (0 : Nat), n := n'12, c := c }))))))))))), Sum.inr (Sum.inr (Sum.inr (Sum.inr (Sum.inr (Sum.inr (Sum.inr (Sum.inr (Sum.inr (Sum.inr (Sum.inr (Sum.inl { a := (3 : Nat), u := (1 : Nat), o := (0 : Nat), n := n'16, c := d }))))))))))), Sum.inr (Sum.inr (Sum.inr (Sum.inr (Sum.inr (Sum.inr (Sum.inl (IntKind.i64, m)))))))], j := none, c := (3 : Nat), z := false }, some { elem := nat_lit 9, cells := [Sum.inr (Sum.inr (Sum.inr (Sum.inr (Sum.inr (Sum.inr (Sum.inr (Sum.inr (Sum.inr (Sum.inr (Sum.inl k)))))))))), Sum.inr (Sum.inr (Sum.inr (Sum.inr (Sum.inr (Sum.inr (Sum.inr (Sum.inr (Sum.inr (Sum.inr (Sum.inl l))))))))))], j := none, c := (2 : Nat), z := false }], ints := [], opqs := (0 : Nat), arrs := [none, none, some { elem := (9 : TypeId), k := AK.o (Obj.rows [CK.s] L'13), l := [], cap := c, ro := false }, some { elem := (3 : TypeId), k := AK.o (Obj.rows [CK.n IntKind.i64] L'17), l := [], cap := d, ro := false }], junks := (0 : Nat) }) ∧ (¬U.ssHasAt L'4 n'3 l z9 → K (Sum.inl (Sum.inl (Sum.inr (Sum.inr (Sum.inr (Sum.inr (Sum.inr (Sum.inr (Sum.inl (IntKind.i64, (1 : Int))))))))))) { heap := [some { elem := nat_lit 43, cells := [Sum.inr (Sum.inr (Sum.inr (Sum.inr (Sum.inr (Sum.inr (Sum.inr (Sum.inr (Sum.inr (Sum.inr (Sum.inr (Sum.inl { a := (2 : Nat), u := (1 : Nat), o := (0 : Nat), n := n'3, c := c }))))))))))), Sum.inr (Sum.inr (Sum.inr (Sum.inr (Sum.inr (Sum.inr (Sum.inr (Sum.inr (Sum.inr (Sum.inr (Sum.inr (Sum.inl { a := (3 : Nat), u := (1 : Nat), o := (0 : Nat), n := n'7, c := d }))))))))))), Sum.inr (Sum.inr (Sum.inr (Sum.inr (Sum.inr (Sum.inr (Sum.inl (IntKind.i64, m)))))))], j := none, c := (3 : Nat), z := false }, some { elem := nat_lit 9, cells := [Sum.inr (Sum.inr (Sum.inr (Sum.inr (Sum.inr (Sum.inr (Sum.inr (Sum.inr (Sum.inr (Sum.inr (Sum.inl k)))))))))), Sum.inr (Sum.inr (Sum.inr (Sum.inr (Sum.inr (Sum.inr (Sum.inr (Sum.inr (Sum.inr (Sum.inr (Sum.inl l))))))))))], j := none, c := (2 : Nat), z := false }], ints := [], opqs := (0 : Nat), arrs := [none, none, some { elem := (9 : TypeId), k := AK.o (Obj.rows [CK.s] L'4), l := [], cap := c, ro := false }, some { elem := (3 : TypeId), k := AK.o (Obj.rows [CK.n IntKind.i64] L'8), l := [], cap := d, ro := false }], junks := (0 : Nat) })) ∧ (¬U.ssHasAt L n k z0 → (c = c ∧ n ≤ List.length L ∧ n ≤ (1000000 : Nat) ∧ U.ssSrtR L n) ∧ ∀ (z18 : Int), U.ssAt L n l z18 → (U.ssHasAt L n l z18 → ∀ (z19 : Int), z19 = IntKind.wrap IntKind.i64 (z18 + (1 : Int)) → ∃ (y20 : Rws), (c = c ∧ U.Fu L n c y20 ∧ ((0 : Int) ≤ z18 ∧ z18 < (↑n : Int)) ∧ z19 = z18 + (1 : Int)) ∧ ∀ (n'21 : Nat) (L'22 : Rws), n'21 + (1 : Nat) = n → U.Fu L'22 n'21 c (U.erR y20 z18) → ∀ (z23 : Int), z23 = IntKind.wrap IntKind.i64 (z18 + (1 : Int)) → ∃ (y24 : Rws), (d = d ∧ U.Fu M n d y24 ∧ ((0 : Int) ≤ z18 ∧ z18 < (↑n : Int)) ∧ z23 = z18 + (1 : Int)) ∧ ∀ (n'25 : Nat) (L'26 : Rws), n'25 + (1 : Nat) = n → U.Fu L'26 n'25 d (U.erR y24 z18) → K (Sum.inl (Sum.inl (Sum.inr (Sum.inr (Sum.inr (Sum.inr (Sum.inr (Sum.inr (Sum.inl (IntKind.i64, (1 : Int))))))))))) { heap := [some { elem := nat_lit 43, cells := [Sum.inr (Sum.inr (Sum.inr (Sum.inr (Sum.inr (Sum.inr (Sum.inr (Sum.inr (Sum.inr (Sum.inr (Sum.inr (Sum.inl { a := (2 : Nat), u := (1 : Nat), o := (0 : Nat), n := n'21, c := c }))))))))))), Sum.inr (Sum.inr (Sum.inr (Sum.inr (Sum.inr (Sum.inr (Sum.inr (Sum.inr (Sum.inr (Sum.inr (Sum.inr (Sum.inl { a := (3 : Nat), u := (1 : Nat), o := (0 : Nat), n := n'25, c := d }))))))))))), Sum.inr (Sum.inr (Sum.inr (Sum.inr (Sum.inr (Sum.inr (Sum.inl (IntKind.i64, m)))))))], j := none, c := (3 : Nat), z := false }, some { elem := nat_lit 9, cells := [Sum.inr (Sum.inr (Sum.inr (Sum.inr (Sum.inr (Sum.inr (Sum.inr (Sum.inr (Sum.inr (Sum.inr (Sum.inl k)))))))))), Sum.inr (Sum.inr (Sum.inr (Sum.inr (Sum.inr (Sum.inr (Sum.inr (Sum.inr (Sum.inr (Sum.inr (Sum.inl l))))))))))], j := none, c := (2 : Nat), z := false }], ints := [], opqs := (0 : Nat), arrs := [none, none, some { elem := (9 : TypeId), k := AK.o (Obj.rows [CK.s] L'22), l := [], cap := c, ro := false }, some { elem := (3 : TypeId), k := AK.o (Obj.rows [CK.n IntKind.i64] L'26), l := [], cap := d, ro := false }], junks := (0 : Nat) }) ∧ (¬U.ssHasAt L n l z18 → K (Sum.inl (Sum.inl (Sum.inr (Sum.inr (Sum.inr (Sum.inr (Sum.inr (Sum.inr (Sum.inl (IntKind.i64, (0 : Int))))))))))) { heap := [some { elem := nat_lit 43, cells := [Sum.inr (Sum.inr (Sum.inr (Sum.inr (Sum.inr (Sum.inr (Sum.inr (Sum.inr (Sum.inr (Sum.inr (Sum.inr (Sum.inl { a := (0 : Nat), u := (1 : Nat), o := (0 : Nat), n := n, c := c }))))))))))), Sum.inr (Sum.inr (Sum.inr (Sum.inr (Sum.inr (Sum.inr (Sum.inr (Sum.inr (Sum.inr (Sum.inr (Sum.inr (Sum.inl { a := (1 : Nat), u := (1 : Nat), o := (0 : Nat), n := n, c := d }))))))))))), Sum.inr (Sum.inr (Sum.inr (Sum.inr (Sum.inr (Sum.inr (Sum.inl (IntKind.i64, m)))))))], j := none, c := (3 : Nat), z := false }, some { elem := nat_lit 9, cells := [Sum.inr (Sum.inr (Sum.inr (Sum.inr (Sum.inr (Sum.inr (Sum.inr (Sum.inr (Sum.inr (Sum.inr (Sum.inl k)))))))))), Sum.inr (Sum.inr (Sum.inr (Sum.inr (Sum.inr (Sum.inr (Sum.inr (Sum.inr (Sum.inr (Sum.inr (Sum.inl l))))))))))], j := none, c := (2 : Nat), z := false }], ints := [], opqs := (0 : Nat), arrs := [some { elem := (9 : TypeId), k := AK.o (Obj.rows [CK.s] L), l := [], cap := c, ro := false }, some { elem := (3 : TypeId), k := AK.o (Obj.rows [CK.n IntKind.i64] M), l := [], cap := d, ro := false }], junks := (0 : Nat) }))) := by kernel_rfl
end Go.Proofs.Ytfiadoboagpgkaa
end

section
set_option linter.unusedVariables false
set_option linter.unusedSimpArgs false
set_option maxRecDepth 10000
namespace Go.Proofs.Ytfiadoboagpgkaa
open Go Reck Ost
noncomputable def ssKeep (G : Rws) (q : Nat) (p : List Int × SSv) : Bool := @decide (¬ U.ssIn G q p.1) (Classical.propDecidable _)
theorem kp_succ (G : Rws) (q : Nat) (L : Rws) (i : Nat) : (¬ U.ssIn G q (U.fs L i 0) → U.ssKp G q L (i + 1) = U.ssKp G q L i ++ [i]) ∧ (U.ssIn G q (U.fs L i 0) → U.ssKp G q L (i + 1) = U.ssKp G q L i) := by
  unfold U.ssKp
  rw [List.range_succ, List.filter_append]
  refine ⟨fun h => ?_, fun h => ?_⟩
  · rw [List.filter_cons_of_pos (by simp [h])]; rfl
  · rw [List.filter_cons_of_neg (by simp [h])]; simp
theorem kp_le (G : Rws) (q : Nat) (L : Rws) (i : Nat) : (U.ssKp G q L i).length ≤ i := by
  unfold U.ssKp
  exact Nat.le_trans (List.length_filter_le _ _) (by rw [List.length_range]; exact Nat.le_refl _)
theorem row_key {n c d : Nat} {L M : Rws} {P : SSP} (h : U.ssshI n c L d M P) {m : Nat} {p : List Int × SSv} (hp : P[m]? = some p) : L[m]? = some [.s p.1] ∧ M[m]? = some p.2.row ∧ U.fs L m 0 = p.1 := by
  have hm : m < n := by rw [← ssshI_n h]; exact (List.getElem?_eq_some_iff.1 hp).1
  have h1 := fuGet h.kf hm
  have h2 := fuGet h.vf hm
  refine ⟨?_, ?_, sskey_at h hp⟩
  · rw [h1]; simp [U.ssks, hp]
  · rw [h2]; simp [U.ssvs, hp]
theorem kp_map {n c d : Nat} {L M : Rws} {P : SSP} (h : U.ssshI n c L d M P) (G : Rws) (q : Nat) : ∀ i : Nat, i ≤ n → (U.ssKp G q L i).map (fun m => L.getD m []) = U.ssks ((P.take i).filter (ssKeep G q)) ∧ (U.ssKp G q L i).map (fun m => M.getD m []) = U.ssvs ((P.take i).filter (ssKeep G q))
  | 0, _ => ⟨rfl, rfl⟩
  | i + 1, hi => by
    have hn := ssshI_n h
    obtain ⟨h1, h2⟩ := kp_map h G q i (by omega)
    have hp := List.getElem?_eq_getElem (show i < P.length by omega)
    obtain ⟨r1, r2, r3⟩ := row_key h hp
    have hk := kp_succ G q L i
    have ht : P.take (i + 1) = P.take i ++ [P[i]] := by rw [List.take_add_one, hp]; rfl
    rw [ht, List.filter_append]
    by_cases hin : U.ssIn G q (U.fs L i 0)
    · have hf : ssKeep G q P[i] = false := by unfold ssKeep; rw [← r3]; simp [hin]
      rw [hk.2 hin, List.filter_cons_of_neg (by rw [hf]; decide)]
      simp only [List.filter_nil, List.append_nil]
      exact ⟨h1, h2⟩
    · have hf : ssKeep G q P[i] = true := by unfold ssKeep; rw [← r3]; simp [hin]
      rw [hk.1 hin, List.filter_cons_of_pos hf, List.map_append, List.map_append, h1, h2]
      unfold U.ssks U.ssvs
      rw [List.map_append, List.map_append]
      simp only [List.map_cons, List.map_nil, List.filter_nil, List.getD_eq_getElem?_getD, r1, r2, Option.getD_some]
      exact ⟨trivial, trivial⟩
theorem in_iff {G : Rws} {q : Nat} {k : List Int} {z : Int} (hs : U.ssSrtR G q) (ha : U.ssAt G q k z) : U.ssHasAt G q k z ↔ U.ssIn G q k := by
  have hb := ha.b
  constructor
  · rintro ⟨h1, h2⟩
    exact ⟨z.toNat, by omega, h2⟩
  · rintro ⟨m, hm, hk⟩
    have h1 : ¬ (m : Int) < z := fun h => by
      have := ha.lo m h
      rw [hk] at this; exact ssltS_irr this
    have h2 : ¬ z < m := fun h => by
      have a := ha.hi z.toNat (by omega) (by omega)
      have b := hs.out z.toNat m (by omega) hm
      rw [hk] at b; exact a b
    exact ⟨by omega, by rw [show z.toNat = m by omega]; exact hk⟩
theorem set_put {L : Rws} {j : Nat} {a v : CV} (h : L[j]? = some [a]) : U.put L j 0 [v] = L.set j [v] := by
  unfold U.put
  rw [List.getD_eq_getElem?_getD, h]; rfl
theorem take_set {α : Type} (X : List α) (j : Nat) (v : α) (h : j < X.length) : (X.set j v).take (j + 1) = X.take j ++ [v] := by
  rw [List.take_add_one, List.getElem?_set_self h, List.take_set_of_le (Nat.le_refl _)]; rfl
theorem sw_no {G L M L' M' : Rws} {q n : Nat} {i j z : Int} (h : U.swI G q L M n i j L' M') (hi : i < n) (hz : z = i + 1) (hin : U.ssIn G q (U.fs L i.toNat 0)) : U.swI G q L M n z j L' M' := by
  obtain ⟨h1, h2, h3, h4, h5, h6, h7, h8, h9⟩ := h
  have e : z.toNat = i.toNat + 1 := by omega
  have hk := (kp_succ G q L i.toNat).2 hin
  refine ⟨by omega, h2, by rw [e, hk]; exact h3, by rw [e, hk]; exact h4, by rw [e, hk]; exact h5, fun m hm => h6 m (by omega), fun m hm => h7 m (by omega), h8, h9⟩
theorem sw_yes {G L M L' M' L2 M2 : Rws} {q n : Nat} {i j z y : Int} {k : List Int} {v : Int} (h : U.swI G q L M n i j L' M') (hi : i < n) (hz : z = i + 1) (hy : y = j + 1) (hin : ¬ U.ssIn G q (U.fs L i.toNat 0)) (hl : n ≤ L.length ∧ n ≤ M.length)
    (hk : L[i.toNat]? = some [.s k]) (hv : M[i.toNat]? = some [.i v]) (h2 : L2 = U.put L' j.toNat 0 [.s k]) (h3 : M2 = U.put M' j.toNat 0 [.i v]) : U.swI G q L M n z y L2 M2 := by
  obtain ⟨g1, g2, g3, g4, g5, g6, g7, g8, g9⟩ := h
  have e : z.toNat = i.toNat + 1 := by omega
  have e2 : y.toNat = j.toNat + 1 := by omega
  have hk' := (kp_succ G q L i.toNat).1 hin
  obtain ⟨a, ha⟩ := g8 j.toNat (by omega)
  obtain ⟨b, hb⟩ := g9 j.toNat (by omega)
  rw [set_put ha] at h2
  rw [set_put hb] at h3
  have hjl := (List.getElem?_eq_some_iff.1 ha).1
  have hjm := (List.getElem?_eq_some_iff.1 hb).1
  refine ⟨by omega, by rw [h2, h3, List.length_set, List.length_set]; exact g2, ?_, ?_, ?_, fun m hm => ?_, fun m hm => ?_, fun m hm => ?_, fun m hm => ?_⟩
  · rw [e, hk', List.length_append]; simp; omega
  · rw [e, hk', e2, h2, take_set _ _ _ hjl, g4, List.map_append]
    simp only [List.map_cons, List.map_nil, List.getD_eq_getElem?_getD, hk, Option.getD_some]
  · rw [e, hk', e2, h3, take_set _ _ _ hjm, g5, List.map_append]
    simp only [List.map_cons, List.map_nil, List.getD_eq_getElem?_getD, hv, Option.getD_some]
  · rw [h2, List.getElem?_set_ne (by omega)]; exact g6 m (by omega)
  · rw [h3, List.getElem?_set_ne (by omega)]; exact g7 m (by omega)
  · rw [h2, List.getElem?_set]
    split
    · exact ⟨k, rfl⟩
    · exact g8 m hm
  · rw [h3, List.getElem?_set]
    split
    · exact ⟨v, rfl⟩
    · exact g9 m hm
theorem clr_fu {L' L2 A : Rws} {n c j o r : Nat} {z : List CV} (hl : L'.length = c) (hn : n ≤ c) (hj : j ≤ n) (hs : n ≤ 1000000) (hA : A = L'.take j) (ho : o = j ∨ n - j = 0) (hr : r = n - j) (h2 : L2 = L'.take o ++ List.replicate r z ++ L'.drop (o + r)) (hoc : o + r ≤ L'.length) : U.Fu L2 j c A := by
  have hll : L2.length = c := by
    rw [h2, List.length_append, List.length_append, List.length_take, List.length_replicate, List.length_drop]; omega
  refine ⟨?_, hll, by omega, by omega⟩
  rcases ho with rfl | h0
  · rw [h2, List.append_assoc, List.take_append_of_le_length (by rw [List.length_take]; omega), List.take_take, Nat.min_self]; exact hA
  · have : r = 0 := by omega
    subst this
    have : L2 = L' := by rw [h2]; simp
    rw [this]; exact hA
/-- P' is P without the keys of G. -/
structure U.ssSwp (P : SSP) (G : Rws) (q : Nat) (P' : SSP) : Prop where
  out : P' = P.filter (ssKeep G q)
set_option maxHeartbeats 1000000 in
theorem sweep_run (K : AV → St → Prop) (L M G : Rws) (n c d q cg : Nat) (m : Int) (P : SSP) (h : U.ssshI n c L d M P) (hn : n ≤ 100000) (hG : q ≤ G.length) (hq : q ≤ 1000000) (hs : U.ssSrtR G q)
    (hK : ∀ (n' : Nat) (L' M' : Rws) (P' : SSP), n' = U.sslen P' → U.ssSwp P G q P' → U.ssshI n' c L' d M' P' → K (.inr []) (swSt n' c L' d M' m G cg)) :
    runW ssov invSw (tblIf 42 sspBS) 32 [ptr 0 0, cell (rslC ⟨2, 1, 0, q, cg⟩)] (swSt n c L d M m G cg) K := by
  rw [sweep_vc]
  have hPn := ssshI_n h
  have l1 := h.kf.len
  have l2 := h.kf.le
  have l3 := h.vf.len
  have l4 := h.vf.le
  have hrow : ∀ j : Nat, j < n → ∃ p, P[j]? = some p := fun j hj => ⟨_, List.getElem?_eq_getElem (by omega)⟩
  intro z0 h0
  constructor
  · refine ⟨(0, (0, (L, M))), ?_⟩
    repeat' (first | exact rfl | with_reducible apply And.intro)
    refine ⟨⟨Int.le_refl _, by dsimp only; omega, Int.le_refl _, Int.le_refl _⟩, ⟨rfl, rfl⟩, rfl, rfl, rfl, fun _ _ => rfl, fun _ _ => rfl, fun m hm => ?_, fun m hm => ?_⟩
    · obtain ⟨p, hp⟩ := hrow m hm
      exact ⟨p.1, (row_key h hp).1⟩
    · obtain ⟨p, hp⟩ := hrow m hm
      exact ⟨p.2.v0, (row_key h hp).2.1⟩
  rintro ⟨i, j, L1, M1⟩ hI
  have hI' := hI
  obtain ⟨⟨b1, b2, b3, b4⟩, ⟨k1, k2⟩, k3, k4, k5, k6, k7, k8, k9⟩ := hI'
  dsimp only at b1 b2 b3 b4 k1 k2 k3 k4 k5 k6 k7 k8 k9 hI ⊢
  refine ⟨fun hi => ⟨by omega, fun j3 hj3 => ⟨by omega, fun z4 h4 => ⟨⟨rfl, hG, hq, hs⟩, fun z5 hat => ⟨fun hx z6 h6 => ?_, fun hx => ⟨by omega, fun j8 hj8 => ⟨by omega, fun z9 h9 => ⟨by omega, fun j10 hj10 => ⟨by omega, fun L11 e11 => ⟨by omega, fun j12 hj12 => ⟨by omega, fun L13 e13 z14 h14 z15 h15 => ?_⟩⟩⟩⟩⟩⟩⟩⟩⟩⟩, fun hi => ?_⟩
  · have e6 := iw h6 (by omega)
    obtain ⟨p, hp⟩ := hrow j3 (by omega)
    have hf : U.fs L1 j3 0 = U.fs L j3 0 := by
      unfold U.fs
      rw [List.getD_eq_getElem?_getD, List.getD_eq_getElem?_getD, k6 j3 (by omega)]
    have hin : U.ssIn G q (U.fs L i.toNat 0) := by
      rw [show i.toNat = j3 by omega, ← hf, ← h4]
      exact (in_iff hs hat).1 hx
    refine ⟨(z6, (j, (L1, M1))), ?_⟩
    repeat' (first | exact rfl | exact sw_no hI (by omega) e6 hin | with_reducible apply And.intro)
    dsimp only; omega
  · have e14 := iw h14 (by omega)
    have e15 := iw h15 (by omega)
    obtain ⟨p, hp⟩ := hrow j3 (by omega)
    obtain ⟨r1, r2, r3⟩ := row_key h hp
    have hf : U.fs L1 j3 0 = U.fs L j3 0 := by
      unfold U.fs
      rw [List.getD_eq_getElem?_getD, List.getD_eq_getElem?_getD, k6 j3 (by omega)]
    have hg : U.fi M1 j8 0 = p.2.v0 := by
      unfold U.fi
      rw [List.getD_eq_getElem?_getD, k7 j8 (by omega), show j8 = j3 by omega, r2]; rfl
    have ez4 : z4 = p.1 := by rw [h4, hf, r3]
    have ez9 : z9 = p.2.v0 := h9.trans hg
    have hin : ¬ U.ssIn G q (U.fs L i.toNat 0) := by
      rw [show i.toNat = j3 by omega, ← hf, ← h4]
      exact fun hy => hx ((in_iff hs hat).2 hy)
    have := sw_yes (k := z4) (v := z9) hI (by omega) e15 e14 hin ⟨by omega, by omega⟩ (by rw [show i.toNat = j3 by omega, r1, ez4]) (by rw [show i.toNat = j3 by omega, r2, ez9]; rfl) (L2 := L11) (M2 := L13) (by rw [e11, show j10 = j.toNat by omega]) (by rw [e13, show j12 = j.toNat by omega])
    refine ⟨(z15, (z14, (L11, L13))), ?_⟩
    repeat' (first | exact rfl | exact this | with_reducible apply And.intro)
    dsimp only; omega
  · obtain rfl : i = n := by omega
    have hkm := kp_map h G q n (Nat.le_refl _)
    rw [Int.toNat_natCast] at k3 k4 k5
    rw [List.take_of_length_le (by omega)] at hkm
    refine ⟨⟨by omega, by omega, by omega⟩, fun o17 n18 c19 h17 h18 h19 => ?_⟩
    replace h17 : (o17 : Int) = if (c : Int) = j then 0 else 0 + j := h17
    have ho : o17 = j.toNat ∨ n - j.toNat = 0 := by
      split at h17
      · right; omega
      · left; omega
    have hol : o17 + n18 ≤ L1.length := by split at h17 <;> omega
    clear h17
    refine ⟨hol, fun L20 e20 => ⟨⟨by omega, by omega, by omega⟩, fun o21 n22 c23 h21 h22 h23 => ?_⟩⟩
    replace h21 : (o21 : Int) = if (d : Int) = j then 0 else 0 + j := h21
    have ho2 : o21 = j.toNat ∨ n - j.toNat = 0 := by
      split at h21
      · right; omega
      · left; omega
    have hol2 : o21 + n22 ≤ M1.length := by split at h21 <;> omega
    clear h21
    refine ⟨hol2, fun L24 e24 => ⟨⟨by omega, by omega, by omega⟩, fun o25 n26 c27 h25 h26 h27 => ⟨⟨by omega, by omega, by omega⟩, fun o28 n29 c30 h28 h29 h30 => ?_⟩⟩⟩
    obtain rfl : o25 = 0 := by split at h25 <;> omega
    obtain rfl : o28 = 0 := by split at h28 <;> omega
    obtain rfl : n26 = j.toNat := by omega
    obtain rfl : n29 = j.toNat := by omega
    obtain rfl : c27 = c := by omega
    obtain rfl : c30 = d := by omega
    have hsm := h.kf.sm
    refine hK _ L20 L24 (P.filter (ssKeep G q)) ?_ ⟨rfl⟩ ⟨?_, ?_, ⟨List.Pairwise.filter _ h.srt.out⟩⟩
    · have : (U.ssks (P.filter (ssKeep G q))).length = j.toNat := by rw [← hkm.1, List.length_map]; omega
      unfold U.ssks at this
      rw [List.length_map] at this
      exact this.symm
    · exact clr_fu (by omega) l2 (by omega) hsm (by rw [k4, hkm.1]) ho (by omega) e20 hol
    · exact clr_fu (by omega) l4 (by omega) hsm (by rw [k5, hkm.2]) ho2 (by omega) e24 hol2
end Go.Proofs.Ytfiadoboagpgkaa
end

section
namespace Go.Proofs.Ytfiadoboagpgkaa
open Go Reck Ost
set_option linter.unusedVariables false
set_option maxRecDepth 100000
def sspSweep : Pat := fun args σ => match args, σ with
  | [.inl (.inl (.inr (.inl (0, 0)))), l], ⟨[p], [], 0, [a1, a2, some ⟨9, .o (.rows [.s] G), [], cg, false⟩], 0⟩ => match rslX l, ssshC p a1 a2 with
    | some ⟨2, 1, 0, q, cl⟩, some (n, c, L, d, M, m) => some fun K => ∃ P, (cl = cg ∧ ssshD p a1 a2 ∧ U.ssshI n c L d M P ∧ n ≤ 100000 ∧ q ≤ G.length ∧ q ≤ 1000000 ∧ U.ssSrtR G q) ∧ ∀ (n' : Nat) (L' M' : Rws) (P' : SSP), n' = U.sslen P' → U.ssSwp P G q P' → U.ssshI n' c L' d M' P' → K (.inr []) (swSt n' c L' d M' m G cg)
    | _, _ => none
  | _, _ => none
theorem sspSweep_ok : PatOk 32 sspSweep := by
  intro tm σ C h K hK w0 e w hk vs hvs
  unfold sspSweep at h
  split at h
  · split at h
    · rename_i hl hσ
      simp only [Option.some.injEq] at h; subst h
      obtain ⟨P, ⟨hc, hy, h1, h2, h3, h4, h5⟩, h6⟩ := hK
      obtain ⟨rfl, rfl, rfl⟩ := ssshC_eq hσ hy
      subst hc
      obtain rfl := rslX_eq hl
      exact knownD noOv names (opMW_ok ssovOk) (conOk_ofR (tblIf_ok sspBS_ok)) (sweep_run K _ _ _ _ _ _ _ _ _ P h1 h2 h3 h4 h5 h6) w0 e w hk vs hvs
    · cases h
  · cases h
def sstD : Tbl := tblOr (tblIf 32 sspSweep) sstS
theorem sstD_ok : TblOk Try.prog sstD := tblOr_ok (tblIf_ok sspSweep_ok) sstS_ok
def cloV (σ : St) (x : AV) : Int := match x with
  | .inl (.inl (.inr (.inr (.inr (.inr (.inl (_, [(b, 0)]))))))) => (match getBlk σ b with
    | some k => (match k.cells with
      | [c] => (match cInt c with
        | some v => v
        | none => 0)
      | _ => 0)
    | none => 0)
  | _ => 0
def U.drIx (V : Rws) (v : Int) (i : Nat) : List Nat := (List.range i).filter fun m => decide (U.fi V m 0 < v)
structure U.drI (L V : Rws) (n : Nat) (v i : Int) (G : Rws) (q cg : Nat) (O : List Int) (r co : Nat) : Prop where
  out : (0 ≤ i ∧ i ≤ n) ∧ (G = (U.drIx V v i.toNat).map (fun m => L.getD m []) ∧ q = G.length ∧ q ≤ cg ∧ (q : Int) ≤ i) ∧ O = (U.drIx V v i.toNat).map (fun m => U.fi V m 0) ∧ r = O.length ∧ r ≤ co ∧ (r : Int) ≤ i
def drInv (tm : List AV) (σ : St) : Inv where
  X := Int × ((Rws × (Nat × Nat)) × (List Int × (Nat × Nat)))
  tags := [0]
  tag _ _ := 0
  J := [2, 3, 4, 8, 9, 10, 11, 12, 13, 14, 15, 16, 17, 18, 22, 23, 24, 25, 26, 27, 28, 29, 30, 31, 32, 33, 34, 35, 36, 37, 38, 39, 40, 41, 42, 43, 44, 45, 46, 47, 48]
  val _ x := [(21, xi .i64 x.1), (5, cell (rslC ⟨σ.arrs.length, 1, 0, x.2.1.2.1, x.2.1.2.2⟩)), (6, cell (aslC ⟨σ.arrs.length + 1, 0, x.2.2.2.1, x.2.2.2.2⟩))]
  st _ x σ' := ⟨σ'.heap, σ'.ints, σ'.opqs, σ'.arrs.dropLast.dropLast ++ [some (sskB x.2.1.1 x.2.1.2.2), some ⟨3, .n .i64, x.2.2.1, x.2.2.2.2, false⟩], σ'.junks⟩
  I _ x := U.drI (rowsAt σ (slotR tm 19).a) (rowsAt σ (slotR tm 7).a) (slotR tm 19).n (cloV σ (tm.getD 1 (lit undef))) x.1 x.2.1.1 x.2.1.2.1 x.2.1.2.2 x.2.2.1 x.2.2.2.1 x.2.2.2.2
  m _ x := ((slotR tm 19).n : Int).toNat - x.1.toNat
  ren tm' σ' := ([], [(slotR tm' 5).a, (slotS tm' 6).a])
def invDr : InvF := fun c tm σ => match tm.length, firstReg c with
  | 49, some 7 => some (drInv tm σ)
  | _, _ => none
--PLAIN
theorem drop_vc (K : AV → St → Prop) (L M : Rws) (n c d : Nat) (m v : Int) : (runR invDr sstD 6 [ptr 0 0, xi .i64 v] (ssSt n c L d M m) K) = (∃ (y0 : SSP), ((c = c ∧ d = d ∧ n = n) ∧ U.ssshI n c L d M y0) ∧ ∀ (L'1 : Rws) (n'2 c'3 : Nat), n'2 = n → n'2 ≤ c'3 → L'1 = U.ssvs y0 → ∃ (y4 : SSP), ((c = c ∧ d = d ∧ n = n) ∧ U.ssshI n c L d M y4) ∧ ∀ (L'5 : Rws) (n'6 c'7 : Nat), n'6 = n → n'6 ≤ c'7 → L'5 = U.ssks y4 → ∀ (z8 : Int), z8 = (↑n'6 : Int) → (∃ (y9 : Int × (Rws × Nat × Nat) × List Int × Nat × Nat), ((0 : Nat) = (0 : Nat) ∧ (0 : Nat) = Prod.fst (Prod.snd (Prod.fst (Prod.snd y9))) ∧ (0 : Nat) = Prod.snd (Prod.snd (Prod.fst (Prod.snd y9)))) ∧ ((0 : Nat) = (0 : Nat) ∧ (0 : Nat) = Prod.fst (Prod.snd (Prod.snd (Prod.snd y9))) ∧ (0 : Nat) = Prod.snd (Prod.snd (Prod.snd (Prod.snd y9)))) ∧ ((0 : Nat) = (0 : Nat) ∧ n'2 = n'2 ∧ c'3 = c'3) ∧ ((0 : Nat) = (0 : Nat) ∧ n'6 = n'6 ∧ c'7 = c'7) ∧ z8 = z8 ∧ (0 : Int) = Prod.fst y9 ∧ ((0 : Nat) = (0 : Nat) ∧ n = n ∧ c = c) ∧ ((0 : Nat) = (0 : Nat) ∧ n = n ∧ d = d) ∧ m = m ∧ v = v ∧ (L = L ∧ c = c ∧ false = false) ∧ (M = M ∧ d = d ∧ false = false) ∧ (([] : List Int) = [] ∧ (0 : Nat) = (0 : Nat) ∧ false = false) ∧ (([] : List Int) = [] ∧ (0 : Nat) = (0 : Nat) ∧ false = false) ∧ (L'1 = L'1 ∧ c'3 = c'3 ∧ false = false) ∧ (L'5 = L'5 ∧ c'7 = c'7 ∧ false = false) ∧ (U.nilL = Prod.fst (Prod.fst (Prod.snd y9)) ∧ (0 : Nat) = Prod.snd (Prod.snd (Prod.fst (Prod.snd y9))) ∧ false = false) ∧ ([] = Prod.fst (Prod.snd (Prod.snd y9)) ∧ (0 : Nat) = Prod.snd (Prod.snd (Prod.snd (Prod.snd y9))) ∧ false = false) ∧ U.drI L'5 L'1 n'6 v (Prod.fst y9) (Prod.fst (Prod.fst (Prod.snd y9))) (Prod.fst (Prod.snd (Prod.fst (Prod.snd y9)))) (Prod.snd (Prod.snd (Prod.fst (Prod.snd y9)))) (Prod.fst (Prod.snd (Prod.snd y9))) (Prod.fst (Prod.snd (Prod.snd (Prod.snd y9)))) (Prod.snd (Prod.snd (Prod.snd (Prod.snd y9))))) ∧ ∀ (x10 : Int × (Rws × Nat × Nat) × List Int × Nat × Nat), U.drI L'5 L'1 n'6 v (Prod.fst x10) (Prod.fst (Prod.fst (Prod.snd x10))) (Prod.fst (Prod.snd (Prod.fst (Prod.snd x10)))) (Prod.snd (Prod.snd (Prod.fst (Prod.snd x10)))) (Prod.fst (Prod.snd (Prod.snd x10))) (Prod.fst (Prod.snd (Prod.snd (Prod.snd x10)))) (Prod.snd (Prod.snd (Prod.snd (Prod.snd x10)))) → (Prod.fst x10 < z8 → ((0 : Int) ≤ Prod.fst x10 ∧ Prod.fst x10 < (↑n'6 : Int)) ∧ ∀ (j11 : Nat), (↑j11 : Int) = (↑((0 : Nat)) : Int) + Prod.fst x10 → j11 < List.length L'5 ∧ ∀ (z12 : List Int), z12 = U.fs L'5 j11 ((0 : Nat)) → ((0 : Int) ≤ Prod.fst x10 ∧ Prod.fst x10 < (↑n'2 : Int)) ∧ ∀ (j13 : Nat), (↑j13 : Int) = (↑((0 : Nat)) : Int) + Prod.fst x10 → j13 < List.length L'1 ∧ ∀ (z14 : Int), z14 = U.fi L'1 j13 ((0 : Nat)) → (z14 < v → ((0 : Nat) + Prod.fst (Prod.snd (Prod.fst (Prod.snd x10))) ≤ List.length (Prod.fst (Prod.fst (Prod.snd x10))) ∧ (0 : Nat) + Prod.snd (Prod.snd (Prod.fst (Prod.snd x10))) ≤ Prod.snd (Prod.snd (Prod.fst (Prod.snd x10)))) ∧ True ∧ Prod.fst (Prod.snd (Prod.fst (Prod.snd x10))) ≤ (16777216 : Nat) ∧ (1 : Nat) ≤ (16777216 : Nat) ∧ ∀ (L'15 : List (List CV)) (n'16 c'17 : Nat), L'15 = List.take (Prod.fst (Prod.snd (Prod.fst (Prod.snd x10)))) (List.drop ((0 : Nat)) (Prod.fst (Prod.fst (Prod.snd x10)))) ++ [CV.s z12] :: U.nilL → n'16 = Prod.fst (Prod.snd (Prod.fst (Prod.snd x10))) + (1 : Nat) → n'16 ≤ c'17 → ((0 : Int) ≤ Prod.fst x10 ∧ Prod.fst x10 < (↑n'2 : Int)) ∧ ∀ (j18 : Nat), (↑j18 : Int) = (↑((0 : Nat)) : Int) + Prod.fst x10 → j18 < List.length L'1 ∧ ∀ (z19 : Int), z19 = U.fi L'1 j18 ((0 : Nat)) → ((0 : Nat) + Prod.fst (Prod.snd (Prod.snd (Prod.snd x10))) ≤ List.length (Prod.fst (Prod.snd (Prod.snd x10))) ∧ (0 : Nat) + Prod.snd (Prod.snd (Prod.snd (Prod.snd x10))) ≤ Prod.snd (Prod.snd (Prod.snd (Prod.snd x10)))) ∧ True ∧ Prod.fst (Prod.snd (Prod.snd (Prod.snd x10))) ≤ (16777216 : Nat) ∧ (1 : Nat) ≤ (16777216 : Nat) ∧ ∀ (l'20 : List Int) (n'21 c'22 : Nat), l'20 = List.take (Prod.fst (Prod.snd (Prod.snd (Prod.snd x10)))) (List.drop ((0 : Nat)) (Prod.fst (Prod.snd (Prod.snd x10)))) ++ [z19] → n'21 = Prod.fst (Prod.snd (Prod.snd (Prod.snd x10))) + (1 : Nat) → n'21 ≤ c'22 → ∀ (z23 : Int), z23 = IntKind.wrap IntKind.i64 (Prod.fst x10 + (1 : Int)) → ∃ (y24 : Int × (Rws × Nat × Nat) × List Int × Nat × Nat), ((0 : Nat) = (0 : Nat) ∧ n'16 = Prod.fst (Prod.snd (Prod.fst (Prod.snd y24))) ∧ c'17 = Prod.snd (Prod.snd (Prod.fst (Prod.snd y24)))) ∧ ((0 : Nat) = (0 : Nat) ∧ n'21 = Prod.fst (Prod.snd (Prod.snd (Prod.snd y24))) ∧ c'22 = Prod.snd (Prod.snd (Prod.snd (Prod.snd y24)))) ∧ ((0 : Nat) = (0 : Nat) ∧ n'2 = n'2 ∧ c'3 = c'3) ∧ ((0 : Nat) = (0 : Nat) ∧ n'6 = n'6 ∧ c'7 = c'7) ∧ z8 = z8 ∧ z23 = Prod.fst y24 ∧ ((0 : Nat) = (0 : Nat) ∧ n = n ∧ c = c) ∧ ((0 : Nat) = (0 : Nat) ∧ n = n ∧ d = d) ∧ m = m ∧ v = v ∧ (L = L ∧ c = c ∧ false = false) ∧ (M = M ∧ d = d ∧ false = false) ∧ (([] : List Int) = [] ∧ (0 : Nat) = (0 : Nat) ∧ false = false) ∧ (([] : List Int) = [] ∧ (0 : Nat) = (0 : Nat) ∧ false = false) ∧ (L'1 = L'1 ∧ c'3 = c'3 ∧ false = false) ∧ (L'5 = L'5 ∧ c'7 = c'7 ∧ false = false) ∧ (L'15 = Prod.fst (Prod.fst (Prod.snd y24)) ∧ c'17 = Prod.snd (Prod.snd (Prod.fst (Prod.snd y24))) ∧ false = false) ∧ (l'20 = Prod.fst (Prod.snd (Prod.snd y24)) ∧ c'22 = Prod.snd (Prod.snd (Prod.snd (Prod.snd y24))) ∧ false = false) ∧ U.drI L'5 L'1 n'6 v (Prod.fst y24) (Prod.fst (Prod.fst (Prod.snd y24))) (Prod.fst (Prod.snd (Prod.fst (Prod.snd y24)))) (Prod.snd (Prod.snd (Prod.fst (Prod.snd y24)))) (Prod.fst (Prod.snd (Prod.snd y24))) (Prod.fst (Prod.snd (Prod.snd (Prod.snd y24)))) (Prod.snd (Prod.snd (Prod.snd (Prod.snd y24)))) ∧ Int.toNat (↑n'6 : Int) - Int.toNat (Prod.fst y24) < Int.toNat (↑n'6 : Int) - Int.toNat (Prod.fst x10)) ∧ (¬z14 < v → ∀ (z25 : Int), z25 = IntKind.wrap IntKind.i64 (Prod.fst x10 + (1 : Int)) → ∃ (y26 : Int × (Rws × Nat × Nat) × List Int × Nat × Nat), ((0 : Nat) = (0 : Nat) ∧ Prod.fst (Prod.snd (Prod.fst (Prod.snd x10))) = Prod.fst (Prod.snd (Prod.fst (Prod.snd y26))) ∧ Prod.snd (Prod.snd (Prod.fst (Prod.snd x10))) = Prod.snd (Prod.snd (Prod.fst (Prod.snd y26)))) ∧ ((0 : Nat) = (0 : Nat) ∧ Prod.fst (Prod.snd (Prod.snd (Prod.snd x10))) = Prod.fst (Prod.snd (Prod.snd (Prod.snd y26))) ∧ Prod.snd (Prod.snd (Prod.snd (Prod.snd x10))) = Prod.snd (Prod.snd (Prod.snd (Prod.snd y26)))) ∧ ((0 : Nat) = (0 : Nat) ∧ n'2 = n'2 ∧ c'3 = c'3) ∧ ((0 : Nat) = (0 : Nat) ∧ n'6 = n'6 ∧ c'7 = c'7) ∧ z8 = z8 ∧ z25 = Prod.fst y26 ∧ ((0 : Nat) = (0 : Nat) ∧ n = n ∧ c = c) ∧ ((0 : Nat) = (0 : Nat) ∧ n = n ∧ d = d) ∧ m = m ∧ v = v ∧ (L = L ∧ c = c ∧ false = false) ∧ (M = M ∧ d = d ∧ false = false) ∧ (([] : List Int) = [] ∧ (0 : Nat) = (0 : Nat) ∧ false = false) ∧ (([] : List Int) = [] ∧ (0 : Nat) = (0 : Nat) ∧ false = false) ∧ (L'1 = L'1 ∧ c'3 = c'3 ∧ false = false) ∧ (L'5 = L'5 ∧ c'7 = c'7 ∧ false = false) ∧ (Prod.fst (Prod.fst (Prod.snd x10)) = Prod.fst (Prod.fst (Prod.snd y26)) ∧ Prod.snd (Prod.snd (Prod.fst (Prod.snd x10))) = Prod.snd (Prod.snd (Prod.fst (Prod.snd y26))) ∧ false = false) ∧ (Prod.fst (Prod.snd (Prod.snd x10)) = Prod.fst (Prod.snd (Prod.snd y26)) ∧ Prod.snd (Prod.snd (Prod.snd (Prod.snd x10))) = Prod.snd (Prod.snd (Prod.snd (Prod.snd y26))) ∧ false = false) ∧ U.drI L'5 L'1 n'6 v (Prod.fst y26) (Prod.fst (Prod.fst (Prod.snd y26))) (Prod.fst (Prod.snd (Prod.fst (Prod.snd y26)))) (Prod.snd (Prod.snd (Prod.fst (Prod.snd y26)))) (Prod.fst (Prod.snd (Prod.snd y26))) (Prod.fst (Prod.snd (Prod.snd (Prod.snd y26)))) (Prod.snd (Prod.snd (Prod.snd (Prod.snd y26)))) ∧ Int.toNat (↑n'6 : Int) - Int.toNat (Prod.fst y26) < Int.toNat (↑n'6 : Int) - Int.toNat (Prod.fst x10))) ∧ (¬Prod.fst x10 < z8 → ∃ (y27 : SSP), (Prod.snd (Prod.snd (Prod.fst (Prod.snd x10))) = Prod.snd (Prod.snd (Prod.fst (Prod.snd x10))) ∧ (c = c ∧ d = d ∧ n = n) ∧ U.ssshI n c L d M y27 ∧ n ≤ (100000 : Nat) ∧ Prod.fst (Prod.snd (Prod.fst (Prod.snd x10))) ≤ List.length (Prod.fst (Prod.fst (Prod.snd x10))) ∧ Prod.fst (Prod.snd (Prod.fst (Prod.snd x10))) ≤ (1000000 : Nat) ∧ U.ssSrtR (Prod.fst (Prod.fst (Prod.snd x10))) (Prod.fst (Prod.snd (Prod.fst (Prod.snd x10))))) ∧ ∀ (n'28 : Nat) (L'29 M'30 : Rws) (P'31 : SSP), n'28 = U.sslen P'31 → U.ssSwp y27 (Prod.fst (Prod.fst (Prod.snd x10))) (Prod.fst (Prod.snd (Prod.fst (Prod.snd x10)))) P'31 → U.ssshI n'28 c L'29 d M'30 P'31 → K (Sum.inl (Sum.inl (Sum.inr (Sum.inr (Sum.inr (Sum.inr (Sum.inr (Sum.inr (Sum.inr (Sum.inl { a := (2 : Nat), o := (0 : Nat), n := Prod.fst (Prod.snd (Prod.snd (Prod.snd x10))), c := Prod.snd (Prod.snd (Prod.snd (Prod.snd x10))) })))))))))) { heap := [some { elem := nat_lit 43, cells := [Sum.inr (Sum.inr (Sum.inr (Sum.inr (Sum.inr (Sum.inr (Sum.inr (Sum.inr (Sum.inr (Sum.inr (Sum.inr (Sum.inl { a := (0 : Nat), u := (1 : Nat), o := (0 : Nat), n := n'28, c := c }))))))))))), Sum.inr (Sum.inr (Sum.inr (Sum.inr (Sum.inr (Sum.inr (Sum.inr (Sum.inr (Sum.inr (Sum.inr (Sum.inr (Sum.inl { a := (1 : Nat), u := (1 : Nat), o := (0 : Nat), n := n'28, c := d }))))))))))), Sum.inr (Sum.inr (Sum.inr (Sum.inr (Sum.inr (Sum.inr (Sum.inl (IntKind.i64, m)))))))], j := none, c := (3 : Nat), z := false }], ints := [], opqs := (0 : Nat), arrs := [some { elem := (9 : Nat), k := AK.o (Obj.rows [CK.s] L'29), l := [], cap := c, ro := false }, some { elem := (3 : TypeId), k := AK.o (Obj.rows [CK.n IntKind.i64] M'30), l := [], cap := d, ro := false }, some { elem := (3 : TypeId), k := AK.n IntKind.i64, l := Prod.fst (Prod.snd (Prod.snd x10)), cap := Prod.snd (Prod.snd (Prod.snd (Prod.snd x10))), ro := false }], junks := (0 : Nat) })) := by kernel_rfl
end Go.Proofs.Ytfiadoboagpgkaa
end

section
set_option linter.unusedVariables false
set_option linter.unusedSimpArgs false
set_option maxRecDepth 10000
namespace Go.Proofs.Ytfiadoboagpgkaa
open Go Reck Ost
def ssLt (v : Int) (p : List Int × SSv) : Bool := decide (p.2.v0 < v)
theorem dr_succ (V : Rws) (v : Int) (i : Nat) : (U.fi V i 0 < v → U.drIx V v (i + 1) = U.drIx V v i ++ [i]) ∧ (¬ U.fi V i 0 < v → U.drIx V v (i + 1) = U.drIx V v i) := by
  unfold U.drIx
  rw [List.range_succ, List.filter_append]
  refine ⟨fun h => ?_, fun h => ?_⟩
  · rw [List.filter_cons_of_pos (by simp [h])]; rfl
  · rw [List.filter_cons_of_neg (by simpa using h)]; simp
theorem dr_at {P : SSP} {j : Nat} {p : List Int × SSv} (h : P[j]? = some p) : U.fi (U.ssvs P) j 0 = p.2.v0 ∧ (U.ssks P).getD j [] = [.s p.1] ∧ U.fs (U.ssks P) j 0 = p.1 := by
  have h1 : (U.ssvs P).getD j [] = p.2.row := by rw [List.getD_eq_getElem?_getD]; simp [U.ssvs, h]
  have h2 : (U.ssks P).getD j [] = [.s p.1] := by rw [List.getD_eq_getElem?_getD]; simp [U.ssks, h]
  unfold U.fi U.fs
  rw [h1, h2]
  exact ⟨rfl, rfl, rfl⟩
theorem dr_map (P : SSP) (v : Int) : ∀ i : Nat, i ≤ P.length → (U.drIx (U.ssvs P) v i).map (fun m => (U.ssks P).getD m []) = U.ssks ((P.take i).filter (ssLt v)) ∧ (U.drIx (U.ssvs P) v i).map (fun m => U.fi (U.ssvs P) m 0) = ((P.take i).filter (ssLt v)).map fun p => p.2.v0
  | 0, _ => ⟨rfl, rfl⟩
  | i + 1, hi => by
    obtain ⟨h1, h2⟩ := dr_map P v i (by omega)
    have hp := List.getElem?_eq_getElem (show i < P.length by omega)
    obtain ⟨r1, r2, _⟩ := dr_at hp
    have hk := dr_succ (U.ssvs P) v i
    have ht : P.take (i + 1) = P.take i ++ [P[i]] := by rw [List.take_add_one, hp]; rfl
    rw [ht, List.filter_append]
    by_cases hin : U.fi (U.ssvs P) i 0 < v
    · have hf : ssLt v P[i] = true := by unfold ssLt; rw [r1] at hin; simpa using hin
      rw [hk.1 hin, List.filter_cons_of_pos hf, List.map_append, List.map_append, h1, h2]
      unfold U.ssks at r2 ⊢
      rw [List.map_append, List.map_append]
      simp only [List.map_cons, List.map_nil, List.filter_nil, r2, r1]
      exact ⟨trivial, trivial⟩
    · have hf : ssLt v P[i] = false := by unfold ssLt; rw [r1] at hin; simpa using hin
      rw [hk.2 hin, List.filter_cons_of_neg (by rw [hf]; decide)]
      simp only [List.filter_nil, List.append_nil]
      exact ⟨h1, h2⟩
theorem ss_one {P : SSP} (hs : U.ssSrt P) {k : List Int} {e e' : SSv} (h : (k, e) ∈ P) (h' : (k, e') ∈ P) : e = e' := by
  obtain ⟨i, hi⟩ := List.getElem?_of_mem h
  obtain ⟨j, hj⟩ := List.getElem?_of_mem h'
  obtain ⟨li, hi⟩ := List.getElem?_eq_some_iff.1 hi
  obtain ⟨lj, hj⟩ := List.getElem?_eq_some_iff.1 hj
  have hp := List.pairwise_iff_getElem.1 hs.out
  rcases Nat.lt_trichotomy i j with g | g | g
  · have := hp i j li lj g
    rw [hi, hj] at this; exact (ssltS_irr this).elim
  · subst g
    rw [hi] at hj
    exact (Prod.mk.injEq _ _ _ _ ▸ hj).2
  · have := hp j i lj li g
    rw [hi, hj] at this; exact (ssltS_irr this).elim
theorem in_ks {Q : SSP} {k : List Int} : U.ssIn (U.ssks Q) Q.length k ↔ ∃ e, (k, e) ∈ Q := by
  constructor
  · rintro ⟨m, hm, hk⟩
    have hp := List.getElem?_eq_getElem hm
    have := (dr_at hp).2.2
    exact ⟨Q[m].2, by rw [← hk, this]; exact List.getElem_mem hm⟩
  · rintro ⟨e, he⟩
    obtain ⟨m, hm⟩ := List.getElem?_of_mem he
    exact ⟨m, (List.getElem?_eq_some_iff.1 hm).1, (dr_at hm).2.2⟩
theorem keep_eq {P : SSP} (hs : U.ssSrt P) (v : Int) : P.filter (ssKeep (U.ssks (P.filter (ssLt v))) (P.filter (ssLt v)).length) = P.filter fun p => !ssLt v p := by
  apply List.filter_congr
  intro p hp
  have : U.ssIn (U.ssks (P.filter (ssLt v))) (P.filter (ssLt v)).length p.1 ↔ ssLt v p = true := by
    rw [in_ks]
    constructor
    · rintro ⟨e, he⟩
      obtain ⟨h1, h2⟩ := List.mem_filter.1 he
      have := ss_one hs h1 hp
      rw [this] at h2; exact h2
    · intro h
      exact ⟨p.2, List.mem_filter.2 ⟨hp, h⟩⟩
  unfold ssKeep
  by_cases h : ssLt v p = true
  · simp [this.2 h, h]
  · have h' : ¬ U.ssIn (U.ssks (P.filter (ssLt v))) (P.filter (ssLt v)).length p.1 := fun g => h (this.1 g)
    simp [h', h]
set_option maxHeartbeats 1000000 in
theorem drop_run (K : AV → St → Prop) (L M : Rws) (n c d : Nat) (m v : Int) (P : SSP) (h : U.ssshI n c L d M P) (hn : n ≤ 100000)
    (hK : ∀ (n' : Nat) (L' M' : Rws) (P' : SSP) (O : List Int) (r co : Nat), n' = U.sslen P' → P' = P.filter (fun p => !ssLt v p) → U.ssshI n' c L' d M' P' → O = (P.filter (ssLt v)).map (fun p => p.2.v0) → r = O.length → r ≤ co → r ≤ 100000 →
      K (cell (aslC ⟨2, 0, r, co⟩)) ⟨[ssB (rslC ⟨0, 1, 0, n', c⟩) (rslC ⟨1, 1, 0, n', d⟩) m], [], 0, [some (sskB L' c), some (ssvB M' d), some ⟨3, .n .i64, O, co, false⟩], 0⟩) :
    runR invDr sstD 6 [ptr 0 0, xi .i64 v] (ssSt n c L d M m) K := by
  rw [drop_vc]
  have hPn := ssshI_n h
  have hvl : (U.ssvs P).length = P.length := by simp [U.ssvs]
  have hkl : (U.ssks P).length = P.length := by simp [U.ssks]
  refine ⟨P, ⟨⟨rfl, rfl, rfl⟩, h⟩, fun V n2 c3 e2 e3 f1 => ⟨P, ⟨⟨rfl, rfl, rfl⟩, h⟩, fun KK n6 c7 e6 e7 f5 z8 h8 => ⟨?_, ?_⟩⟩⟩
  · refine ⟨(0, (([], (0, 0)), ([], (0, 0)))), ?_⟩
    repeat' (first | exact rfl | with_reducible apply And.intro)
    exact ⟨⟨Int.le_refl _, by dsimp only; omega⟩, ⟨rfl, rfl, Nat.le_refl _, Int.le_refl _⟩, rfl, rfl, Nat.le_refl _, Int.le_refl _⟩
  subst f1; subst f5
  rintro ⟨i, ⟨G, q, cg⟩, O, r, co⟩ hI
  have hI' := hI
  obtain ⟨⟨i1, i2⟩, ⟨g1, g2, g3, g4⟩, o1, o2, o3, o4⟩ := hI'
  dsimp only at i1 i2 g1 g2 g3 g4 o1 o2 o3 o4 hI ⊢
  refine ⟨fun hi => ⟨by omega, fun j hj => ⟨by omega, fun z12 h12 => ⟨by omega, fun j13 hj13 => ⟨by omega, fun z14 h14 => ?_⟩⟩⟩⟩, fun hi => ?_⟩
  · obtain rfl : j13 = j := by omega
    have hp := List.getElem?_eq_getElem (show j13 < P.length by omega)
    obtain ⟨r1, r2, r3⟩ := dr_at hp
    have hd := dr_succ (U.ssvs P) v j13
    refine ⟨fun hlt => ⟨⟨by omega, by omega⟩, trivial, by omega, by decide, fun L15 n16 c17 e15 e16 e17 => ⟨by omega, fun j18 hj18 => ⟨by omega, fun z19 h19 => ⟨⟨by omega, by omega⟩, trivial, by omega, by decide, fun l20 n21 c22 e20 e21 e22 z23 h23 => ?_⟩⟩⟩⟩, fun hge z25 h25 => ?_⟩
    · have e := iw h23 (by omega)
      obtain rfl : j18 = j13 := by omega
      have hix := hd.1 (by rw [h14] at hlt; exact hlt)
      rw [List.drop_zero, g2, List.take_length] at e15
      rw [List.drop_zero, o2, List.take_length] at e20
      have hg : U.drI (U.ssks P) (U.ssvs P) n6 v z23 L15 n16 c17 l20 n21 c22 := by
        rw [show i.toNat = j18 by omega] at g1 o1
        refine ⟨⟨by omega, by omega⟩, ⟨?_, ?_, e17, by omega⟩, ?_, ?_, e22, by omega⟩
        · rw [show z23.toNat = j18 + 1 by omega, hix, List.map_append, ← g1, e15]
          simp only [List.map_cons, List.map_nil, r2, h12, r3]; rfl
        · rw [e15, List.length_append, e16, g2]; rfl
        · rw [show z23.toNat = j18 + 1 by omega, hix, List.map_append, ← o1, e20]
          simp only [List.map_cons, List.map_nil, h19]
        · rw [e20, List.length_append, e21, o2]; rfl
      refine ⟨(z23, ((L15, (n16, c17)), (l20, (n21, c22)))), ?_⟩
      repeat' (first | exact rfl | exact hg | with_reducible apply And.intro)
      dsimp only; omega
    · have e := iw h25 (by omega)
      have hix := hd.2 (by rw [h14] at hge; exact hge)
      have hg : U.drI (U.ssks P) (U.ssvs P) n6 v z25 G q cg O r co := by
        rw [show i.toNat = j13 by omega] at g1 o1
        exact ⟨⟨by omega, by omega⟩, ⟨by rw [show z25.toNat = j13 + 1 by omega, hix]; exact g1, g2, g3, by omega⟩, by rw [show z25.toNat = j13 + 1 by omega, hix]; exact o1, o2, o3, by omega⟩
      refine ⟨(z25, ((G, (q, cg)), (O, (r, co)))), ?_⟩
      repeat' (first | exact rfl | exact hg | with_reducible apply And.intro)
      dsimp only; omega
  · have hm := dr_map P v P.length (Nat.le_refl _)
    rw [List.take_length] at hm
    rw [show i.toNat = P.length by omega] at g1 o1
    rw [hm.1] at g1
    rw [hm.2] at o1
    have hq : q = (P.filter (ssLt v)).length := by rw [g2, g1]; simp [U.ssks]
    refine ⟨P, ⟨rfl, ⟨rfl, rfl, rfl⟩, h, hn, by omega, by omega, ?_⟩, fun n28 L29 M30 P31 e28 hsw hi31 => ?_⟩
    · refine ⟨fun a b hab hb => ?_⟩
      have ha := List.getElem?_eq_getElem (show a < (P.filter (ssLt v)).length by omega)
      have hb' := List.getElem?_eq_getElem (show b < (P.filter (ssLt v)).length by omega)
      rw [g1, (dr_at ha).2.2, (dr_at hb').2.2]
      exact List.pairwise_iff_getElem.1 (List.Pairwise.filter _ h.srt.out) a b (by omega) (by omega) hab
    · have hP : P31 = P.filter fun p => !ssLt v p := by rw [hsw.out, g1, hq, keep_eq h.srt]
      exact hK n28 L29 M30 P31 O r co e28 hP hi31 o1 o2 o3 (by omega)
end Go.Proofs.Ytfiadoboagpgkaa
end

section
set_option linter.unusedVariables false
set_option linter.unusedSimpArgs false
set_option maxRecDepth 10000
namespace Go.Proofs.Ytfiadoboagpgkaa
open Go Reck Ost
theorem ssLen_run (K : AV → St → Prop) (L M : Rws) (n c d : Nat) (m : Int) (hK : K (xi .i64 n) (ssSt n c L d M m)) :
    runV ssov inv0 tbl0 10 [ptr 0 0] (ssSt n c L d M m) K := by
  rw [ssLen_vc]; rintro z rfl; exact hK
/-- The least entry over a key. -/
structure U.ssNx (P : SSP) (k x : List Int) (v : Int) : Prop where
  mem : (x, (⟨v⟩ : SSv)) ∈ P
  lt : LtS k x
  min : ∀ p ∈ P, LtS k p.1 → ¬ LtS p.1 x
def ssnA (x : List Int) (v : Int) (b : Bool) : AV := .inr [.inl (strC x), .inl (xintC .i64 v), .inl (.inl (.bool b))]
theorem ssnx_of {n c d : Nat} {L M : Rws} {P : SSP} (h : U.ssshI n c L d M P) {k : List Int} {j : Nat} (hj : j < n) (lo : ∀ m : Nat, m < j → ¬ LtS k (U.fs L m 0)) (hk : LtS k (U.fs L j 0)) :
    U.ssNx P k (U.fs L j 0) (U.fi M j 0) := by
  have hn := ssshI_n h
  have hzl : j < P.length := by omega
  have hP := List.getElem?_eq_getElem hzl
  have hrow := ssrow_at h hP
  have hkz := sskey_at h hP
  refine ⟨?_, hk, ?_⟩
  · rw [ssof hrow, hkz]; exact List.getElem_mem hzl
  · intro p hp hkp hx
    obtain ⟨m, hm⟩ := List.getElem?_of_mem hp
    have hl := (List.getElem?_eq_some_iff.1 hm).1
    have hkm := sskey_at h hm
    rcases Nat.lt_trichotomy m j with g | g | g
    · exact lo m g (by rw [hkm]; exact hkp)
    · subst g; rw [hkm] at hx; exact ssltS_irr hx
    · have := (sssrt_R h).out j m g (by omega)
      rw [hkm] at this
      exact ssltS_irr (ssltS_tr this hx)
theorem ssnx_no {n c d : Nat} {L M : Rws} {P : SSP} (h : U.ssshI n c L d M P) {k : List Int} (lo : ∀ m : Nat, m < n → ¬ LtS k (U.fs L m 0)) : ∀ p ∈ P, ¬ LtS k p.1 := by
  intro p hp hx
  have hn := ssshI_n h
  obtain ⟨m, hm⟩ := List.getElem?_of_mem hp
  have hl := (List.getElem?_eq_some_iff.1 hm).1
  have hkm := sskey_at h hm
  exact lo m (by omega) (by rw [hkm]; exact hx)
theorem ssNext_run (K : AV → St → Prop) (L M : Rws) (n c d : Nat) (m : Int) (k : List Int) (P : SSP) (h : U.ssshI n c L d M P) (hn : n ≤ 100000)
    (hT : ∀ (x : List Int) (v : Int), U.ssNx P k x v → K (ssnA x v true) (ssSt n c L d M m)) (hF : (∀ p ∈ P, ¬ LtS k p.1) → K (ssnA k 0 false) (ssSt n c L d M m)) :
    runV ssov inv0 sstSh 21 [ptr 0 0, cell (strC k)] (ssSt n c L d M m) K := by
  rw [ssNext_vc]
  have hPn := ssshI_n h
  have hl := h.kf.len
  have hle := h.kf.le
  have hl2 := h.vf.len
  have hle2 := h.vf.le
  refine ⟨⟨rfl, by omega, by omega, sssrt_R h⟩, fun z hz => ?_⟩
  have hb := hz.b
  obtain ⟨z, rfl⟩ : ∃ y : Nat, z = y := ⟨z.toNat, by omega⟩
  have lo : ∀ a : Nat, a < z → ¬ LtS k (U.fs L a 0) := fun a ha hx => ssltS_irr (ssltS_tr (hz.lo a (by omega)) hx)
  refine ⟨fun hx z1 h1 z2 h2 => ?_, fun hx z7 h7 => ?_⟩
  · obtain ⟨g1, g2⟩ := hx.out
    rw [Int.toNat_natCast] at g2
    have e1 := iw h1 (by omega)
    subst h2
    have lo1 : ∀ a : Nat, a < z + 1 → ¬ LtS k (U.fs L a 0) := by
      intro a ha hxx
      by_cases e : a = z
      · rw [e, g2] at hxx; exact ssltS_irr hxx
      · exact lo a (by omega) hxx
    refine ⟨fun hge => hF (ssnx_no h fun a ha => lo1 a (by omega)), fun hlt => ⟨by omega, fun j3 h3 => ⟨by omega, ?_⟩⟩⟩
    rintro _ rfl
    refine ⟨by omega, fun j5 h5 => ⟨by omega, ?_⟩⟩
    rintro _ rfl
    obtain rfl : j5 = j3 := by omega
    refine hT _ _ (ssnx_of h (by omega) (fun a ha => lo1 a (by omega)) ?_)
    have := (sssrt_R h).out z j5 (by omega) (by omega)
    rwa [g2] at this
  · subst h7
    refine ⟨fun hge => hF (ssnx_no h fun a ha => lo a (by omega)), fun hlt => ⟨by omega, fun j3 h3 => ⟨by omega, ?_⟩⟩⟩
    rintro _ rfl
    refine ⟨by omega, fun j5 h5 => ⟨by omega, ?_⟩⟩
    rintro _ rfl
    obtain rfl : j5 = j3 := by omega
    obtain rfl : j5 = z := by omega
    refine hT _ _ (ssnx_of h (by omega) lo ?_)
    by_cases hk : LtS k (U.fs L j5 0)
    · exact hk
    · exact (hx ⟨by omega, by rw [Int.toNat_natCast]; exact ssltS_tri (hz.hi j5 (by omega) (by omega)) hk⟩).elim
/-- P' is P without two keys. -/
structure U.ssRm2 (P : SSP) (k l : List Int) (P' : SSP) : Prop where
  srt : U.ssSrt P'
  mem : ∀ x y, (x, y) ∈ P' ↔ (x, y) ∈ P ∧ x ≠ k ∧ x ≠ l
def ssV2 (k l : List Int) : Option Blk := some ⟨9, [strC k, strC l], none, 2, false⟩
theorem ssDel2_run (K : AV → St → Prop) (L M : Rws) (n c d : Nat) (m : Int) (k l : List Int) (P : SSP) (h : U.ssshI n c L d M P) (hn : n ≤ 100000)
    (hM : ∀ (n' : Nat) (L' M' : Rws) (P' : SSP) (r : Int), n' = U.sslen P' → U.ssRm2 P k l P' → U.ssshI n' c L' d M' P' → r = (n : Int) - n' → n' ≤ n → K (xi .i64 r) ⟨[ssB (rslC ⟨2, 1, 0, n', c⟩) (rslC ⟨3, 1, 0, n', d⟩) m, ssV2 k l], [], 0, [none, none, some (sskB L' c), some (ssvB M' d)], 0⟩)
    (h0 : U.ssRm2 P k l P → K (xi .i64 0) ⟨[ssB (rslC ⟨0, 1, 0, n, c⟩) (rslC ⟨1, 1, 0, n, d⟩) m, ssV2 k l], [], 0, [some (sskB L c), some (ssvB M d)], 0⟩) :
    runV ssov inv0 sstSh 19 [ptr 0 0, sl ⟨1, 0, 2, none, 2⟩] ⟨[ssB (rslC ⟨0, 1, 0, n, c⟩) (rslC ⟨1, 1, 0, n, d⟩) m, ssV2 k l], [], 0, [some (sskB L c), some (ssvB M d)], 0⟩ K := by
  unfold ssV2 at *
  rw [ssDel2_vc]
  have hPn := ssshI_n h
  have hl := h.kf.len
  have hle := h.kf.le
  have hl2 := h.vf.len
  have hle2 := h.vf.le
  have not {Q : SSP} {q x : List Int} {y : SSv} (hq : ¬ U.ssHasK Q q) (hm : (x, y) ∈ Q) : x ≠ q := fun e => hq ⟨y, e ▸ hm⟩
  refine ⟨⟨rfl, by omega, by omega, sssrt_R h⟩, fun z hz => ?_⟩
  have hb := hz.b
  obtain ⟨z, rfl⟩ : ∃ y : Nat, z = y := ⟨z.toNat, by omega⟩
  refine ⟨fun hx z1 hz1 => ?_, fun hx => ?_⟩
  · have hlt := hx.out.1
    have e1 := iw hz1 (by omega)
    obtain ⟨q1, q2, q3⟩ := ssrem_has h hz hx
    refine ⟨U.ssks P, ⟨rfl, h.kf, by omega, e1⟩, fun n3 L4 e3 f4 z5 h5 => ⟨U.ssvs P, ⟨rfl, h.vf, by omega, iw h5 (by omega)⟩, fun n7 L8 e7 f8 => ?_⟩⟩
    obtain rfl : n7 = n3 := by omega
    have hi : U.ssshI n7 c L4 d L8 (P.eraseIdx z) := ⟨by rw [q2]; exact f4, by rw [q3]; exact f8, q1.srt⟩
    have hPn2 := ssshI_n hi
    have kl := hi.kf.len
    have kle := hi.kf.le
    refine ⟨⟨rfl, by omega, by omega, sssrt_R hi⟩, fun y hy => ?_⟩
    have hb2 := hy.b
    obtain ⟨y, rfl⟩ : ∃ x : Nat, y = x := ⟨y.toNat, by omega⟩
    refine ⟨fun hx2 z10 h10 => ?_, fun hx2 => ?_⟩
    · have hlt2 := hx2.out.1
      obtain ⟨p1, p2, p3⟩ := ssrem_has hi hy hx2
      refine ⟨_, ⟨rfl, hi.kf, by omega, iw h10 (by omega)⟩, fun n12 L13 e12 f13 z14 h14 => ⟨_, ⟨rfl, hi.vf, by omega, iw h14 (by omega)⟩, fun n16 L17 e16 f17 => ?_⟩⟩
      obtain rfl : n16 = n12 := by omega
      have hj : U.ssshI n16 c L13 d L17 ((P.eraseIdx z).eraseIdx y) := ⟨by rw [p2]; exact f13, by rw [p3]; exact f17, p1.srt⟩
      exact hM n16 L13 L17 _ 2 (ssshI_n hj).symm ⟨p1.srt, fun a b => by rw [p1.mem, q1.mem, and_assoc]⟩ hj (by omega) (by omega)
    · have hno : ¬ U.ssHasK (P.eraseIdx z) l := fun g => hx2 ((sshas_iff hi hy).2 g)
      exact hM n7 L4 L8 _ 1 hPn2.symm ⟨q1.srt, fun a b => ⟨fun g => ⟨((q1.mem a b).1 g).1, ((q1.mem a b).1 g).2, not hno g⟩, fun g => (q1.mem a b).2 ⟨g.1, g.2.1⟩⟩⟩ hi (by omega) (by omega)
  · have hno : ¬ U.ssHasK P k := fun g => hx ((sshas_iff h hz).2 g)
    refine ⟨⟨rfl, by omega, by omega, sssrt_R h⟩, fun y hy => ?_⟩
    have hb2 := hy.b
    obtain ⟨y, rfl⟩ : ∃ x : Nat, y = x := ⟨y.toNat, by omega⟩
    refine ⟨fun hx2 z19 h19 => ?_, fun hx2 => ?_⟩
    · have hlt2 := hx2.out.1
      obtain ⟨p1, p2, p3⟩ := ssrem_has h hy hx2
      refine ⟨_, ⟨rfl, h.kf, by omega, iw h19 (by omega)⟩, fun n12 L13 e12 f13 z14 h14 => ⟨_, ⟨rfl, h.vf, by omega, iw h14 (by omega)⟩, fun n16 L17 e16 f17 => ?_⟩⟩
      obtain rfl : n16 = n12 := by omega
      have hj : U.ssshI n16 c L13 d L17 (P.eraseIdx y) := ⟨by rw [p2]; exact f13, by rw [p3]; exact f17, p1.srt⟩
      exact hM n16 L13 L17 _ 1 (ssshI_n hj).symm ⟨p1.srt, fun a b => ⟨fun g => ⟨((p1.mem a b).1 g).1, not hno ((p1.mem a b).1 g).1, ((p1.mem a b).1 g).2⟩, fun g => (p1.mem a b).2 ⟨g.1, g.2.2⟩⟩⟩ hj (by omega) (by omega)
    · have hno2 : ¬ U.ssHasK P l := fun g => hx2 ((sshas_iff h hy).2 g)
      exact h0 ⟨h.srt, fun a b => ⟨fun g => ⟨g, not hno g, not hno2 g⟩, fun g => g.1⟩⟩
end Go.Proofs.Ytfiadoboagpgkaa
end

section
set_option linter.unusedVariables false
set_option linter.unusedSimpArgs false
set_option maxRecDepth 10000
namespace Go.Proofs.Ytfiadoboagpgkaa
open Go Reck Ost
def U.v0s (P : SSP) : List Int := P.map fun p => p.2.v0
def U.ssGe (v : Int) (P : SSP) : SSP := P.filter fun p => !ssLt v p
def U.ssLs (v : Int) (P : SSP) : SSP := P.filter (ssLt v)
def sspDrop : Pat := fun args σ => match args, σ with
  | [.inl (.inl (.inr (.inl (0, 0)))), x], ⟨[p], [], 0, [a1, a2], 0⟩ => match aInt x, ssshC p a1 a2 with
    | some v, some (n, c, L, d, M, m) => some fun K => ∃ P, (ssshD p a1 a2 ∧ U.ssshI n c L d M P ∧ n ≤ 100000) ∧ ∀ (n' : Nat) (L' M' : Rws) (P' : SSP) (O : List Int) (r co : Nat), n' = U.sslen P' → P' = U.ssGe v P → U.ssshI n' c L' d M' P' → O = U.v0s (U.ssLs v P) → r = O.length → r ≤ co → r ≤ 100000 →
      K (cell (aslC ⟨2, 0, r, co⟩)) ⟨[ssB (rslC ⟨0, 1, 0, n', c⟩) (rslC ⟨1, 1, 0, n', d⟩) m], [], 0, [some (sskB L' c), some (ssvB M' d), some ⟨3, .n .i64, O, co, false⟩], 0⟩
    | _, _ => none
  | _, _ => none
theorem sspDrop_ok : PatOk 6 sspDrop := by
  intro tm σ C h K hK w0 e w hk vs hvs
  unfold sspDrop at h
  split at h
  · split at h
    · rename_i hx hσ
      simp only [Option.some.injEq] at h; subst h
      obtain ⟨P, ⟨hy, h1, h2⟩, h3⟩ := hK
      obtain ⟨rfl, rfl, rfl⟩ := ssshC_eq hσ hy
      obtain ⟨x, y, rfl, q1, q2⟩ := twos hvs
      exact knownC noOv names (conOk_ofR sstD_ok) (drop_run K _ _ _ _ _ _ _ P h1 h2 h3) w0 e w hk _ (map2 q1 (as_aInt hx q2))
    · cases h
  · cases h
def sspLen : Pat := fun args σ => match args, σ with
  | [.inl (.inl (.inr (.inl (0, 0))))], ⟨[p], [], 0, [a1, a2], 0⟩ => match ssshC p a1 a2 with
    | some (n, c, L, d, M, m) => some fun K => ssshD p a1 a2 ∧ K (xi .i64 n) (ssSt n c L d M m)
    | _ => none
  | _, _ => none
theorem sspLen_ok : PatOk 10 sspLen := by
  intro tm σ C h K hK w0 e w hk vs hvs
  unfold sspLen at h
  split at h
  · split at h
    · rename_i hσ
      simp only [Option.some.injEq] at h; subst h
      obtain ⟨hy, h1⟩ := hK
      obtain ⟨rfl, rfl, rfl⟩ := ssshC_eq hσ hy
      exact knownD noOv names (opMV_ok ssovOk) (conOk_ofR tbl0_ok) (ssLen_run K _ _ _ _ _ _ h1) w0 e w hk vs hvs
    · cases h
  · cases h
def sspNext : Pat := fun args σ => match args, σ with
  | [.inl (.inl (.inr (.inl (0, 0)))), k], ⟨[p], [], 0, [a1, a2], 0⟩ => match strX k, ssshC p a1 a2 with
    | some k, some (n, c, L, d, M, m) => some fun K => ∃ P, (ssshD p a1 a2 ∧ U.ssshI n c L d M P ∧ n ≤ 100000) ∧ (∀ (x : List Int) (v : Int), U.ssNx P k x v → K (ssnA x v true) (ssSt n c L d M m)) ∧ ((∀ p ∈ P, ¬ LtS k p.1) → K (ssnA k 0 false) (ssSt n c L d M m))
    | _, _ => none
  | _, _ => none
theorem sspNext_ok : PatOk 21 sspNext := by
  intro tm σ C h K hK w0 e w hk vs hvs
  unfold sspNext at h
  split at h
  · split at h
    · rename_i hkk hσ
      simp only [Option.some.injEq] at h; subst h
      obtain ⟨P, ⟨hy, h1, h2⟩, h3, h4⟩ := hK
      obtain ⟨rfl, rfl, rfl⟩ := ssshC_eq hσ hy
      obtain ⟨x, y, rfl, q1, q2⟩ := twos hvs
      exact knownD noOv names (opMV_ok ssovOk) (conOk_ofR sstSh_ok) (ssNext_run K _ _ _ _ _ _ _ P h1 h2 h3 h4) w0 e w hk _ (map2 q1 (as_str hkk q2))
    · cases h
  · cases h
def sspDel2 : Pat := fun args σ => match args, σ with
  | [.inl (.inl (.inr (.inl (0, 0)))), .inl (.inl (.inr (.inr (.inl ⟨1, 0, 2, none, 2⟩))))], ⟨[p, some ⟨9, [u, v], none, 2, false⟩], [], 0, [a1, a2], 0⟩ => match cStr u, cStr v, ssshC p a1 a2 with
    | some k, some l, some (n, c, L, d, M, m) => some fun K => ∃ P, (ssshD p a1 a2 ∧ U.ssshI n c L d M P ∧ n ≤ 100000) ∧ ∀ (z : Int) (L' : Rws) (n' : Nat) (M' : Rws) (P' : SSP), n' = U.sslen P' → z = (n : Int) - n' → n' ≤ n → U.ssRm2 P k l P' → U.ssshI n' c L' d M' P' → K (xi .i64 z) ⟨[ssB (rslC ⟨2, 1, 0, n', c⟩) (rslC ⟨3, 1, 0, n', d⟩) m, ssV2 k l], [], 0, [none, none, some (sskB L' c), some (ssvB M' d)], 0⟩
    | _, _, _ => none
  | _, _ => none
theorem sspDel2_ok : PatOk 19 sspDel2 := by
  intro tm σ C h K hK w0 e w hk vs hvs
  unfold sspDel2 at h
  split at h
  · split at h
    · rename_i k l n c L d M m hkk hll hσ
      simp only [Option.some.injEq] at h; subst h
      obtain ⟨P, ⟨hy, h1, h2⟩, h3⟩ := hK
      obtain ⟨rfl, rfl, rfl⟩ := ssshC_eq hσ hy
      obtain rfl := cStr_eq hkk
      obtain rfl := cStr_eq hll
      obtain ⟨x, y, rfl, q1, q2⟩ := twos hvs
      have hn := ssshI_n h1
      refine (knownD noOv names (opMV_ok ssovOk) (conOk_ofR sstSh_ok) (ssDel2_run (fun x σ' => ∃ (z : Int) (L' : Rws) (n' : Nat) (M' : Rws) (P' : SSP), x = xi .i64 z ∧ n' = U.sslen P' ∧ z = (n : Int) - n' ∧ n' ≤ n ∧ U.ssRm2 P k l P' ∧ U.ssshI n' c L' d M' P' ∧ (σ' = ⟨[ssB (rslC ⟨0, 1, 0, n', c⟩) (rslC ⟨1, 1, 0, n', d⟩) m, ssV2 k l], [], 0, [some (sskB L' c), some (ssvB M' d)], 0⟩ ∨ σ' = ⟨[ssB (rslC ⟨2, 1, 0, n', c⟩) (rslC ⟨3, 1, 0, n', d⟩) m, ssV2 k l], [], 0, [none, none, some (sskB L' c), some (ssvB M' d)], 0⟩)) L M n c d m k l P h1 h2 ?_ ?_) w0 e w hk _ (map2 q1 q2)).mono ?_
      · exact fun n' L' M' P' r he hr hi hz hle => ⟨r, L', n', M', P', rfl, he, hz, hle, hr, hi, .inr rfl⟩
      · exact fun hr => ⟨0, L, n, M, P, rfl, hn.symm, by omega, Nat.le_refl _, hr, h1, .inl rfl⟩
      · rintro en' w' ⟨x, σ', e', v, g1, g2, g3, g4, z, L', n', M', P', rfl, f1, fz, fy, f2, f3, rfl | rfl⟩
        · obtain ⟨e2, l2, k2⟩ := ssmv g4
          exact ⟨_, _, e2, v, g1, g2.trans l2, av_mono l2 _ _ g3, k2, h3 z L' n' M' P' f1 fz fy f2 f3⟩
        · exact ⟨_, _, e', v, g1, g2, g3, g4, h3 z L' n' M' P' f1 fz fy f2 f3⟩
    · cases h
  · cases h
def sstW : Tbl := tblOr (tblIf 6 sspDrop) (tblOr (tblIf 10 sspLen) (tblOr (tblIf 21 sspNext) (tblOr (tblIf 19 sspDel2) sstS)))
theorem sstW_ok : TblOk Try.prog sstW := tblOr_ok (tblIf_ok sspDrop_ok) (tblOr_ok (tblIf_ok sspLen_ok) (tblOr_ok (tblIf_ok sspNext_ok) (tblOr_ok (tblIf_ok sspDel2_ok) sstS_ok)))
end Go.Proofs.Ytfiadoboagpgkaa
end
