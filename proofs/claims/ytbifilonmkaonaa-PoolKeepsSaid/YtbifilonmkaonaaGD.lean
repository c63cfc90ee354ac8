/- Parts of a proof, one behind the other: QP1 QP2 QP3 QP4 QP5 QP6. No condition. -/
import Derived.Test.YtbifilonmkaonaaGC
section
namespace Go.Proofs.Ytbifilonmkaonaa
open Go Reck Ost
set_option linter.unusedVariables false
set_option maxRecDepth 100000
def qpB (base n ticks : Int) : Option Blk := some ⟨57, [xintC .u32 base, xintC .i64 n, xintC .i64 ticks, .inr (.inl (1, 0))], none, 4, false⟩
def qpSt (base n ticks : Int) (q c : Nat) (L : Rws) (d : Nat) (M : Rws) : St := ⟨[qpB base n ticks, qlB (rslC ⟨0, 1, 0, q, c⟩) (rslC ⟨1, 3, 0, q, d⟩) n], [], 0, [some (qlkB L c), some (qlvB M d)], 0⟩
structure U.qfI (P : QLP) (m i : Int) : Prop where
  out : 0 ≤ i ∧ i ≤ P.length ∧ ∀ t : Nat, (t : Int) < i → ∀ p, P[t]? = some p → p.2.v0 ≠ m
def qfInv (P : QLP) (m : Int) (tm : List AV) (σ : St) : Inv where
  X := Int
  tags := [0]
  tag _ _ := 0
  J := [2, 3, 5, 6, 7, 8, 12, 13, 14, 15, 16, 17, 18, 19, 20, 21]
  val _ x := [(11, xi .i64 x)]
  st _ _ σ' := σ'
  I _ x := U.qfI P m x
  m _ x := ((slotR tm 9).n : Int).toNat - x.toNat
  ren := noRen
def invQf (P : QLP) (m : Int) : InvF := fun c tm σ => match tm.length, firstReg c with
  | 22, some 2 => some (qfInv P m tm σ)
  | _, _ => none
def qpDp (P : QLP) (f : Int × QLv → Bool) (tm : List AV) (σ : St) : Inv where
  X := Int × ((Rws × (Nat × Nat)) × (Rws × (Nat × Nat)))
  tags := [0]
  tag _ _ := 0
  J := [2, 3, 4, 8, 9, 10, 11, 12, 13, 14, 15, 16, 17, 18, 22, 23, 24, 25, 26, 27, 28, 29, 30, 31, 32, 33, 34, 35, 36, 37, 38, 39, 40, 41, 42, 43, 44, 45, 46, 47, 48]
  val _ x := [(21, xi .i64 x.1), (5, cell (rslC ⟨σ.arrs.length, 1, 0, x.2.1.2.1, x.2.1.2.2⟩)), (6, cell (rslC ⟨σ.arrs.length + 1, 3, 0, x.2.2.2.1, x.2.2.2.2⟩))]
  st _ x σ' := ⟨σ'.heap, σ'.ints, σ'.opqs, σ'.arrs.dropLast.dropLast ++ [some (qlkB x.2.1.1 x.2.1.2.2), some (qlvB x.2.2.1 x.2.2.2.2)], σ'.junks⟩
  I _ x := U.qldpI P f x.1 x.2.1.1 x.2.1.2.1 x.2.1.2.2 x.2.2.1 x.2.2.2.1 x.2.2.2.2
  m _ x := ((slotR tm 19).n : Int).toNat - x.1.toNat
  ren tm' σ' := ([], [(slotR tm' 5).a, (slotR tm' 6).a])
def invQd (P : QLP) (f : Int × QLv → Bool) : InvF := fun c tm σ => match tm.length, firstReg c with
  | 49, some 7 => some (qpDp P f tm σ)
  | _, _ => none
--PLAIN
theorem qnew_vc (K : AV → St → Prop) (base n ticks : Int) : (runR inv0 qltS 7 [xi .u32 base, xi .i64 n, xi .i64 ticks] emptySt K) = ((n < (1 : Int) → K (Sum.inr [Sum.inl (Sum.inl (Value.pointer none)), Sum.inl (Sum.inr (Sum.inr (Sum.inr (Sum.inr (Sum.inr (Sum.inr (Sum.inl (IntKind.i64, (1 : Int)))))))))]) { heap := [], ints := [], opqs := (0 : Nat), arrs := [], junks := (0 : Nat) }) ∧ (¬n < (1 : Int) → ((64 : Int) < n → K (Sum.inr [Sum.inl (Sum.inl (Value.pointer none)), Sum.inl (Sum.inr (Sum.inr (Sum.inr (Sum.inr (Sum.inr (Sum.inr (Sum.inl (IntKind.i64, (1 : Int)))))))))]) { heap := [], ints := [], opqs := (0 : Nat), arrs := [], junks := (0 : Nat) }) ∧ (¬(64 : Int) < n → ∀ (z0 : Int), z0 = IntKind.wrap IntKind.i64 base → ∀ (z1 : Int), z1 = IntKind.wrap IntKind.i64 ((4294967295 : Int) - n) → (z1 < z0 → K (Sum.inr [Sum.inl (Sum.inl (Value.pointer none)), Sum.inl (Sum.inr (Sum.inr (Sum.inr (Sum.inr (Sum.inr (Sum.inr (Sum.inl (IntKind.i64, (1 : Int)))))))))]) { heap := [], ints := [], opqs := (0 : Nat), arrs := [], junks := (0 : Nat) }) ∧ (¬z1 < z0 → (ticks < (1 : Int) → K (Sum.inr [Sum.inl (Sum.inl (Value.pointer none)), Sum.inl (Sum.inr (Sum.inr (Sum.inr (Sum.inr (Sum.inr (Sum.inr (Sum.inl (IntKind.i64, (1 : Int)))))))))]) { heap := [], ints := [], opqs := (0 : Nat), arrs := [], junks := (0 : Nat) }) ∧ (¬ticks < (1 : Int) → ((1048576 : Int) < ticks → K (Sum.inr [Sum.inl (Sum.inl (Value.pointer none)), Sum.inl (Sum.inr (Sum.inr (Sum.inr (Sum.inr (Sum.inr (Sum.inr (Sum.inl (IntKind.i64, (1 : Int)))))))))]) { heap := [], ints := [], opqs := (0 : Nat), arrs := [], junks := (0 : Nat) }) ∧ (¬(1048576 : Int) < ticks → K (Sum.inr [Sum.inl (Sum.inr (Sum.inl ((0 : Nat), (0 : Nat)))), Sum.inl (Sum.inr (Sum.inr (Sum.inr (Sum.inr (Sum.inr (Sum.inr (Sum.inl (IntKind.i64, (0 : Int)))))))))]) { heap := [some { elem := nat_lit 57, cells := [Sum.inr (Sum.inr (Sum.inr (Sum.inr (Sum.inr (Sum.inr (Sum.inl (IntKind.u32, base))))))), Sum.inr (Sum.inr (Sum.inr (Sum.inr (Sum.inr (Sum.inr (Sum.inl (IntKind.i64, n))))))), Sum.inr (Sum.inr (Sum.inr (Sum.inr (Sum.inr (Sum.inr (Sum.inl (IntKind.i64, ticks))))))), Sum.inr (Sum.inl ((1 : Nat), (0 : Nat)))], j := none, c := (1 : Nat) + (1 : Nat) + (1 : Nat) + (1 : Nat), z := false }, some { elem := nat_lit 82, cells := [Sum.inr (Sum.inr (Sum.inr (Sum.inr (Sum.inr (Sum.inr (Sum.inr (Sum.inr (Sum.inr (Sum.inr (Sum.inr (Sum.inl { a := (0 : Nat), u := (1 : Nat), o := (0 : Nat), n := (0 : Nat), c := (0 : Nat) }))))))))))), Sum.inr (Sum.inr (Sum.inr (Sum.inr (Sum.inr (Sum.inr (Sum.inr (Sum.inr (Sum.inr (Sum.inr (Sum.inr (Sum.inl { a := (1 : Nat), u := (3 : Nat), o := (0 : Nat), n := (0 : Nat), c := (0 : Nat) }))))))))))), Sum.inr (Sum.inr (Sum.inr (Sum.inr (Sum.inr (Sum.inr (Sum.inl (IntKind.i64, n)))))))], j := none, c := (3 : Nat), z := false }], ints := [], opqs := (0 : Nat), arrs := [some { elem := (28 : Nat), k := AK.o (Obj.rows [CK.n IntKind.u32] U.nilL), l := [], cap := (0 : Nat), ro := false }, some { elem := (41 : Nat), k := AK.o (Obj.rows [CK.n IntKind.u64, CK.n IntKind.u32, CK.n IntKind.i64] U.nilL), l := [], cap := (0 : Nat), ro := false }], junks := (0 : Nat) })))))) := by kernel_rfl
theorem qof_vc (K : AV → St → Prop) (base n ticks : Int) (q c : Nat) (L : Rws) (d : Nat) (M : Rws) (ip : Int) : (runR inv0 qltS 16 [ptr 0 0, xi .u32 ip] (qpSt base n ticks q c L d M) K) = (∃ (y0 : QLP), ((c = c ∧ d = d ∧ q = q) ∧ U.qlshI q c L d M y0 ∧ q ≤ (100000 : Nat)) ∧ (∀ (v01 v12 v23 : Int), U.qlHasE y0 ip v01 v12 v23 → K (Sum.inr [Sum.inr [Sum.inr (Sum.inr (Sum.inr (Sum.inr (Sum.inr (Sum.inr (Sum.inl (IntKind.u64, v01))))))), Sum.inr (Sum.inr (Sum.inr (Sum.inr (Sum.inr (Sum.inr (Sum.inl (IntKind.u32, v12))))))), Sum.inr (Sum.inr (Sum.inr (Sum.inr (Sum.inr (Sum.inr (Sum.inl (IntKind.i64, v23)))))))], Sum.inl (Sum.inl (Value.bool true))]) { heap := [some { elem := nat_lit 57, cells := [Sum.inr (Sum.inr (Sum.inr (Sum.inr (Sum.inr (Sum.inr (Sum.inl (IntKind.u32, base))))))), Sum.inr (Sum.inr (Sum.inr (Sum.inr (Sum.inr (Sum.inr (Sum.inl (IntKind.i64, n))))))), Sum.inr (Sum.inr (Sum.inr (Sum.inr (Sum.inr (Sum.inr (Sum.inl (IntKind.i64, ticks))))))), Sum.inr (Sum.inl ((1 : Nat), (0 : Nat)))], j := none, c := (4 : Nat), z := false }, some { elem := nat_lit 82, cells := [Sum.inr (Sum.inr (Sum.inr (Sum.inr (Sum.inr (Sum.inr (Sum.inr (Sum.inr (Sum.inr (Sum.inr (Sum.inr (Sum.inl { a := (0 : Nat), u := (1 : Nat), o := (0 : Nat), n := q, c := c }))))))))))), Sum.inr (Sum.inr (Sum.inr (Sum.inr (Sum.inr (Sum.inr (Sum.inr (Sum.inr (Sum.inr (Sum.inr (Sum.inr (Sum.inl { a := (1 : Nat), u := (3 : Nat), o := (0 : Nat), n := q, c := d }))))))))))), Sum.inr (Sum.inr (Sum.inr (Sum.inr (Sum.inr (Sum.inr (Sum.inl (IntKind.i64, n)))))))], j := none, c := (3 : Nat), z := false }], ints := [], opqs := (0 : Nat), arrs := [some { elem := (28 : Nat), k := AK.o (Obj.rows [CK.n IntKind.u32] L), l := [], cap := c, ro := false }, some { elem := (41 : Nat), k := AK.o (Obj.rows [CK.n IntKind.u64, CK.n IntKind.u32, CK.n IntKind.i64] M), l := [], cap := d, ro := false }], junks := (0 : Nat) }) ∧ (¬U.qlHasK y0 ip → K (Sum.inr [Sum.inr [Sum.inr (Sum.inr (Sum.inr (Sum.inr (Sum.inr (Sum.inr (Sum.inl (IntKind.u64, (0 : Int)))))))), Sum.inr (Sum.inr (Sum.inr (Sum.inr (Sum.inr (Sum.inr (Sum.inl (IntKind.u32, (0 : Int)))))))), Sum.inr (Sum.inr (Sum.inr (Sum.inr (Sum.inr (Sum.inr (Sum.inl (IntKind.i64, (0 : Int))))))))], Sum.inl (Sum.inl (Value.bool false))]) { heap := [some { elem := nat_lit 57, cells := [Sum.inr (Sum.inr (Sum.inr (Sum.inr (Sum.inr (Sum.inr (Sum.inl (IntKind.u32, base))))))), Sum.inr (Sum.inr (Sum.inr (Sum.inr (Sum.inr (Sum.inr (Sum.inl (IntKind.i64, n))))))), Sum.inr (Sum.inr (Sum.inr (Sum.inr (Sum.inr (Sum.inr (Sum.inl (IntKind.i64, ticks))))))), Sum.inr (Sum.inl ((1 : Nat), (0 : Nat)))], j := none, c := (4 : Nat), z := false }, some { elem := nat_lit 82, cells := [Sum.inr (Sum.inr (Sum.inr (Sum.inr (Sum.inr (Sum.inr (Sum.inr (Sum.inr (Sum.inr (Sum.inr (Sum.inr (Sum.inl { a := (0 : Nat), u := (1 : Nat), o := (0 : Nat), n := q, c := c }))))))))))), Sum.inr (Sum.inr (Sum.inr (Sum.inr (Sum.inr (Sum.inr (Sum.inr (Sum.inr (Sum.inr (Sum.inr (Sum.inr (Sum.inl { a := (1 : Nat), u := (3 : Nat), o := (0 : Nat), n := q, c := d }))))))))))), Sum.inr (Sum.inr (Sum.inr (Sum.inr (Sum.inr (Sum.inr (Sum.inl (IntKind.i64, n)))))))], j := none, c := (3 : Nat), z := false }], ints := [], opqs := (0 : Nat), arrs := [some { elem := (28 : Nat), k := AK.o (Obj.rows [CK.n IntKind.u32] L), l := [], cap := c, ro := false }, some { elem := (41 : Nat), k := AK.o (Obj.rows [CK.n IntKind.u64, CK.n IntKind.u32, CK.n IntKind.i64] M), l := [], cap := d, ro := false }], junks := (0 : Nat) })) := by kernel_rfl
theorem qlets_vc (K : AV → St → Prop) (base n ticks : Int) (q c : Nat) (L : Rws) (d : Nat) (M : Rws) (ip : Int) : (runR inv0 qltS 30 [ptr 0 0, xi .u32 ip] (qpSt base n ticks q c L d M) K) = ((base < ip → ∀ (z0 : Int), z0 = IntKind.wrap IntKind.u32 (ip - base) → ∀ (z1 : Int), z1 = IntKind.wrap IntKind.u32 n → (z0 ≤ z1 → K (Sum.inl (Sum.inl (Sum.inl (Value.bool true)))) { heap := [some { elem := nat_lit 57, cells := [Sum.inr (Sum.inr (Sum.inr (Sum.inr (Sum.inr (Sum.inr (Sum.inl (IntKind.u32, base))))))), Sum.inr (Sum.inr (Sum.inr (Sum.inr (Sum.inr (Sum.inr (Sum.inl (IntKind.i64, n))))))), Sum.inr (Sum.inr (Sum.inr (Sum.inr (Sum.inr (Sum.inr (Sum.inl (IntKind.i64, ticks))))))), Sum.inr (Sum.inl ((1 : Nat), (0 : Nat)))], j := none, c := (4 : Nat), z := false }, some { elem := nat_lit 82, cells := [Sum.inr (Sum.inr (Sum.inr (Sum.inr (Sum.inr (Sum.inr (Sum.inr (Sum.inr (Sum.inr (Sum.inr (Sum.inr (Sum.inl { a := (0 : Nat), u := (1 : Nat), o := (0 : Nat), n := q, c := c }))))))))))), Sum.inr (Sum.inr (Sum.inr (Sum.inr (Sum.inr (Sum.inr (Sum.inr (Sum.inr (Sum.inr (Sum.inr (Sum.inr (Sum.inl { a := (1 : Nat), u := (3 : Nat), o := (0 : Nat), n := q, c := d }))))))))))), Sum.inr (Sum.inr (Sum.inr (Sum.inr (Sum.inr (Sum.inr (Sum.inl (IntKind.i64, n)))))))], j := none, c := (3 : Nat), z := false }], ints := [], opqs := (0 : Nat), arrs := [some { elem := (28 : Nat), k := AK.o (Obj.rows [CK.n IntKind.u32] L), l := [], cap := c, ro := false }, some { elem := (41 : TypeId), k := AK.o (Obj.rows [CK.n IntKind.u64, CK.n IntKind.u32, CK.n IntKind.i64] M), l := [], cap := d, ro := false }], junks := (0 : Nat) }) ∧ (¬z0 ≤ z1 → K (Sum.inl (Sum.inl (Sum.inl (Value.bool false)))) { heap := [some { elem := nat_lit 57, cells := [Sum.inr (Sum.inr (Sum.inr (Sum.inr (Sum.inr (Sum.inr (Sum.inl (IntKind.u32, base))))))), Sum.inr (Sum.inr (Sum.inr (Sum.inr (Sum.inr (Sum.inr (Sum.inl (IntKind.i64, n))))))), Sum.inr (Sum.inr (Sum.inr (Sum.inr (Sum.inr (Sum.inr (Sum.inl (IntKind.i64, ticks))))))), Sum.inr (Sum.inl ((1 : Nat), (0 : Nat)))], j := none, c := (4 : Nat), z := false }, some { elem := nat_lit 82, cells := [Sum.inr (Sum.inr (Sum.inr (Sum.inr (Sum.inr (Sum.inr (Sum.inr (Sum.inr (Sum.inr (Sum.inr (Sum.inr (Sum.inl { a := (0 : Nat), u := (1 : Nat), o := (0 : Nat), n := q, c := c }))))))))))), Sum.inr (Sum.inr (Sum.inr (Sum.inr (Sum.inr (Sum.inr (Sum.inr (Sum.inr (Sum.inr (Sum.inr (Sum.inr (Sum.inl { a := (1 : Nat), u := (3 : Nat), o := (0 : Nat), n := q, c := d }))))))))))), Sum.inr (Sum.inr (Sum.inr (Sum.inr (Sum.inr (Sum.inr (Sum.inl (IntKind.i64, n)))))))], j := none, c := (3 : Nat), z := false }], ints := [], opqs := (0 : Nat), arrs := [some { elem := (28 : Nat), k := AK.o (Obj.rows [CK.n IntKind.u32] L), l := [], cap := c, ro := false }, some { elem := (41 : TypeId), k := AK.o (Obj.rows [CK.n IntKind.u64, CK.n IntKind.u32, CK.n IntKind.i64] M), l := [], cap := d, ro := false }], junks := (0 : Nat) })) ∧ (¬base < ip → K (Sum.inl (Sum.inl (Sum.inl (Value.bool false)))) { heap := [some { elem := nat_lit 57, cells := [Sum.inr (Sum.inr (Sum.inr (Sum.inr (Sum.inr (Sum.inr (Sum.inl (IntKind.u32, base))))))), Sum.inr (Sum.inr (Sum.inr (Sum.inr (Sum.inr (Sum.inr (Sum.inl (IntKind.i64, n))))))), Sum.inr (Sum.inr (Sum.inr (Sum.inr (Sum.inr (Sum.inr (Sum.inl (IntKind.i64, ticks))))))), Sum.inr (Sum.inl ((1 : Nat), (0 : Nat)))], j := none, c := (4 : Nat), z := false }, some { elem := nat_lit 82, cells := [Sum.inr (Sum.inr (Sum.inr (Sum.inr (Sum.inr (Sum.inr (Sum.inr (Sum.inr (Sum.inr (Sum.inr (Sum.inr (Sum.inl { a := (0 : Nat), u := (1 : Nat), o := (0 : Nat), n := q, c := c }))))))))))), Sum.inr (Sum.inr (Sum.inr (Sum.inr (Sum.inr (Sum.inr (Sum.inr (Sum.inr (Sum.inr (Sum.inr (Sum.inr (Sum.inl { a := (1 : Nat), u := (3 : Nat), o := (0 : Nat), n := q, c := d }))))))))))), Sum.inr (Sum.inr (Sum.inr (Sum.inr (Sum.inr (Sum.inr (Sum.inl (IntKind.i64, n)))))))], j := none, c := (3 : Nat), z := false }], ints := [], opqs := (0 : Nat), arrs := [some { elem := (28 : Nat), k := AK.o (Obj.rows [CK.n IntKind.u32] L), l := [], cap := c, ro := false }, some { elem := (41 : TypeId), k := AK.o (Obj.rows [CK.n IntKind.u64, CK.n IntKind.u32, CK.n IntKind.i64] M), l := [], cap := d, ro := false }], junks := (0 : Nat) })) := by kernel_rfl
theorem qfind_vc (K : AV → St → Prop) (P : QLP) (base n ticks : Int) (q c : Nat) (L : Rws) (d : Nat) (M : Rws) (m : Int) : (runR (invQf P m) qltS 14 [ptr 0 0, xi .u64 m] (qpSt base n ticks q c L d M) K) = (∃ (y0 : QLP), ((c = c ∧ d = d ∧ q = q) ∧ U.qlshI q c L d M y0) ∧ ∀ (L'1 : Rws) (n'2 c'3 : Nat), n'2 = q → n'2 ≤ c'3 → L'1 = U.qlvs y0 → ∀ (z4 : Int), z4 = (↑n'2 : Int) → (∃ (y5 : Int), m = m ∧ ((0 : Nat) = (0 : Nat) ∧ n'2 = n'2 ∧ c'3 = c'3) ∧ z4 = z4 ∧ (0 : Int) = y5 ∧ base = base ∧ n = n ∧ ticks = ticks ∧ ((0 : Nat) = (0 : Nat) ∧ q = q ∧ c = c) ∧ ((0 : Nat) = (0 : Nat) ∧ q = q ∧ d = d) ∧ n = n ∧ (L = L ∧ c = c ∧ false = false) ∧ (M = M ∧ d = d ∧ false = false) ∧ (U.nilL = U.nilL ∧ (0 : Nat) = (0 : Nat) ∧ false = false) ∧ (L'1 = L'1 ∧ c'3 = c'3 ∧ false = false) ∧ U.qfI P m y5) ∧ ∀ (x6 : Int), U.qfI P m x6 → (x6 < z4 → ((0 : Int) ≤ x6 ∧ x6 < (↑n'2 : Int)) ∧ ∀ (j7 : Nat), (↑j7 : Int) = (↑((0 : Nat)) : Int) + x6 → j7 < List.length L'1 ∧ ∀ (z8 : Int), z8 = U.fi L'1 j7 ((0 : Nat)) → ∀ (z9 : Int), z9 = U.fi L'1 j7 ((0 : Nat) + (1 : Nat)) → ∀ (z10 : Int), z10 = U.fi L'1 j7 ((0 : Nat) + (1 : Nat) + (1 : Nat)) → (z8 = m → K (Sum.inr [Sum.inr [Sum.inr (Sum.inr (Sum.inr (Sum.inr (Sum.inr (Sum.inr (Sum.inl (IntKind.u64, z8))))))), Sum.inr (Sum.inr (Sum.inr (Sum.inr (Sum.inr (Sum.inr (Sum.inl (IntKind.u32, z9))))))), Sum.inr (Sum.inr (Sum.inr (Sum.inr (Sum.inr (Sum.inr (Sum.inl (IntKind.i64, z10)))))))], Sum.inl (Sum.inl (Value.bool true))]) { heap := [some { elem := nat_lit 57, cells := [Sum.inr (Sum.inr (Sum.inr (Sum.inr (Sum.inr (Sum.inr (Sum.inl (IntKind.u32, base))))))), Sum.inr (Sum.inr (Sum.inr (Sum.inr (Sum.inr (Sum.inr (Sum.inl (IntKind.i64, n))))))), Sum.inr (Sum.inr (Sum.inr (Sum.inr (Sum.inr (Sum.inr (Sum.inl (IntKind.i64, ticks))))))), Sum.inr (Sum.inl ((1 : Nat), (0 : Nat)))], j := none, c := (4 : Nat), z := false }, some { elem := nat_lit 82, cells := [Sum.inr (Sum.inr (Sum.inr (Sum.inr (Sum.inr (Sum.inr (Sum.inr (Sum.inr (Sum.inr (Sum.inr (Sum.inr (Sum.inl { a := (0 : Nat), u := (1 : Nat), o := (0 : Nat), n := q, c := c }))))))))))), Sum.inr (Sum.inr (Sum.inr (Sum.inr (Sum.inr (Sum.inr (Sum.inr (Sum.inr (Sum.inr (Sum.inr (Sum.inr (Sum.inl { a := (1 : Nat), u := (3 : Nat), o := (0 : Nat), n := q, c := d }))))))))))), Sum.inr (Sum.inr (Sum.inr (Sum.inr (Sum.inr (Sum.inr (Sum.inl (IntKind.i64, n)))))))], j := none, c := (3 : Nat), z := false }], ints := [], opqs := (0 : Nat), arrs := [some { elem := (28 : Nat), k := AK.o (Obj.rows [CK.n IntKind.u32] L), l := [], cap := c, ro := false }, some { elem := (41 : TypeId), k := AK.o (Obj.rows [CK.n IntKind.u64, CK.n IntKind.u32, CK.n IntKind.i64] M), l := [], cap := d, ro := false }], junks := (0 : Nat) }) ∧ (¬z8 = m → ∀ (z11 : Int), z11 = IntKind.wrap IntKind.i64 (x6 + (1 : Int)) → ∃ (y12 : Int), m = m ∧ ((0 : Nat) = (0 : Nat) ∧ n'2 = n'2 ∧ c'3 = c'3) ∧ z4 = z4 ∧ z11 = y12 ∧ base = base ∧ n = n ∧ ticks = ticks ∧ ((0 : Nat) = (0 : Nat) ∧ q = q ∧ c = c) ∧ ((0 : Nat) = (0 : Nat) ∧ q = q ∧ d = d) ∧ n = n ∧ (L = L ∧ c = c ∧ false = false) ∧ (M = M ∧ d = d ∧ false = false) ∧ (U.nilL = U.nilL ∧ (0 : Nat) = (0 : Nat) ∧ false = false) ∧ (L'1 = L'1 ∧ c'3 = c'3 ∧ false = false) ∧ U.qfI P m y12 ∧ Int.toNat (↑n'2 : Int) - Int.toNat y12 < Int.toNat (↑n'2 : Int) - Int.toNat x6)) ∧ (¬x6 < z4 → K (Sum.inr [Sum.inr [Sum.inr (Sum.inr (Sum.inr (Sum.inr (Sum.inr (Sum.inr (Sum.inl (IntKind.u64, (0 : Int)))))))), Sum.inr (Sum.inr (Sum.inr (Sum.inr (Sum.inr (Sum.inr (Sum.inl (IntKind.u32, (0 : Int)))))))), Sum.inr (Sum.inr (Sum.inr (Sum.inr (Sum.inr (Sum.inr (Sum.inl (IntKind.i64, (0 : Int))))))))], Sum.inl (Sum.inl (Value.bool false))]) { heap := [some { elem := nat_lit 57, cells := [Sum.inr (Sum.inr (Sum.inr (Sum.inr (Sum.inr (Sum.inr (Sum.inl (IntKind.u32, base))))))), Sum.inr (Sum.inr (Sum.inr (Sum.inr (Sum.inr (Sum.inr (Sum.inl (IntKind.i64, n))))))), Sum.inr (Sum.inr (Sum.inr (Sum.inr (Sum.inr (Sum.inr (Sum.inl (IntKind.i64, ticks))))))), Sum.inr (Sum.inl ((1 : Nat), (0 : Nat)))], j := none, c := (4 : Nat), z := false }, some { elem := nat_lit 82, cells := [Sum.inr (Sum.inr (Sum.inr (Sum.inr (Sum.inr (Sum.inr (Sum.inr (Sum.inr (Sum.inr (Sum.inr (Sum.inr (Sum.inl { a := (0 : Nat), u := (1 : Nat), o := (0 : Nat), n := q, c := c }))))))))))), Sum.inr (Sum.inr (Sum.inr (Sum.inr (Sum.inr (Sum.inr (Sum.inr (Sum.inr (Sum.inr (Sum.inr (Sum.inr (Sum.inl { a := (1 : Nat), u := (3 : Nat), o := (0 : Nat), n := q, c := d }))))))))))), Sum.inr (Sum.inr (Sum.inr (Sum.inr (Sum.inr (Sum.inr (Sum.inl (IntKind.i64, n)))))))], j := none, c := (3 : Nat), z := false }], ints := [], opqs := (0 : Nat), arrs := [some { elem := (28 : Nat), k := AK.o (Obj.rows [CK.n IntKind.u32] L), l := [], cap := c, ro := false }, some { elem := (41 : TypeId), k := AK.o (Obj.rows [CK.n IntKind.u64, CK.n IntKind.u32, CK.n IntKind.i64] M), l := [], cap := d, ro := false }], junks := (0 : Nat) })) := by kernel_rfl
theorem qtick_vc (K : AV → St → Prop) (P : QLP) (F : Int × QLv → Bool) (base n ticks : Int) (q c : Nat) (L : Rws) (d : Nat) (M : Rws) (now : Int) : (runQ (invQd P F) qltD 18 [ptr 0 0, xi .i64 now] (qpSt base n ticks q c L d M) K) = (∃ (y0 : QLP), ((c = c ∧ d = d ∧ q = q) ∧ U.qlshI q c L d M y0) ∧ ∀ (L'1 : Rws) (n'2 c'3 : Nat), n'2 = q → n'2 ≤ c'3 → L'1 = U.qlvs y0 → ∃ (y4 : QLP), ((c = c ∧ d = d ∧ q = q) ∧ U.qlshI q c L d M y4) ∧ ∀ (L'5 : Rws) (n'6 c'7 : Nat), n'6 = q → n'6 ≤ c'7 → L'5 = U.qlks y4 → ∀ (z8 : Int), z8 = (↑n'6 : Int) → (∃ (y9 : Int × (Rws × Nat × Nat) × Rws × Nat × Nat), ((0 : Nat) = (0 : Nat) ∧ (0 : Nat) = Prod.fst (Prod.snd (Prod.fst (Prod.snd y9))) ∧ (0 : Nat) = Prod.snd (Prod.snd (Prod.fst (Prod.snd y9)))) ∧ ((0 : Nat) = (0 : Nat) ∧ (0 : Nat) = Prod.fst (Prod.snd (Prod.snd (Prod.snd y9))) ∧ (0 : Nat) = Prod.snd (Prod.snd (Prod.snd (Prod.snd y9)))) ∧ ((0 : Nat) = (0 : Nat) ∧ n'2 = n'2 ∧ c'3 = c'3) ∧ ((0 : Nat) = (0 : Nat) ∧ n'6 = n'6 ∧ c'7 = c'7) ∧ z8 = z8 ∧ (0 : Int) = Prod.fst y9 ∧ base = base ∧ n = n ∧ ticks = ticks ∧ ((0 : Nat) = (0 : Nat) ∧ q = q ∧ c = c) ∧ ((0 : Nat) = (0 : Nat) ∧ q = q ∧ d = d) ∧ n = n ∧ now = now ∧ (L = L ∧ c = c ∧ false = false) ∧ (M = M ∧ d = d ∧ false = false) ∧ (U.nilL = U.nilL ∧ (0 : Nat) = (0 : Nat) ∧ false = false) ∧ (U.nilL = U.nilL ∧ (0 : Nat) = (0 : Nat) ∧ false = false) ∧ (L'1 = L'1 ∧ c'3 = c'3 ∧ false = false) ∧ (L'5 = L'5 ∧ c'7 = c'7 ∧ false = false) ∧ (U.nilL = Prod.fst (Prod.fst (Prod.snd y9)) ∧ (0 : Nat) = Prod.snd (Prod.snd (Prod.fst (Prod.snd y9))) ∧ false = false) ∧ (U.nilL = Prod.fst (Prod.snd (Prod.snd y9)) ∧ (0 : Nat) = Prod.snd (Prod.snd (Prod.snd (Prod.snd y9))) ∧ false = false) ∧ U.qldpI P F (Prod.fst y9) (Prod.fst (Prod.fst (Prod.snd y9))) (Prod.fst (Prod.snd (Prod.fst (Prod.snd y9)))) (Prod.snd (Prod.snd (Prod.fst (Prod.snd y9)))) (Prod.fst (Prod.snd (Prod.snd y9))) (Prod.fst (Prod.snd (Prod.snd (Prod.snd y9)))) (Prod.snd (Prod.snd (Prod.snd (Prod.snd y9))))) ∧ ∀ (x10 : Int × (Rws × Nat × Nat) × Rws × Nat × Nat), U.qldpI P F (Prod.fst x10) (Prod.fst (Prod.fst (Prod.snd x10))) (Prod.fst (Prod.snd (Prod.fst (Prod.snd x10)))) (Prod.snd (Prod.snd (Prod.fst (Prod.snd x10)))) (Prod.fst (Prod.snd (Prod.snd x10))) (Prod.fst (Prod.snd (Prod.snd (Prod.snd x10)))) (Prod.snd (Prod.snd (Prod.snd (Prod.snd x10)))) → (Prod.fst x10 < z8 → ((0 : Int) ≤ Prod.fst x10 ∧ Prod.fst x10 < (↑n'6 : Int)) ∧ ∀ (j11 : Nat), (↑j11 : Int) = (↑((0 : Nat)) : Int) + Prod.fst x10 → j11 < List.length L'5 ∧ ∀ (z12 : Int), z12 = U.fi L'5 j11 ((0 : Nat)) → ((0 : Int) ≤ Prod.fst x10 ∧ Prod.fst x10 < (↑n'2 : Int)) ∧ ∀ (j13 : Nat), (↑j13 : Int) = (↑((0 : Nat)) : Int) + Prod.fst x10 → j13 < List.length L'1 ∧ ∀ (z14 : Int), z14 = U.fi L'1 j13 ((0 : Nat)) → ∀ (z15 : Int), z15 = U.fi L'1 j13 ((0 : Nat) + (1 : Nat)) → ∀ (z16 : Int), z16 = U.fi L'1 j13 ((0 : Nat) + (1 : Nat) + (1 : Nat)) → (z16 ≤ now → ((0 : Nat) + Prod.fst (Prod.snd (Prod.fst (Prod.snd x10))) ≤ List.length (Prod.fst (Prod.fst (Prod.snd x10))) ∧ (0 : Nat) + Prod.snd (Prod.snd (Prod.fst (Prod.snd x10))) ≤ Prod.snd (Prod.snd (Prod.fst (Prod.snd x10)))) ∧ True ∧ Prod.fst (Prod.snd (Prod.fst (Prod.snd x10))) ≤ (16777216 : Nat) ∧ (1 : Nat) ≤ (16777216 : Nat) ∧ ∀ (L'17 : List (List CV)) (n'18 c'19 : Nat), L'17 = List.take (Prod.fst (Prod.snd (Prod.fst (Prod.snd x10)))) (List.drop ((0 : Nat)) (Prod.fst (Prod.fst (Prod.snd x10)))) ++ [CV.i z12] :: U.nilL → n'18 = Prod.fst (Prod.snd (Prod.fst (Prod.snd x10))) + (1 : Nat) → n'18 ≤ c'19 → ((0 : Int) ≤ Prod.fst x10 ∧ Prod.fst x10 < (↑n'2 : Int)) ∧ ∀ (j20 : Nat), (↑j20 : Int) = (↑((0 : Nat)) : Int) + Prod.fst x10 → j20 < List.length L'1 ∧ ∀ (z21 : Int), z21 = U.fi L'1 j20 ((0 : Nat)) → ∀ (z22 : Int), z22 = U.fi L'1 j20 ((0 : Nat) + (1 : Nat)) → ∀ (z23 : Int), z23 = U.fi L'1 j20 ((0 : Nat) + (1 : Nat) + (1 : Nat)) → ((0 : Nat) + Prod.fst (Prod.snd (Prod.snd (Prod.snd x10))) ≤ List.length (Prod.fst (Prod.snd (Prod.snd x10))) ∧ (0 : Nat) + Prod.snd (Prod.snd (Prod.snd (Prod.snd x10))) ≤ Prod.snd (Prod.snd (Prod.snd (Prod.snd x10)))) ∧ True ∧ Prod.fst (Prod.snd (Prod.snd (Prod.snd x10))) ≤ (16777216 : Nat) ∧ (1 : Nat) ≤ (16777216 : Nat) ∧ ∀ (L'24 : List (List CV)) (n'25 c'26 : Nat), L'24 = List.take (Prod.fst (Prod.snd (Prod.snd (Prod.snd x10)))) (List.drop ((0 : Nat)) (Prod.fst (Prod.snd (Prod.snd x10)))) ++ [CV.i z21, CV.i z22, CV.i z23] :: U.nilL → n'25 = Prod.fst (Prod.snd (Prod.snd (Prod.snd x10))) + (1 : Nat) → n'25 ≤ c'26 → ∀ (z27 : Int), z27 = IntKind.wrap IntKind.i64 (Prod.fst x10 + (1 : Int)) → ∃ (y28 : Int × (Rws × Nat × Nat) × Rws × Nat × Nat), ((0 : Nat) = (0 : Nat) ∧ n'18 = Prod.fst (Prod.snd (Prod.fst (Prod.snd y28))) ∧ c'19 = Prod.snd (Prod.snd (Prod.fst (Prod.snd y28)))) ∧ ((0 : Nat) = (0 : Nat) ∧ n'25 = Prod.fst (Prod.snd (Prod.snd (Prod.snd y28))) ∧ c'26 = Prod.snd (Prod.snd (Prod.snd (Prod.snd y28)))) ∧ ((0 : Nat) = (0 : Nat) ∧ n'2 = n'2 ∧ c'3 = c'3) ∧ ((0 : Nat) = (0 : Nat) ∧ n'6 = n'6 ∧ c'7 = c'7) ∧ z8 = z8 ∧ z27 = Prod.fst y28 ∧ base = base ∧ n = n ∧ ticks = ticks ∧ ((0 : Nat) = (0 : Nat) ∧ q = q ∧ c = c) ∧ ((0 : Nat) = (0 : Nat) ∧ q = q ∧ d = d) ∧ n = n ∧ now = now ∧ (L = L ∧ c = c ∧ false = false) ∧ (M = M ∧ d = d ∧ false = false) ∧ (U.nilL = U.nilL ∧ (0 : Nat) = (0 : Nat) ∧ false = false) ∧ (U.nilL = U.nilL ∧ (0 : Nat) = (0 : Nat) ∧ false = false) ∧ (L'1 = L'1 ∧ c'3 = c'3 ∧ false = false) ∧ (L'5 = L'5 ∧ c'7 = c'7 ∧ false = false) ∧ (L'17 = Prod.fst (Prod.fst (Prod.snd y28)) ∧ c'19 = Prod.snd (Prod.snd (Prod.fst (Prod.snd y28))) ∧ false = false) ∧ (L'24 = Prod.fst (Prod.snd (Prod.snd y28)) ∧ c'26 = Prod.snd (Prod.snd (Prod.snd (Prod.snd y28))) ∧ false = false) ∧ U.qldpI P F (Prod.fst y28) (Prod.fst (Prod.fst (Prod.snd y28))) (Prod.fst (Prod.snd (Prod.fst (Prod.snd y28)))) (Prod.snd (Prod.snd (Prod.fst (Prod.snd y28)))) (Prod.fst (Prod.snd (Prod.snd y28))) (Prod.fst (Prod.snd (Prod.snd (Prod.snd y28)))) (Prod.snd (Prod.snd (Prod.snd (Prod.snd y28)))) ∧ Int.toNat (↑n'6 : Int) - Int.toNat (Prod.fst y28) < Int.toNat (↑n'6 : Int) - Int.toNat (Prod.fst x10)) ∧ (¬z16 ≤ now → ∀ (z29 : Int), z29 = IntKind.wrap IntKind.i64 (Prod.fst x10 + (1 : Int)) → ∃ (y30 : Int × (Rws × Nat × Nat) × Rws × Nat × Nat), ((0 : Nat) = (0 : Nat) ∧ Prod.fst (Prod.snd (Prod.fst (Prod.snd x10))) = Prod.fst (Prod.snd (Prod.fst (Prod.snd y30))) ∧ Prod.snd (Prod.snd (Prod.fst (Prod.snd x10))) = Prod.snd (Prod.snd (Prod.fst (Prod.snd y30)))) ∧ ((0 : Nat) = (0 : Nat) ∧ Prod.fst (Prod.snd (Prod.snd (Prod.snd x10))) = Prod.fst (Prod.snd (Prod.snd (Prod.snd y30))) ∧ Prod.snd (Prod.snd (Prod.snd (Prod.snd x10))) = Prod.snd (Prod.snd (Prod.snd (Prod.snd y30)))) ∧ ((0 : Nat) = (0 : Nat) ∧ n'2 = n'2 ∧ c'3 = c'3) ∧ ((0 : Nat) = (0 : Nat) ∧ n'6 = n'6 ∧ c'7 = c'7) ∧ z8 = z8 ∧ z29 = Prod.fst y30 ∧ base = base ∧ n = n ∧ ticks = ticks ∧ ((0 : Nat) = (0 : Nat) ∧ q = q ∧ c = c) ∧ ((0 : Nat) = (0 : Nat) ∧ q = q ∧ d = d) ∧ n = n ∧ now = now ∧ (L = L ∧ c = c ∧ false = false) ∧ (M = M ∧ d = d ∧ false = false) ∧ (U.nilL = U.nilL ∧ (0 : Nat) = (0 : Nat) ∧ false = false) ∧ (U.nilL = U.nilL ∧ (0 : Nat) = (0 : Nat) ∧ false = false) ∧ (L'1 = L'1 ∧ c'3 = c'3 ∧ false = false) ∧ (L'5 = L'5 ∧ c'7 = c'7 ∧ false = false) ∧ (Prod.fst (Prod.fst (Prod.snd x10)) = Prod.fst (Prod.fst (Prod.snd y30)) ∧ Prod.snd (Prod.snd (Prod.fst (Prod.snd x10))) = Prod.snd (Prod.snd (Prod.fst (Prod.snd y30))) ∧ false = false) ∧ (Prod.fst (Prod.snd (Prod.snd x10)) = Prod.fst (Prod.snd (Prod.snd y30)) ∧ Prod.snd (Prod.snd (Prod.snd (Prod.snd x10))) = Prod.snd (Prod.snd (Prod.snd (Prod.snd y30))) ∧ false = false) ∧ U.qldpI P F (Prod.fst y30) (Prod.fst (Prod.fst (Prod.snd y30))) (Prod.fst (Prod.snd (Prod.fst (Prod.snd y30)))) (Prod.snd (Prod.snd (Prod.fst (Prod.snd y30)))) (Prod.fst (Prod.snd (Prod.snd y30))) (Prod.fst (Prod.snd (Prod.snd (Prod.snd y30)))) (Prod.snd (Prod.snd (Prod.snd (Prod.snd y30)))) ∧ Int.toNat (↑n'6 : Int) - Int.toNat (Prod.fst y30) < Int.toNat (↑n'6 : Int) - Int.toNat (Prod.fst x10))) ∧ (¬Prod.fst x10 < z8 → ∃ (y31 : QLP), (Prod.snd (Prod.snd (Prod.fst (Prod.snd x10))) = Prod.snd (Prod.snd (Prod.fst (Prod.snd x10))) ∧ (c = c ∧ d = d ∧ q = q) ∧ U.qlshI q c L d M y31 ∧ q ≤ (100000 : Nat) ∧ Prod.fst (Prod.snd (Prod.fst (Prod.snd x10))) ≤ List.length (Prod.fst (Prod.fst (Prod.snd x10))) ∧ Prod.fst (Prod.snd (Prod.fst (Prod.snd x10))) ≤ (1000000 : Nat) ∧ U.qlSrtR (Prod.fst (Prod.fst (Prod.snd x10))) (Prod.fst (Prod.snd (Prod.fst (Prod.snd x10))))) ∧ ∀ (n'32 : Nat) (L'33 M'34 : Rws) (P'35 : QLP), n'32 = U.qllen P'35 → U.qlSwp y31 (Prod.fst (Prod.fst (Prod.snd x10))) (Prod.fst (Prod.snd (Prod.fst (Prod.snd x10)))) P'35 → U.qlshI n'32 c L'33 d M'34 P'35 → K (Sum.inl (Sum.inl (Sum.inr (Sum.inr (Sum.inr (Sum.inr (Sum.inr (Sum.inr (Sum.inr (Sum.inr (Sum.inr (Sum.inr (Sum.inr (Sum.inl { a := (2 : Nat), u := (3 : Nat), o := (0 : Nat), n := Prod.fst (Prod.snd (Prod.snd (Prod.snd x10))), c := Prod.snd (Prod.snd (Prod.snd (Prod.snd x10))) })))))))))))))) { heap := [some { elem := nat_lit 57, cells := [Sum.inr (Sum.inr (Sum.inr (Sum.inr (Sum.inr (Sum.inr (Sum.inl (IntKind.u32, base))))))), Sum.inr (Sum.inr (Sum.inr (Sum.inr (Sum.inr (Sum.inr (Sum.inl (IntKind.i64, n))))))), Sum.inr (Sum.inr (Sum.inr (Sum.inr (Sum.inr (Sum.inr (Sum.inl (IntKind.i64, ticks))))))), Sum.inr (Sum.inl ((1 : Nat), (0 : Nat)))], j := none, c := (4 : Nat), z := false }, some { elem := nat_lit 82, cells := [Sum.inr (Sum.inr (Sum.inr (Sum.inr (Sum.inr (Sum.inr (Sum.inr (Sum.inr (Sum.inr (Sum.inr (Sum.inr (Sum.inl { a := (0 : Nat), u := (1 : Nat), o := (0 : Nat), n := n'32, c := c }))))))))))), Sum.inr (Sum.inr (Sum.inr (Sum.inr (Sum.inr (Sum.inr (Sum.inr (Sum.inr (Sum.inr (Sum.inr (Sum.inr (Sum.inl { a := (1 : Nat), u := (3 : Nat), o := (0 : Nat), n := n'32, c := d }))))))))))), Sum.inr (Sum.inr (Sum.inr (Sum.inr (Sum.inr (Sum.inr (Sum.inl (IntKind.i64, n)))))))], j := none, c := (3 : Nat), z := false }], ints := [], opqs := (0 : Nat), arrs := [some { elem := (28 : Nat), k := AK.o (Obj.rows [CK.n IntKind.u32] L'33), l := [], cap := c, ro := false }, some { elem := (41 : TypeId), k := AK.o (Obj.rows [CK.n IntKind.u64, CK.n IntKind.u32, CK.n IntKind.i64] M'34), l := [], cap := d, ro := false }, some { elem := (41 : TypeId), k := AK.o (Obj.rows [CK.n IntKind.u64, CK.n IntKind.u32, CK.n IntKind.i64] (Prod.fst (Prod.snd (Prod.snd x10)))), l := [], cap := Prod.snd (Prod.snd (Prod.snd (Prod.snd x10))), ro := false }], junks := (0 : Nat) })) := by kernel_rfl
theorem qall_vc (K : AV → St → Prop) (base n ticks : Int) (q c : Nat) (L : Rws) (d : Nat) (M : Rws) : (runR inv0 qltS 11 [ptr 0 0] (qpSt base n ticks q c L d M) K) = (∃ (y0 : QLP), ((c = c ∧ d = d ∧ q = q) ∧ U.qlshI q c L d M y0) ∧ ∀ (L'1 : Rws) (n'2 c'3 : Nat), n'2 = q → n'2 ≤ c'3 → L'1 = U.qlvs y0 → K (Sum.inl (Sum.inl (Sum.inr (Sum.inr (Sum.inr (Sum.inr (Sum.inr (Sum.inr (Sum.inr (Sum.inr (Sum.inr (Sum.inr (Sum.inr (Sum.inl { a := (2 : Nat), u := (3 : Nat), o := (0 : Nat), n := n'2, c := c'3 })))))))))))))) { heap := [some { elem := nat_lit 57, cells := [Sum.inr (Sum.inr (Sum.inr (Sum.inr (Sum.inr (Sum.inr (Sum.inl (IntKind.u32, base))))))), Sum.inr (Sum.inr (Sum.inr (Sum.inr (Sum.inr (Sum.inr (Sum.inl (IntKind.i64, n))))))), Sum.inr (Sum.inr (Sum.inr (Sum.inr (Sum.inr (Sum.inr (Sum.inl (IntKind.i64, ticks))))))), Sum.inr (Sum.inl ((1 : Nat), (0 : Nat)))], j := none, c := (4 : Nat), z := false }, some { elem := nat_lit 82, cells := [Sum.inr (Sum.inr (Sum.inr (Sum.inr (Sum.inr (Sum.inr (Sum.inr (Sum.inr (Sum.inr (Sum.inr (Sum.inr (Sum.inl { a := (0 : Nat), u := (1 : Nat), o := (0 : Nat), n := q, c := c }))))))))))), Sum.inr (Sum.inr (Sum.inr (Sum.inr (Sum.inr (Sum.inr (Sum.inr (Sum.inr (Sum.inr (Sum.inr (Sum.inr (Sum.inl { a := (1 : Nat), u := (3 : Nat), o := (0 : Nat), n := q, c := d }))))))))))), Sum.inr (Sum.inr (Sum.inr (Sum.inr (Sum.inr (Sum.inr (Sum.inl (IntKind.i64, n)))))))], j := none, c := (3 : Nat), z := false }], ints := [], opqs := (0 : Nat), arrs := [some { elem := (28 : Nat), k := AK.o (Obj.rows [CK.n IntKind.u32] L), l := [], cap := c, ro := false }, some { elem := (41 : TypeId), k := AK.o (Obj.rows [CK.n IntKind.u64, CK.n IntKind.u32, CK.n IntKind.i64] M), l := [], cap := d, ro := false }, some { elem := (41 : TypeId), k := AK.o (Obj.rows [CK.n IntKind.u64, CK.n IntKind.u32, CK.n IntKind.i64] L'1), l := [], cap := c'3, ro := false }], junks := (0 : Nat) }) := by kernel_rfl
end Go.Proofs.Ytbifilonmkaonaa
end

section
set_option linter.unusedVariables false
set_option linter.unusedSimpArgs false
set_option maxRecDepth 10000
namespace Go.Proofs.Ytbifilonmkaonaa
open Go Reck Ost
theorem fours {e : Env} {x y z u : AV} {vs : List Value} (h : [x, y, z, u].map (Reck.av e) = vs.map some) : ∃ a b c d, vs = [a, b, c, d] ∧ Reck.av e x = some a ∧ Reck.av e y = some b ∧ Reck.av e z = some c ∧ Reck.av e u = some d := by
  match vs, map_len h with
  | [a, b, c, d], _ => simp at h; exact ⟨a, b, c, d, rfl, h.1, h.2.1, h.2.2.1, h.2.2.2⟩
theorem map4 {e : Env} {x y z u : AV} {a b c d : Value} (h1 : Reck.av e x = some a) (h2 : Reck.av e y = some b) (h3 : Reck.av e z = some c) (h4 : Reck.av e u = some d) : [x, y, z, u].map (Reck.av e) = [a, b, c, d].map some := by
  rw [List.map_cons, List.map_cons, List.map_cons, List.map_cons, List.map_nil, h1, h2, h3, h4]; rfl
theorem iwu {z x : Int} (h : z = IntKind.wrap .u32 x) (hb : 0 ≤ x ∧ x ≤ 4294967295) : z = x := by
  rw [h]; show x % 4294967296 = x; omega
/-- What a pool may be made of. -/
structure U.qGood (b n t : Int) : Prop where
  out : (1 ≤ n ∧ n ≤ 64) ∧ b ≤ 4294967295 - n ∧ 1 ≤ t ∧ t ≤ 1048576
/-- What a pool holds. -/
structure U.qI (b n t : Int) (P : QLP) : Prop where
  b0 : 0 ≤ b
  g : U.qGood b n t
  wf : ∀ k v, (k, v) ∈ P → v.v1 = k ∧ b < k ∧ k ≤ b + n
  mac : ∀ k v k' v', (k, v) ∈ P → (k', v') ∈ P → v.v0 = v'.v0 → k = k'
structure U.Qp (b n t : Int) (q c : Nat) (L : Rws) (d : Nat) (M : Rws) (P : QLP) : Prop where
  s : U.qlshI q c L d M P
  i : U.qI b n t P
theorem qlen_le {P : QLP} (hs : U.qlSrt P) {b n : Int} (h : ∀ k v, (k, v) ∈ P → b < k ∧ k ≤ b + n) : (P.length : Int) ≤ n ∨ P = [] := by
  rcases Nat.eq_zero_or_pos P.length with h0 | h0
  · exact .inr (List.eq_nil_of_length_eq_zero h0)
  · left
    have hp := List.pairwise_iff_getElem.1 hs.out
    have key : ∀ i (hi : i < P.length), b + 1 + i ≤ (P[i]).1 := by
      intro i
      induction i with
      | zero => intro hi; have := h (P[0]).1 (P[0]).2 (List.getElem_mem hi); omega
      | succ i ih => intro hi; have h1 := ih (by omega); have h2 := hp i (i + 1) (by omega) hi (by omega); omega
    have h1 := key (P.length - 1) (by omega)
    have h2 := h (P[P.length - 1]).1 (P[P.length - 1]).2 (List.getElem_mem (show P.length - 1 < P.length by omega))
    omega
theorem qp_n {b n t : Int} {q c : Nat} {L : Rws} {d : Nat} {M : Rws} {P : QLP} (h : U.Qp b n t q c L d M P) : P.length = q ∧ (q : Int) ≤ 64 := by
  have h1 := qlshI_n h.s
  refine ⟨h1, ?_⟩
  have g := h.i.g.out
  rcases qlen_le h.s.srt (fun k v hx => (h.i.wf k v hx).2) with h2 | h2
  · omega
  · rw [h2] at h1; simp at h1; omega
def qpC (σ : St) : Option (Int × Int × Int × Nat × Nat × Rws × Nat × Rws) := match σ with
  | ⟨[some ⟨57, [x, y, z, .inr (.inl (1, 0))], none, 4, false⟩, p], [], 0, [a1, a2], 0⟩ => match cIntK .u32 x, cInt y, cInt z, qlshC p a1 a2 with
    | some b, some n, some t, some (q, c, L, d, M, m) => some (b, n, t, q, c, L, d, M)
    | _, _, _, _ => none
  | _ => none
def qpD (σ : St) : Prop := match σ with
  | ⟨[some ⟨_, [_, y, _, _], _, _, _⟩, p], _, _, [a1, a2], _⟩ => qlshD p a1 a2 ∧ (match p with
    | some ⟨_, [_, _, m], _, _, _⟩ => (match cInt m, cInt y with
      | some a, some b => a = b
      | _, _ => False)
    | _ => False)
  | _ => False
theorem qpC_eq {σ : St} {b n t : Int} {q c : Nat} {L : Rws} {d : Nat} {M : Rws} (h : qpC σ = some (b, n, t, q, c, L, d, M)) (hy : qpD σ) : σ = qpSt b n t q c L d M := by
  unfold qpC at h
  split at h
  · split at h
    · rename_i m h1 h2 h3 h4
      simp only [Option.some.injEq, Prod.mk.injEq] at h
      obtain ⟨rfl, rfl, rfl, rfl, rfl, rfl, rfl, rfl⟩ := h
      obtain ⟨y1, y2⟩ := hy
      obtain ⟨rfl, rfl, rfl⟩ := qlshC_eq h4 y1
      have y3 : (match cInt (xintC .i64 m), cInt _ with
        | some a, some b => a = b
        | _, _ => False) := y2
      simp only [h2] at y3
      obtain rfl : m = _ := y3
      rw [cIntK_eq h1, cInt_eq h2, cInt_eq h3]
      rfl
    · cases h
  · cases h
def aLe (x : AV) : Option (Int × Int × Int) := match x with
  | .inl (.inr l) => match qlX l with
    | some e => some (e.v0, e.v1, e.v2)
    | _ => none
  | _ => none
theorem as_aLe {e : Env} {x : AV} {x0 x1 x2 : Int} {v : Value} (h : aLe x = some (x0, x1, x2)) (hv : Reck.av e x = some v) : Reck.av e (.inl (.inr (qlC x0 x1 x2))) = some v := by
  unfold aLe at h
  split at h
  · split at h
    · rename_i hl
      simp only [Option.some.injEq, Prod.mk.injEq] at h
      obtain ⟨rfl, rfl, rfl⟩ := h
      rw [qlX_eq hl] at hv; exact hv
    · cases h
  · cases h
theorem ql_fi {P : QLP} {j : Nat} {p : Int × QLv} (h : P[j]? = some p) : U.fi (U.qlvs P) j 0 = p.2.v0 ∧ U.fi (U.qlvs P) j (0 + 1) = p.2.v1 ∧ U.fi (U.qlvs P) j (0 + 1 + 1) = p.2.v2 := by
  have := (qlat h).1
  unfold U.fi
  rw [this]
  exact ⟨rfl, rfl, rfl⟩
/-- Somebody has a lease; nobody has. -/
structure U.qHas (P : QLP) (m k v0 v1 v2 : Int) : Prop where
  mem : (k, (⟨v0, v1, v2⟩ : QLv)) ∈ P
  mac : v0 = m
structure U.qNo (P : QLP) (m : Int) : Prop where
  out : ∀ p ∈ P, p.2.v0 ≠ m
structure U.qIn (b n ip : Int) : Prop where
  out : b < ip ∧ ip ≤ b + n
def U.qF (now : Int) (p : Int × QLv) : Bool := decide (p.2.v2 ≤ now)
def U.qGone (now : Int) (P : QLP) : QLP := P.filter (U.qF now)
def U.qRest (now : Int) (P : QLP) : QLP := P.filter fun p => !U.qF now p
/-- A pool, and one array more. -/
def qpSx (b n t : Int) (q c : Nat) (L : Rws) (d : Nat) (M : Rws) (O : Rws) (co : Nat) : St := ⟨[qpB b n t, qlB (rslC ⟨0, 1, 0, q, c⟩) (rslC ⟨1, 3, 0, q, d⟩) n], [], 0, [some (qlkB L c), some (qlvB M d), some (qlvB O co)], 0⟩
theorem ql_nil : U.qlshI 0 0 [] 0 [] [] := ⟨⟨rfl, rfl, Nat.le_refl _, by decide⟩, ⟨rfl, rfl, Nat.le_refl _, by decide⟩, ⟨List.Pairwise.nil⟩⟩
theorem qp_nil {b n t : Int} (h0 : 0 ≤ b) (h : U.qGood b n t) : U.Qp b n t 0 0 [] 0 [] [] := ⟨ql_nil, ⟨h0, h, fun _ _ h => (List.not_mem_nil h).elim, fun _ _ _ _ h => (List.not_mem_nil h).elim⟩⟩
theorem qrest_mem {now : Int} {P : QLP} {p : Int × QLv} : p ∈ U.qRest now P ↔ p ∈ P ∧ ¬ p.2.v2 ≤ now := by
  unfold U.qRest U.qF
  rw [List.mem_filter]; simp
theorem qp_rest {b n t now : Int} {q c : Nat} {L : Rws} {d : Nat} {M : Rws} {P : QLP} (h : U.Qp b n t q c L d M P) {q' : Nat} {L' M' : Rws} (h' : U.qlshI q' c L' d M' (U.qRest now P)) : U.Qp b n t q' c L' d M' (U.qRest now P) :=
  ⟨h', h.i.b0, h.i.g, fun k v hx => h.i.wf k v (qrest_mem.1 hx).1, fun k v k' v' hx hy => h.i.mac k v k' v' (qrest_mem.1 hx).1 (qrest_mem.1 hy).1⟩
theorem qnew_run (K : AV → St → Prop) (b n t : Int) (hb : 0 ≤ b ∧ b ≤ 4294967295) (h1 : ¬ U.qGood b n t → K (.inr [.inl (.inl (.pointer none)), .inl (xintC .i64 1)]) emptySt) (h2 : U.qGood b n t → K (.inr [.inl (.inr (.inl (0, 0))), .inl (xintC .i64 0)]) (qpSt b n t 0 0 [] 0 [])) : runR inv0 qltS 7 [xi .u32 b, xi .i64 n, xi .i64 t] emptySt K := by
  rw [qnew_vc]
  refine ⟨fun h => h1 fun g => by have := g.out; omega, fun g1 => ⟨fun h => h1 fun g => by have := g.out; omega, fun g2 z0 e0 z1 e1 => ?_⟩⟩
  have e0 := iw e0 (by omega)
  have e1 := iw e1 (by omega)
  exact ⟨fun h => h1 fun g => by have := g.out; omega, fun g3 => ⟨fun h => h1 fun g => by have := g.out; omega, fun g4 => ⟨fun h => h1 fun g => by have := g.out; omega, fun g5 => h2 ⟨by omega⟩⟩⟩⟩
def pqnew : Pat := fun args σ => match args, σ with
  | [x, y, z], ⟨[], [], 0, [], 0⟩ => match aIntK .u32 x, aInt y, aInt z with
    | some b, some n, some t => some fun K => (0 ≤ b ∧ b ≤ 4294967295) ∧ (¬ U.qGood b n t → K (.inr [.inl (.inl (.pointer none)), .inl (.inl (.int .i64 1))]) emptySt) ∧ (U.qGood b n t → K (.inr [.inl (.inr (.inl (0, 0))), .inl (.inl (.int .i64 0))]) (qpSt b n t 0 0 [] 0 []))
    | _, _, _ => none
  | _, _ => none
theorem pqnew_ok : PatOk 7 pqnew := by
  intro tm σ C h K hK w0 e w hk vs hvs
  unfold pqnew at h
  split at h
  · split at h
    · rename_i b n t h0 h1 h2
      simp only [Option.some.injEq] at h; subst h
      obtain ⟨y0, y1, y2, rfl, q0, q1, q2⟩ := threes hvs
      refine (knownC noOv names (conOk_ofR qltS_ok) (qnew_run (fun x σ' => (x = (.inr [.inl (.inl (.pointer none)), .inl (xintC .i64 1)] : AV) ∧ σ' = emptySt ∧ ¬ U.qGood b n t) ∨ (x = (.inr [.inl (.inr (.inl (0, 0))), .inl (xintC .i64 0)] : AV) ∧ σ' = qpSt b n t 0 0 [] 0 [] ∧ U.qGood b n t)) _ _ _ hK.1 (fun g => .inl ⟨rfl, rfl, g⟩) (fun g => .inr ⟨rfl, rfl, g⟩)) w0 e w hk _ (map3 (as_aIntK h0 q0) (as_aInt h1 q1) (as_aInt h2 q2))).mono ?_
      rintro en w' ⟨x, σ', e', v, g1, g2, g3, g4, ⟨rfl, rfl, g⟩ | ⟨rfl, rfl, g⟩⟩
      · exact ⟨.inr [.inl (.inl (.pointer none)), .inl (.inl (.int .i64 1))], _, e', v, g1, g2, g3, g4, hK.2.1 g⟩
      · exact ⟨.inr [.inl (.inr (.inl (0, 0))), .inl (.inl (.int .i64 0))], _, e', v, g1, g2, g3, g4, hK.2.2 g⟩
    · cases h
  · cases h
theorem qof_run (K : AV → St → Prop) (b n t : Int) (q c : Nat) (L : Rws) (d : Nat) (M : Rws) (P : QLP) (hQ : U.Qp b n t q c L d M P) (ip : Int) (hK : (∀ v0 v1 v2 : Int, U.qlHasE P ip v0 v1 v2 → K (qlge v0 v1 v2 true) (qpSt b n t q c L d M)) ∧ (¬ U.qlHasK P ip → K (qlge 0 0 0 false) (qpSt b n t q c L d M))) : runR inv0 qltS 16 [ptr 0 0, xi .u32 ip] (qpSt b n t q c L d M) K := by
  rw [qof_vc]
  exact ⟨P, ⟨⟨rfl, rfl, rfl⟩, hQ.s, by have := qp_n hQ; omega⟩, hK.1, hK.2⟩
def pqof : Pat := fun args σ => match args with
  | [.inl (.inl (.inr (.inl (0, 0)))), a0] => match aIntK .u32 a0, qpC σ with
    | some ip, some (b, n, t, q, c, L, d, M) => some fun K => ∃ P : QLP, (qpD σ ∧ U.Qp b n t q c L d M P) ∧ (∀ v0 v1 v2 : Int, U.qlHasE P ip v0 v1 v2 → K (qlge v0 v1 v2 true) (qpSt b n t q c L d M)) ∧ (¬ U.qlHasK P ip → K (qlge 0 0 0 false) (qpSt b n t q c L d M))
    | _, _ => none
  | _ => none
theorem pqof_ok : PatOk 16 pqof := by
  intro tm σ C h K hK w0 e w hk vs hvs
  unfold pqof at h
  split at h
  · split at h
    · rename_i h0 hσ
      simp only [Option.some.injEq] at h; subst h
      obtain ⟨P, ⟨hd, hQ⟩, hP⟩ := hK
      obtain rfl := qpC_eq hσ hd
      obtain ⟨y0, y1, rfl, q0, q1⟩ := twos hvs
      exact knownC noOv names (conOk_ofR qltS_ok) (qof_run K _ _ _ _ _ _ _ _ P hQ _ hP) w0 e w hk _ (map2 q0 (as_aIntK h0 q1))
    · cases h
  · cases h
theorem qlets_run (K : AV → St → Prop) (b n t : Int) (q c : Nat) (L : Rws) (d : Nat) (M : Rws) (P : QLP) (hQ : U.Qp b n t q c L d M P) (ip : Int) (hp : (0 ≤ ip ∧ ip ≤ 4294967295)) (hK : (U.qIn b n ip → K (lit (.bool true)) (qpSt b n t q c L d M)) ∧ (¬ U.qIn b n ip → K (lit (.bool false)) (qpSt b n t q c L d M))) : runR inv0 qltS 30 [ptr 0 0, xi .u32 ip] (qpSt b n t q c L d M) K := by
  rw [qlets_vc]
  have h0 := hQ.i.b0
  have g := hQ.i.g.out
  refine ⟨fun g1 z0 e0 z1 e1 => ?_, fun g1 => hK.2 fun h => g1 h.out.1⟩
  have e0 := iwu e0 (by omega)
  have e1 := iwu e1 (by omega)
  exact ⟨fun g2 => hK.1 ⟨by omega⟩, fun g2 => hK.2 fun h => by have := h.out; omega⟩
def pqlets : Pat := fun args σ => match args with
  | [.inl (.inl (.inr (.inl (0, 0)))), a0] => match aIntK .u32 a0, qpC σ with
    | some ip, some (b, n, t, q, c, L, d, M) => some fun K => ∃ P : QLP, (qpD σ ∧ U.Qp b n t q c L d M P ∧ (0 ≤ ip ∧ ip ≤ 4294967295)) ∧ (U.qIn b n ip → K (lit (.bool true)) (qpSt b n t q c L d M)) ∧ (¬ U.qIn b n ip → K (lit (.bool false)) (qpSt b n t q c L d M))
    | _, _ => none
  | _ => none
theorem pqlets_ok : PatOk 30 pqlets := by
  intro tm σ C h K hK w0 e w hk vs hvs
  unfold pqlets at h
  split at h
  · split at h
    · rename_i h0 hσ
      simp only [Option.some.injEq] at h; subst h
      obtain ⟨P, ⟨hd, hQ, hp⟩, hP⟩ := hK
      obtain rfl := qpC_eq hσ hd
      obtain ⟨y0, y1, rfl, q0, q1⟩ := twos hvs
      exact knownC noOv names (conOk_ofR qltS_ok) (qlets_run K _ _ _ _ _ _ _ _ P hQ _ hp hP) w0 e w hk _ (map2 q0 (as_aIntK h0 q1))
    · cases h
  · cases h
theorem qfind_run (K : AV → St → Prop) (b n t : Int) (q c : Nat) (L : Rws) (d : Nat) (M : Rws) (P : QLP) (hQ : U.Qp b n t q c L d M P) (m : Int) (hK : (∀ k v0 v1 v2 : Int, U.qHas P m k v0 v1 v2 → K (qlge v0 v1 v2 true) (qpSt b n t q c L d M)) ∧ (U.qNo P m → K (qlge 0 0 0 false) (qpSt b n t q c L d M))) : runR (invQf P m) qltS 14 [ptr 0 0, xi .u64 m] (qpSt b n t q c L d M) K := by
  rw [qfind_vc]
  have hn := qp_n hQ
  refine ⟨P, ⟨⟨rfl, rfl, rfl⟩, hQ.s⟩, fun V n3 c4 e3 e4 e5 z5 h5 => ⟨?_, ?_⟩⟩
  · refine ⟨0, ?_⟩
    repeat' (first | exact rfl | with_reducible apply And.intro)
    exact ⟨by omega, by omega, fun m hm => by omega⟩
  · rintro i hI
    obtain ⟨i1, i2, i3⟩ := hI.out
    have hvl : V.length = P.length := by rw [e5]; simp [U.qlvs]
    refine ⟨fun hi => ⟨⟨by omega, by omega⟩, fun j hj => ⟨by omega, ?_⟩⟩, fun hi => ?_⟩
    · obtain ⟨p, hp⟩ : ∃ p, P[j]? = some p := ⟨_, List.getElem?_eq_getElem (show j < P.length by omega)⟩
      obtain ⟨f0, f1, f2⟩ := ql_fi hp
      rw [← e5] at f0 f1 f2
      rw [f0, f1, f2]
      rintro _ rfl _ rfl _ rfl
      refine ⟨fun he => hK.1 p.1 _ _ _ ⟨List.mem_of_getElem? hp, he⟩, fun hne z14 h14 => ?_⟩
      have e14 := iw h14 (by omega)
      refine ⟨z14, ?_⟩
      repeat' (first | exact rfl | with_reducible apply And.intro)
      · refine ⟨by omega, by omega, fun m hm p' hpm => ?_⟩
        by_cases em : m = j
        · subst em
          rw [hp] at hpm
          cases hpm; exact hne
        · exact i3 m (by omega) p' hpm
      · omega
    · refine hK.2 ⟨fun p hp he => ?_⟩
      obtain ⟨m, hm⟩ := List.getElem?_of_mem hp
      have hml := (List.getElem?_eq_some_iff.1 hm).1
      exact i3 m (by omega) p hm he
def pqfind : Pat := fun args σ => match args with
  | [.inl (.inl (.inr (.inl (0, 0)))), a0] => match aIntK .u64 a0, qpC σ with
    | some m, some (b, n, t, q, c, L, d, M) => some fun K => ∃ P : QLP, (qpD σ ∧ U.Qp b n t q c L d M P) ∧ (∀ k v0 v1 v2 : Int, U.qHas P m k v0 v1 v2 → K (qlge v0 v1 v2 true) (qpSt b n t q c L d M)) ∧ (U.qNo P m → K (qlge 0 0 0 false) (qpSt b n t q c L d M))
    | _, _ => none
  | _ => none
theorem pqfind_ok : PatOk 14 pqfind := by
  intro tm σ C h K hK w0 e w hk vs hvs
  unfold pqfind at h
  split at h
  · split at h
    · rename_i h0 hσ
      simp only [Option.some.injEq] at h; subst h
      obtain ⟨P, ⟨hd, hQ⟩, hP⟩ := hK
      obtain rfl := qpC_eq hσ hd
      obtain ⟨y0, y1, rfl, q0, q1⟩ := twos hvs
      exact knownC noOv names (conOk_ofR qltS_ok) (qfind_run K _ _ _ _ _ _ _ _ P hQ _ hP) w0 e w hk _ (map2 q0 (as_aIntK h0 q1))
    · cases h
  · cases h
theorem qall_run (K : AV → St → Prop) (b n t : Int) (q c : Nat) (L : Rws) (d : Nat) (M : Rws) (P : QLP) (hQ : U.Qp b n t q c L d M P) (hK : ∀ (O : Rws) (r co : Nat), O = U.qlvs P → r = q → r ≤ co → K (cell (rslC ⟨2, 3, 0, r, co⟩)) (qpSx b n t q c L d M O co)) : runR inv0 qltS 11 [ptr 0 0] (qpSt b n t q c L d M) K := by
  rw [qall_vc]
  exact ⟨P, ⟨⟨rfl, rfl, rfl⟩, hQ.s⟩, fun O r co e1 e2 e3 => hK O r co e3 e1 e2⟩
def pqall : Pat := fun args σ => match args with
  | [.inl (.inl (.inr (.inl (0, 0))))] => match qpC σ with
    | some (b, n, t, q, c, L, d, M) => some fun K => ∃ P : QLP, (qpD σ ∧ U.Qp b n t q c L d M P) ∧ ∀ (O : Rws) (r co : Nat), O = U.qlvs P → r = q → r ≤ co → K (cell (rslC ⟨2, 3, 0, r, co⟩)) (qpSx b n t q c L d M O co)
    | _ => none
  | _ => none
theorem pqall_ok : PatOk 11 pqall := by
  intro tm σ C h K hK w0 e w hk vs hvs
  unfold pqall at h
  split at h
  · split at h
    · rename_i  hσ
      simp only [Option.some.injEq] at h; subst h
      obtain ⟨P, ⟨hd, hQ⟩, hP⟩ := hK
      obtain rfl := qpC_eq hσ hd
      obtain ⟨y0, rfl, q0⟩ := ones hvs
      exact knownC noOv names (conOk_ofR qltS_ok) (qall_run K _ _ _ _ _ _ _ _ P hQ  hP) w0 e w hk _ (map1 q0 )
    · cases h
  · cases h
set_option maxHeartbeats 2000000 in
theorem qtick_run (K : AV → St → Prop) (b n t : Int) (q c : Nat) (L : Rws) (d : Nat) (M : Rws) (P : QLP) (hQ : U.Qp b n t q c L d M P) (now : Int) (hK : ∀ (q' : Nat) (L' M' : Rws) (P' : QLP) (O : Rws) (r co : Nat), P' = U.qRest now P → U.Qp b n t q' c L' d M' P' → O = U.qlvs (U.qGone now P) → r = U.qllen (U.qGone now P) → r ≤ co → K (cell (rslC ⟨2, 3, 0, r, co⟩)) (qpSx b n t q' c L' d M' O co)) : runQ (invQd P (U.qF now)) qltD 18 [ptr 0 0, xi .i64 now] (qpSt b n t q c L d M) K := by
  have hl := hQ.s
  have hn := qp_n hQ
  have hvl : (U.qlvs P).length = P.length := by simp [U.qlvs]
  have hkl : (U.qlks P).length = P.length := by simp [U.qlks]
  rw [qtick_vc]
  refine ⟨P, ⟨⟨rfl, rfl, rfl⟩, hl⟩, fun V n2 c3 e2 e3 e4 => ⟨P, ⟨⟨rfl, rfl, rfl⟩, hl⟩, fun KK n6 c7 e6 e7 e8 z8 h8 => ⟨?_, ?_⟩⟩⟩
  · refine ⟨(0, (([], (0, 0)), ([], (0, 0)))), ?_⟩
    repeat' (first | exact rfl | with_reducible apply And.intro)
    exact qldp_0 P _
  subst e4 e8
  rintro ⟨i, ⟨G, r1, cg⟩, O, r, co⟩ hI
  obtain ⟨⟨i1, i2⟩, g1, o1, g2, g3, o2, o3, o4, o5⟩ := hI.out
  dsimp only at i1 i2 g1 o1 g2 g3 o2 o3 o4 o5 hI ⊢
  refine ⟨fun hi => ⟨⟨by omega, by omega⟩, fun j hj => ⟨by omega, fun z12 h12 => ⟨⟨by omega, by omega⟩, fun j13 hj13 => ⟨by omega, ?_⟩⟩⟩⟩, fun hi => ?_⟩
  · obtain rfl : j13 = j := by omega
    obtain ⟨p, hp⟩ : ∃ p, P[j13]? = some p := ⟨_, List.getElem?_eq_getElem (show j13 < P.length by omega)⟩
    obtain ⟨f0, f1, f2⟩ := ql_fi hp
    rw [(qlat hp).2.2] at h12
    subst h12
    rw [f0, f1, f2]
    rintro _ rfl _ rfl _ rfl
    refine ⟨fun hlt => ?_, fun hge z20 h20 => ?_⟩
    · have hF : U.qF now p = true := by unfold U.qF; simpa using hlt
      refine ⟨⟨by omega, by omega⟩, trivial, by omega, by decide, fun L20 n21 c22 e20 e21 e22 => ⟨⟨by omega, by omega⟩, fun j23 hj23 => ⟨by omega, ?_⟩⟩⟩
      obtain rfl : j23 = j13 := by omega
      rw [f0, f1, f2]
      rintro _ rfl _ rfl _ rfl
      refine ⟨⟨by omega, by omega⟩, trivial, by omega, by decide, fun L29 n30 c31 e29 e30 e31 z32 h32 => ?_⟩
      have ez := iw h32 (by omega)
      refine ⟨(z32, ((L20, (n21, c22)), (L29, (n30, c31)))), ?_⟩
      repeat' (first | exact rfl | exact qldp_yes hI (by omega) hp hF ez e20 e21 e22 e29 e30 e31 | with_reducible apply And.intro)
      dsimp only; omega
    · have hF : U.qF now p = false := by unfold U.qF; simpa using hge
      have ez := iw h20 (by omega)
      refine ⟨(z20, ((G, (r1, cg)), (O, (r, co)))), ?_⟩
      repeat' (first | exact rfl | exact qldp_no hI (by omega) hp hF ez | with_reducible apply And.intro)
      dsimp only; omega
  · obtain ⟨x1, x2, x3, x4, x5, x6⟩ := qldp_end hl.srt hI (by omega)
    exact ⟨P, ⟨rfl, ⟨rfl, rfl, rfl⟩, hl, by omega, by omega, by omega, x5⟩, fun n37 L38 M39 P40 y1 y2 y3 => by
      have hP := x6 _ y2
      subst hP
      exact hK _ _ _ _ _ _ _ rfl (qp_rest hQ y3) x2 x4 o3⟩
def pqtick : Pat := fun args σ => match args with
  | [.inl (.inl (.inr (.inl (0, 0)))), a0] => match aInt a0, qpC σ with
    | some now, some (b, n, t, q, c, L, d, M) => some fun K => ∃ P : QLP, (qpD σ ∧ U.Qp b n t q c L d M P) ∧ ∀ (q' : Nat) (L' M' : Rws) (P' : QLP) (O : Rws) (r co : Nat), P' = U.qRest now P → U.Qp b n t q' c L' d M' P' → O = U.qlvs (U.qGone now P) → r = U.qllen (U.qGone now P) → r ≤ co → K (cell (rslC ⟨2, 3, 0, r, co⟩)) (qpSx b n t q' c L' d M' O co)
    | _, _ => none
  | _ => none
theorem pqtick_ok : PatOk 18 pqtick := by
  intro tm σ C h K hK w0 e w hk vs hvs
  unfold pqtick at h
  split at h
  · split at h
    · rename_i h0 hσ
      simp only [Option.some.injEq] at h; subst h
      obtain ⟨P, ⟨hd, hQ⟩, hP⟩ := hK
      obtain rfl := qpC_eq hσ hd
      obtain ⟨y0, y1, rfl, q0, q1⟩ := twos hvs
      exact knownD noOv names opMK_ok (conOk_ofR qltD_ok) (qtick_run K _ _ _ _ _ _ _ _ P hQ _ hP) w0 e w hk _ (map2 q0 (as_aInt h0 q1))
    · cases h
  · cases h
def tQ2 : Tbl := tblOr (tblIf 7 pqnew) (tblOr (tblIf 16 pqof) (tblOr (tblIf 30 pqlets) (tblOr (tblIf 14 pqfind) (tblOr (tblIf 11 pqall) (tblOr (tblIf 18 pqtick) qltS)))))
theorem tQ2_ok : TblOk Try.prog tQ2 := tblOr_ok (tblIf_ok pqnew_ok) (tblOr_ok (tblIf_ok pqof_ok) (tblOr_ok (tblIf_ok pqlets_ok) (tblOr_ok (tblIf_ok pqfind_ok) (tblOr_ok (tblIf_ok pqall_ok) (tblOr_ok (tblIf_ok pqtick_ok) qltS_ok)))))
end Go.Proofs.Ytbifilonmkaonaa
end

section
namespace Go.Proofs.Ytbifilonmkaonaa
open Go Reck Ost
set_option linter.unusedVariables false
set_option maxRecDepth 100000
/-- An address is let, and its time is not over. -/
structure U.qTk (P : QLP) (ip now : Int) : Prop where
  out : ∃ v, (ip, v) ∈ P ∧ now < v.v2
structure U.qoI (P : QLP) (b n now i : Int) : Prop where
  out : 0 ≤ i ∧ i ≤ n ∧ ∀ s, 0 ≤ s → s < i → U.qTk P (b + 1 + s) now
def qoInv (P : QLP) (b n now : Int) (tm : List AV) (σ : St) : Inv where
  X := Int
  tags := [0]
  tag _ _ := 0
  J := [3, 4, 5, 6, 7, 8, 9, 10, 11, 12, 13, 14, 15, 16, 17, 18, 19, 20, 21, 22, 23, 24, 25, 26, 27, 30, 31, 32, 33, 34, 35, 36, 37, 38, 39, 40, 41, 42, 43, 44, 45, 46, 47, 48, 49, 50, 51, 52, 53, 54]
  val _ x := [(29, xi .i64 x)]
  st _ _ σ' := σ'
  I _ x := U.qoI P b n now x
  m _ x := n.toNat - x.toNat
  ren := noRen
def invQo (P : QLP) (b n now : Int) : InvF := fun c tm σ => match tm.length, firstReg c with
  | 55, some 7 => some (qoInv P b n now tm σ)
  | _, _ => none
--PLAIN
theorem qoffer_vc (K : AV → St → Prop) (P : QLP) (b n t : Int) (q c : Nat) (L : Rws) (d : Nat) (M : Rws) (m now : Int) : (runR (invQo P b n now) tQ2 12 [ptr 0 0, xi .u64 m, xi .i64 now] (qpSt b n t q c L d M) K) = (∃ (y0 : QLP), (((c = c ∧ d = d ∧ q = q) ∧ n = n) ∧ U.Qp b n t q c L d M y0) ∧ (∀ (k1 v02 v13 v24 : Int), U.qHas y0 m k1 v02 v13 v24 → K (Sum.inr [Sum.inl (Sum.inr (Sum.inr (Sum.inr (Sum.inr (Sum.inr (Sum.inr (Sum.inl (IntKind.u32, v13)))))))), Sum.inl (Sum.inr (Sum.inr (Sum.inr (Sum.inr (Sum.inr (Sum.inr (Sum.inl (IntKind.i64, (0 : Int)))))))))]) { heap := [some { elem := nat_lit 57, cells := [Sum.inr (Sum.inr (Sum.inr (Sum.inr (Sum.inr (Sum.inr (Sum.inl (IntKind.u32, b))))))), Sum.inr (Sum.inr (Sum.inr (Sum.inr (Sum.inr (Sum.inr (Sum.inl (IntKind.i64, n))))))), Sum.inr (Sum.inr (Sum.inr (Sum.inr (Sum.inr (Sum.inr (Sum.inl (IntKind.i64, t))))))), Sum.inr (Sum.inl ((1 : Nat), (0 : Nat)))], j := none, c := (4 : Nat), z := false }, some { elem := nat_lit 82, cells := [Sum.inr (Sum.inr (Sum.inr (Sum.inr (Sum.inr (Sum.inr (Sum.inr (Sum.inr (Sum.inr (Sum.inr (Sum.inr (Sum.inl { a := (0 : Nat), u := (1 : Nat), o := (0 : Nat), n := q, c := c }))))))))))), Sum.inr (Sum.inr (Sum.inr (Sum.inr (Sum.inr (Sum.inr (Sum.inr (Sum.inr (Sum.inr (Sum.inr (Sum.inr (Sum.inl { a := (1 : Nat), u := (3 : Nat), o := (0 : Nat), n := q, c := d }))))))))))), Sum.inr (Sum.inr (Sum.inr (Sum.inr (Sum.inr (Sum.inr (Sum.inl (IntKind.i64, n)))))))], j := none, c := (3 : Nat), z := false }], ints := [], opqs := (0 : Nat), arrs := [some { elem := (28 : Nat), k := AK.o (Obj.rows [CK.n IntKind.u32] L), l := [], cap := c, ro := false }, some { elem := (41 : Nat), k := AK.o (Obj.rows [CK.n IntKind.u64, CK.n IntKind.u32, CK.n IntKind.i64] M), l := [], cap := d, ro := false }], junks := (0 : Nat) }) ∧ (U.qNo y0 m → (∃ (y5 : Int), m = m ∧ now = now ∧ n = n ∧ (0 : Int) = y5 ∧ b = b ∧ n = n ∧ t = t ∧ ((0 : Nat) = (0 : Nat) ∧ q = q ∧ c = c) ∧ ((0 : Nat) = (0 : Nat) ∧ q = q ∧ d = d) ∧ n = n ∧ (0 : Int) = (0 : Int) ∧ (0 : Int) = (0 : Int) ∧ (0 : Int) = (0 : Int) ∧ (L = L ∧ c = c ∧ false = false) ∧ (M = M ∧ d = d ∧ false = false) ∧ U.qoI P b n now y5) ∧ ∀ (x6 : Int), U.qoI P b n now x6 → (x6 < n → ∀ (z7 : Int), z7 = IntKind.wrap IntKind.u32 (b + (1 : Int)) → ∀ (z8 : Int), z8 = IntKind.wrap IntKind.u32 x6 → ∀ (z9 : Int), z9 = IntKind.wrap IntKind.u32 (z7 + z8) → ∃ (y10 : QLP), (((c = c ∧ d = d ∧ q = q) ∧ n = n) ∧ U.Qp b n t q c L d M y10) ∧ (∀ (v011 v112 v213 : Int), U.qlHasE y10 z9 v011 v112 v213 → (v213 ≤ now → K (Sum.inr [Sum.inl (Sum.inr (Sum.inr (Sum.inr (Sum.inr (Sum.inr (Sum.inr (Sum.inl (IntKind.u32, z9)))))))), Sum.inl (Sum.inr (Sum.inr (Sum.inr (Sum.inr (Sum.inr (Sum.inr (Sum.inl (IntKind.i64, (0 : Int)))))))))]) { heap := [some { elem := nat_lit 57, cells := [Sum.inr (Sum.inr (Sum.inr (Sum.inr (Sum.inr (Sum.inr (Sum.inl (IntKind.u32, b))))))), Sum.inr (Sum.inr (Sum.inr (Sum.inr (Sum.inr (Sum.inr (Sum.inl (IntKind.i64, n))))))), Sum.inr (Sum.inr (Sum.inr (Sum.inr (Sum.inr (Sum.inr (Sum.inl (IntKind.i64, t))))))), Sum.inr (Sum.inl ((1 : Nat), (0 : Nat)))], j := none, c := (4 : Nat), z := false }, some { elem := nat_lit 82, cells := [Sum.inr (Sum.inr (Sum.inr (Sum.inr (Sum.inr (Sum.inr (Sum.inr (Sum.inr (Sum.inr (Sum.inr (Sum.inr (Sum.inl { a := (0 : Nat), u := (1 : Nat), o := (0 : Nat), n := q, c := c }))))))))))), Sum.inr (Sum.inr (Sum.inr (Sum.inr (Sum.inr (Sum.inr (Sum.inr (Sum.inr (Sum.inr (Sum.inr (Sum.inr (Sum.inl { a := (1 : Nat), u := (3 : Nat), o := (0 : Nat), n := q, c := d }))))))))))), Sum.inr (Sum.inr (Sum.inr (Sum.inr (Sum.inr (Sum.inr (Sum.inl (IntKind.i64, n)))))))], j := none, c := (3 : Nat), z := false }], ints := [], opqs := (0 : Nat), arrs := [some { elem := (28 : Nat), k := AK.o (Obj.rows [CK.n IntKind.u32] L), l := [], cap := c, ro := false }, some { elem := (41 : TypeId), k := AK.o (Obj.rows [CK.n IntKind.u64, CK.n IntKind.u32, CK.n IntKind.i64] M), l := [], cap := d, ro := false }], junks := (0 : Nat) }) ∧ (¬v213 ≤ now → ∀ (z14 : Int), z14 = IntKind.wrap IntKind.i64 (x6 + (1 : Int)) → ∃ (y15 : Int), m = m ∧ now = now ∧ n = n ∧ z14 = y15 ∧ b = b ∧ n = n ∧ t = t ∧ ((0 : Nat) = (0 : Nat) ∧ q = q ∧ c = c) ∧ ((0 : Nat) = (0 : Nat) ∧ q = q ∧ d = d) ∧ n = n ∧ (0 : Int) = (0 : Int) ∧ (0 : Int) = (0 : Int) ∧ (0 : Int) = (0 : Int) ∧ (L = L ∧ c = c ∧ false = false) ∧ (M = M ∧ d = d ∧ false = false) ∧ U.qoI P b n now y15 ∧ Int.toNat n - Int.toNat y15 < Int.toNat n - Int.toNat x6)) ∧ (¬U.qlHasK y10 z9 → K (Sum.inr [Sum.inl (Sum.inr (Sum.inr (Sum.inr (Sum.inr (Sum.inr (Sum.inr (Sum.inl (IntKind.u32, z9)))))))), Sum.inl (Sum.inr (Sum.inr (Sum.inr (Sum.inr (Sum.inr (Sum.inr (Sum.inl (IntKind.i64, (0 : Int)))))))))]) { heap := [some { elem := nat_lit 57, cells := [Sum.inr (Sum.inr (Sum.inr (Sum.inr (Sum.inr (Sum.inr (Sum.inl (IntKind.u32, b))))))), Sum.inr (Sum.inr (Sum.inr (Sum.inr (Sum.inr (Sum.inr (Sum.inl (IntKind.i64, n))))))), Sum.inr (Sum.inr (Sum.inr (Sum.inr (Sum.inr (Sum.inr (Sum.inl (IntKind.i64, t))))))), Sum.inr (Sum.inl ((1 : Nat), (0 : Nat)))], j := none, c := (4 : Nat), z := false }, some { elem := nat_lit 82, cells := [Sum.inr (Sum.inr (Sum.inr (Sum.inr (Sum.inr (Sum.inr (Sum.inr (Sum.inr (Sum.inr (Sum.inr (Sum.inr (Sum.inl { a := (0 : Nat), u := (1 : Nat), o := (0 : Nat), n := q, c := c }))))))))))), Sum.inr (Sum.inr (Sum.inr (Sum.inr (Sum.inr (Sum.inr (Sum.inr (Sum.inr (Sum.inr (Sum.inr (Sum.inr (Sum.inl { a := (1 : Nat), u := (3 : Nat), o := (0 : Nat), n := q, c := d }))))))))))), Sum.inr (Sum.inr (Sum.inr (Sum.inr (Sum.inr (Sum.inr (Sum.inl (IntKind.i64, n)))))))], j := none, c := (3 : Nat), z := false }], ints := [], opqs := (0 : Nat), arrs := [some { elem := (28 : Nat), k := AK.o (Obj.rows [CK.n IntKind.u32] L), l := [], cap := c, ro := false }, some { elem := (41 : TypeId), k := AK.o (Obj.rows [CK.n IntKind.u64, CK.n IntKind.u32, CK.n IntKind.i64] M), l := [], cap := d, ro := false }], junks := (0 : Nat) })) ∧ (¬x6 < n → K (Sum.inr [Sum.inl (Sum.inr (Sum.inr (Sum.inr (Sum.inr (Sum.inr (Sum.inr (Sum.inl (IntKind.u32, (0 : Int))))))))), Sum.inl (Sum.inr (Sum.inr (Sum.inr (Sum.inr (Sum.inr (Sum.inr (Sum.inl (IntKind.i64, (4 : Int)))))))))]) { heap := [some { elem := nat_lit 57, cells := [Sum.inr (Sum.inr (Sum.inr (Sum.inr (Sum.inr (Sum.inr (Sum.inl (IntKind.u32, b))))))), Sum.inr (Sum.inr (Sum.inr (Sum.inr (Sum.inr (Sum.inr (Sum.inl (IntKind.i64, n))))))), Sum.inr (Sum.inr (Sum.inr (Sum.inr (Sum.inr (Sum.inr (Sum.inl (IntKind.i64, t))))))), Sum.inr (Sum.inl ((1 : Nat), (0 : Nat)))], j := none, c := (4 : Nat), z := false }, some { elem := nat_lit 82, cells := [Sum.inr (Sum.inr (Sum.inr (Sum.inr (Sum.inr (Sum.inr (Sum.inr (Sum.inr (Sum.inr (Sum.inr (Sum.inr (Sum.inl { a := (0 : Nat), u := (1 : Nat), o := (0 : Nat), n := q, c := c }))))))))))), Sum.inr (Sum.inr (Sum.inr (Sum.inr (Sum.inr (Sum.inr (Sum.inr (Sum.inr (Sum.inr (Sum.inr (Sum.inr (Sum.inl { a := (1 : Nat), u := (3 : Nat), o := (0 : Nat), n := q, c := d }))))))))))), Sum.inr (Sum.inr (Sum.inr (Sum.inr (Sum.inr (Sum.inr (Sum.inl (IntKind.i64, n)))))))], j := none, c := (3 : Nat), z := false }], ints := [], opqs := (0 : Nat), arrs := [some { elem := (28 : Nat), k := AK.o (Obj.rows [CK.n IntKind.u32] L), l := [], cap := c, ro := false }, some { elem := (41 : Nat), k := AK.o (Obj.rows [CK.n IntKind.u64, CK.n IntKind.u32, CK.n IntKind.i64] M), l := [], cap := d, ro := false }], junks := (0 : Nat) }))) := by kernel_rfl
theorem qfree_vc (K : AV → St → Prop) (b n t : Int) (q c : Nat) (L : Rws) (d : Nat) (M : Rws) (m : Int) : (runR inv0 tQ2 15 [ptr 0 0, xi .u64 m] (qpSt b n t q c L d M) K) = (∃ (y0 : QLP), (((c = c ∧ d = d ∧ q = q) ∧ n = n) ∧ U.Qp b n t q c L d M y0) ∧ (∀ (k1 v02 v13 v24 : Int), U.qHas y0 m k1 v02 v13 v24 → v13 = v13 ∧ ∃ (y5 : QLP), ((c = c ∧ d = d ∧ q = q) ∧ U.qlshI q c L d M y5 ∧ q ≤ (100000 : Nat)) ∧ ∀ (z6 : Int) (L'7 : Rws) (n'8 : Nat) (M'9 : Rws) (P'10 : QLP), n'8 = U.qllen P'10 → U.qlRmN y5 v13 z6 → U.qlRm y5 v13 P'10 → U.qlshI n'8 c L'7 d M'9 P'10 → v13 = v13 ∧ K (Sum.inr [Sum.inr [Sum.inr (Sum.inr (Sum.inr (Sum.inr (Sum.inr (Sum.inr (Sum.inl (IntKind.u64, v02))))))), Sum.inr (Sum.inr (Sum.inr (Sum.inr (Sum.inr (Sum.inr (Sum.inl (IntKind.u32, v13))))))), Sum.inr (Sum.inr (Sum.inr (Sum.inr (Sum.inr (Sum.inr (Sum.inl (IntKind.i64, v24)))))))], Sum.inl (Sum.inl (Value.bool true))]) { heap := [some { elem := nat_lit 57, cells := [Sum.inr (Sum.inr (Sum.inr (Sum.inr (Sum.inr (Sum.inr (Sum.inl (IntKind.u32, b))))))), Sum.inr (Sum.inr (Sum.inr (Sum.inr (Sum.inr (Sum.inr (Sum.inl (IntKind.i64, n))))))), Sum.inr (Sum.inr (Sum.inr (Sum.inr (Sum.inr (Sum.inr (Sum.inl (IntKind.i64, t))))))), Sum.inr (Sum.inl ((1 : Nat), (0 : Nat)))], j := none, c := (4 : Nat), z := false }, some { elem := nat_lit 82, cells := [Sum.inr (Sum.inr (Sum.inr (Sum.inr (Sum.inr (Sum.inr (Sum.inr (Sum.inr (Sum.inr (Sum.inr (Sum.inr (Sum.inl { a := (2 : Nat), u := (1 : Nat), o := (0 : Nat), n := n'8, c := c }))))))))))), Sum.inr (Sum.inr (Sum.inr (Sum.inr (Sum.inr (Sum.inr (Sum.inr (Sum.inr (Sum.inr (Sum.inr (Sum.inr (Sum.inl { a := (3 : Nat), u := (3 : Nat), o := (0 : Nat), n := n'8, c := d }))))))))))), Sum.inr (Sum.inr (Sum.inr (Sum.inr (Sum.inr (Sum.inr (Sum.inl (IntKind.i64, n)))))))], j := none, c := (3 : Nat), z := false }], ints := [], opqs := (0 : Nat), arrs := [none, none, some { elem := (28 : Nat), k := AK.o (Obj.rows [CK.n IntKind.u32] L'7), l := [], cap := c, ro := false }, some { elem := (41 : TypeId), k := AK.o (Obj.rows [CK.n IntKind.u64, CK.n IntKind.u32, CK.n IntKind.i64] M'9), l := [], cap := d, ro := false }], junks := (0 : Nat) }) ∧ (U.qNo y0 m → K (Sum.inr [Sum.inr [Sum.inr (Sum.inr (Sum.inr (Sum.inr (Sum.inr (Sum.inr (Sum.inl (IntKind.u64, (0 : Int)))))))), Sum.inr (Sum.inr (Sum.inr (Sum.inr (Sum.inr (Sum.inr (Sum.inl (IntKind.u32, (0 : Int)))))))), Sum.inr (Sum.inr (Sum.inr (Sum.inr (Sum.inr (Sum.inr (Sum.inl (IntKind.i64, (0 : Int))))))))], Sum.inl (Sum.inl (Value.bool false))]) { heap := [some { elem := nat_lit 57, cells := [Sum.inr (Sum.inr (Sum.inr (Sum.inr (Sum.inr (Sum.inr (Sum.inl (IntKind.u32, b))))))), Sum.inr (Sum.inr (Sum.inr (Sum.inr (Sum.inr (Sum.inr (Sum.inl (IntKind.i64, n))))))), Sum.inr (Sum.inr (Sum.inr (Sum.inr (Sum.inr (Sum.inr (Sum.inl (IntKind.i64, t))))))), Sum.inr (Sum.inl ((1 : Nat), (0 : Nat)))], j := none, c := (4 : Nat), z := false }, some { elem := nat_lit 82, cells := [Sum.inr (Sum.inr (Sum.inr (Sum.inr (Sum.inr (Sum.inr (Sum.inr (Sum.inr (Sum.inr (Sum.inr (Sum.inr (Sum.inl { a := (0 : Nat), u := (1 : Nat), o := (0 : Nat), n := q, c := c }))))))))))), Sum.inr (Sum.inr (Sum.inr (Sum.inr (Sum.inr (Sum.inr (Sum.inr (Sum.inr (Sum.inr (Sum.inr (Sum.inr (Sum.inl { a := (1 : Nat), u := (3 : Nat), o := (0 : Nat), n := q, c := d }))))))))))), Sum.inr (Sum.inr (Sum.inr (Sum.inr (Sum.inr (Sum.inr (Sum.inl (IntKind.i64, n)))))))], j := none, c := (3 : Nat), z := false }], ints := [], opqs := (0 : Nat), arrs := [some { elem := (28 : Nat), k := AK.o (Obj.rows [CK.n IntKind.u32] L), l := [], cap := c, ro := false }, some { elem := (41 : TypeId), k := AK.o (Obj.rows [CK.n IntKind.u64, CK.n IntKind.u32, CK.n IntKind.i64] M), l := [], cap := d, ro := false }], junks := (0 : Nat) })) := by kernel_rfl
theorem qput_vc (K : AV → St → Prop) (b n t : Int) (q c : Nat) (L : Rws) (d : Nat) (M : Rws) (x0 x1 x2 : Int) : (runR inv0 tQ2 17 [ptr 0 0, .inl (.inr (qlC x0 x1 x2))] (qpSt b n t q c L d M) K) = (∃ (y0 : QLP), (((c = c ∧ d = d ∧ q = q) ∧ n = n) ∧ U.Qp b n t q c L d M y0 ∧ (0 : Int) ≤ x1 ∧ x1 ≤ (4294967295 : Int)) ∧ (U.qIn b n x1 → ∃ (y1 : QLP), (((c = c ∧ d = d ∧ q = q) ∧ n = n) ∧ U.Qp b n t q c L d M y1) ∧ (∀ (k2 v03 v14 v25 : Int), U.qHas y1 x0 k2 v03 v14 v25 → ∃ (y6 : QLP), (((c = c ∧ d = d ∧ q = q) ∧ n = n) ∧ U.Qp b n t q c L d M y6) ∧ (∀ (v07 v18 v29 : Int), U.qlHasE y6 x1 v07 v18 v29 → K (Sum.inl (Sum.inl (Sum.inr (Sum.inr (Sum.inr (Sum.inr (Sum.inr (Sum.inr (Sum.inl (IntKind.i64, (3 : Int))))))))))) { heap := [some { elem := nat_lit 57, cells := [Sum.inr (Sum.inr (Sum.inr (Sum.inr (Sum.inr (Sum.inr (Sum.inl (IntKind.u32, b))))))), Sum.inr (Sum.inr (Sum.inr (Sum.inr (Sum.inr (Sum.inr (Sum.inl (IntKind.i64, n))))))), Sum.inr (Sum.inr (Sum.inr (Sum.inr (Sum.inr (Sum.inr (Sum.inl (IntKind.i64, t))))))), Sum.inr (Sum.inl ((1 : Nat), (0 : Nat)))], j := none, c := (4 : Nat), z := false }, some { elem := nat_lit 82, cells := [Sum.inr (Sum.inr (Sum.inr (Sum.inr (Sum.inr (Sum.inr (Sum.inr (Sum.inr (Sum.inr (Sum.inr (Sum.inr (Sum.inl { a := (0 : Nat), u := (1 : Nat), o := (0 : Nat), n := q, c := c }))))))))))), Sum.inr (Sum.inr (Sum.inr (Sum.inr (Sum.inr (Sum.inr (Sum.inr (Sum.inr (Sum.inr (Sum.inr (Sum.inr (Sum.inl { a := (1 : Nat), u := (3 : Nat), o := (0 : Nat), n := q, c := d }))))))))))), Sum.inr (Sum.inr (Sum.inr (Sum.inr (Sum.inr (Sum.inr (Sum.inl (IntKind.i64, n)))))))], j := none, c := (3 : Nat), z := false }], ints := [], opqs := (0 : Nat), arrs := [some { elem := (28 : TypeId), k := AK.o (Obj.rows [CK.n IntKind.u32] L), l := [], cap := c, ro := false }, some { elem := (41 : TypeId), k := AK.o (Obj.rows [CK.n IntKind.u64, CK.n IntKind.u32, CK.n IntKind.i64] M), l := [], cap := d, ro := false }], junks := (0 : Nat) }) ∧ (¬U.qlHasK y6 x1 → K (Sum.inl (Sum.inl (Sum.inr (Sum.inr (Sum.inr (Sum.inr (Sum.inr (Sum.inr (Sum.inl (IntKind.i64, (3 : Int))))))))))) { heap := [some { elem := nat_lit 57, cells := [Sum.inr (Sum.inr (Sum.inr (Sum.inr (Sum.inr (Sum.inr (Sum.inl (IntKind.u32, b))))))), Sum.inr (Sum.inr (Sum.inr (Sum.inr (Sum.inr (Sum.inr (Sum.inl (IntKind.i64, n))))))), Sum.inr (Sum.inr (Sum.inr (Sum.inr (Sum.inr (Sum.inr (Sum.inl (IntKind.i64, t))))))), Sum.inr (Sum.inl ((1 : Nat), (0 : Nat)))], j := none, c := (4 : Nat), z := false }, some { elem := nat_lit 82, cells := [Sum.inr (Sum.inr (Sum.inr (Sum.inr (Sum.inr (Sum.inr (Sum.inr (Sum.inr (Sum.inr (Sum.inr (Sum.inr (Sum.inl { a := (0 : Nat), u := (1 : Nat), o := (0 : Nat), n := q, c := c }))))))))))), Sum.inr (Sum.inr (Sum.inr (Sum.inr (Sum.inr (Sum.inr (Sum.inr (Sum.inr (Sum.inr (Sum.inr (Sum.inr (Sum.inl { a := (1 : Nat), u := (3 : Nat), o := (0 : Nat), n := q, c := d }))))))))))), Sum.inr (Sum.inr (Sum.inr (Sum.inr (Sum.inr (Sum.inr (Sum.inl (IntKind.i64, n)))))))], j := none, c := (3 : Nat), z := false }], ints := [], opqs := (0 : Nat), arrs := [some { elem := (28 : TypeId), k := AK.o (Obj.rows [CK.n IntKind.u32] L), l := [], cap := c, ro := false }, some { elem := (41 : TypeId), k := AK.o (Obj.rows [CK.n IntKind.u64, CK.n IntKind.u32, CK.n IntKind.i64] M), l := [], cap := d, ro := false }], junks := (0 : Nat) })) ∧ (U.qNo y1 x0 → ∃ (y10 : QLP), (((c = c ∧ d = d ∧ q = q) ∧ n = n) ∧ U.Qp b n t q c L d M y10) ∧ (∀ (v011 v112 v213 : Int), U.qlHasE y10 x1 v011 v112 v213 → K (Sum.inl (Sum.inl (Sum.inr (Sum.inr (Sum.inr (Sum.inr (Sum.inr (Sum.inr (Sum.inl (IntKind.i64, (3 : Int))))))))))) { heap := [some { elem := nat_lit 57, cells := [Sum.inr (Sum.inr (Sum.inr (Sum.inr (Sum.inr (Sum.inr (Sum.inl (IntKind.u32, b))))))), Sum.inr (Sum.inr (Sum.inr (Sum.inr (Sum.inr (Sum.inr (Sum.inl (IntKind.i64, n))))))), Sum.inr (Sum.inr (Sum.inr (Sum.inr (Sum.inr (Sum.inr (Sum.inl (IntKind.i64, t))))))), Sum.inr (Sum.inl ((1 : Nat), (0 : Nat)))], j := none, c := (4 : Nat), z := false }, some { elem := nat_lit 82, cells := [Sum.inr (Sum.inr (Sum.inr (Sum.inr (Sum.inr (Sum.inr (Sum.inr (Sum.inr (Sum.inr (Sum.inr (Sum.inr (Sum.inl { a := (0 : Nat), u := (1 : Nat), o := (0 : Nat), n := q, c := c }))))))))))), Sum.inr (Sum.inr (Sum.inr (Sum.inr (Sum.inr (Sum.inr (Sum.inr (Sum.inr (Sum.inr (Sum.inr (Sum.inr (Sum.inl { a := (1 : Nat), u := (3 : Nat), o := (0 : Nat), n := q, c := d }))))))))))), Sum.inr (Sum.inr (Sum.inr (Sum.inr (Sum.inr (Sum.inr (Sum.inl (IntKind.i64, n)))))))], j := none, c := (3 : Nat), z := false }], ints := [], opqs := (0 : Nat), arrs := [some { elem := (28 : TypeId), k := AK.o (Obj.rows [CK.n IntKind.u32] L), l := [], cap := c, ro := false }, some { elem := (41 : TypeId), k := AK.o (Obj.rows [CK.n IntKind.u64, CK.n IntKind.u32, CK.n IntKind.i64] M), l := [], cap := d, ro := false }], junks := (0 : Nat) }) ∧ (¬U.qlHasK y10 x1 → ∃ (y14 : QLP), ((c = c ∧ d = d ∧ q = q) ∧ U.qlshI q c L d M y14 ∧ q ≤ (100000 : Nat)) ∧ (U.qlRoom y14 x1 n → ∀ (L'15 : Rws) (n'16 c'17 : Nat) (M'18 : Rws) (d'19 : Nat) (P'20 : QLP), n'16 = U.qllen P'20 → U.qlPut y14 x1 { v0 := x0, v1 := x1, v2 := x2 } P'20 → U.qlshI n'16 c'17 L'15 d'19 M'18 P'20 → x0 = x0 ∧ x1 = x1 ∧ x2 = x2 ∧ x1 = x1 ∧ K (Sum.inl (Sum.inl (Sum.inr (Sum.inr (Sum.inr (Sum.inr (Sum.inr (Sum.inr (Sum.inl (IntKind.i64, (0 : Int))))))))))) { heap := [some { elem := nat_lit 57, cells := [Sum.inr (Sum.inr (Sum.inr (Sum.inr (Sum.inr (Sum.inr (Sum.inl (IntKind.u32, b))))))), Sum.inr (Sum.inr (Sum.inr (Sum.inr (Sum.inr (Sum.inr (Sum.inl (IntKind.i64, n))))))), Sum.inr (Sum.inr (Sum.inr (Sum.inr (Sum.inr (Sum.inr (Sum.inl (IntKind.i64, t))))))), Sum.inr (Sum.inl ((1 : Nat), (0 : Nat)))], j := none, c := (4 : Nat), z := false }, some { elem := nat_lit 82, cells := [Sum.inr (Sum.inr (Sum.inr (Sum.inr (Sum.inr (Sum.inr (Sum.inr (Sum.inr (Sum.inr (Sum.inr (Sum.inr (Sum.inl { a := (2 : Nat), u := (1 : Nat), o := (0 : Nat), n := n'16, c := c'17 }))))))))))), Sum.inr (Sum.inr (Sum.inr (Sum.inr (Sum.inr (Sum.inr (Sum.inr (Sum.inr (Sum.inr (Sum.inr (Sum.inr (Sum.inl { a := (3 : Nat), u := (3 : Nat), o := (0 : Nat), n := n'16, c := d'19 }))))))))))), Sum.inr (Sum.inr (Sum.inr (Sum.inr (Sum.inr (Sum.inr (Sum.inl (IntKind.i64, n)))))))], j := none, c := (3 : Nat), z := false }], ints := [], opqs := (0 : Nat), arrs := [none, none, some { elem := (28 : TypeId), k := AK.o (Obj.rows [CK.n IntKind.u32] L'15), l := [], cap := c'17, ro := false }, some { elem := (41 : TypeId), k := AK.o (Obj.rows [CK.n IntKind.u64, CK.n IntKind.u32, CK.n IntKind.i64] M'18), l := [], cap := d'19, ro := false }], junks := (0 : Nat) }) ∧ (¬U.qlRoom y14 x1 n → x0 = x0 ∧ x1 = x1 ∧ x2 = x2 ∧ x1 = x1 ∧ K (Sum.inl (Sum.inl (Sum.inr (Sum.inr (Sum.inr (Sum.inr (Sum.inr (Sum.inr (Sum.inl (IntKind.i64, (4 : Int))))))))))) { heap := [some { elem := nat_lit 57, cells := [Sum.inr (Sum.inr (Sum.inr (Sum.inr (Sum.inr (Sum.inr (Sum.inl (IntKind.u32, b))))))), Sum.inr (Sum.inr (Sum.inr (Sum.inr (Sum.inr (Sum.inr (Sum.inl (IntKind.i64, n))))))), Sum.inr (Sum.inr (Sum.inr (Sum.inr (Sum.inr (Sum.inr (Sum.inl (IntKind.i64, t))))))), Sum.inr (Sum.inl ((1 : Nat), (0 : Nat)))], j := none, c := (4 : Nat), z := false }, some { elem := nat_lit 82, cells := [Sum.inr (Sum.inr (Sum.inr (Sum.inr (Sum.inr (Sum.inr (Sum.inr (Sum.inr (Sum.inr (Sum.inr (Sum.inr (Sum.inl { a := (0 : Nat), u := (1 : Nat), o := (0 : Nat), n := q, c := c }))))))))))), Sum.inr (Sum.inr (Sum.inr (Sum.inr (Sum.inr (Sum.inr (Sum.inr (Sum.inr (Sum.inr (Sum.inr (Sum.inr (Sum.inl { a := (1 : Nat), u := (3 : Nat), o := (0 : Nat), n := q, c := d }))))))))))), Sum.inr (Sum.inr (Sum.inr (Sum.inr (Sum.inr (Sum.inr (Sum.inl (IntKind.i64, n)))))))], j := none, c := (3 : Nat), z := false }], ints := [], opqs := (0 : Nat), arrs := [some { elem := (28 : TypeId), k := AK.o (Obj.rows [CK.n IntKind.u32] L), l := [], cap := c, ro := false }, some { elem := (41 : TypeId), k := AK.o (Obj.rows [CK.n IntKind.u64, CK.n IntKind.u32, CK.n IntKind.i64] M), l := [], cap := d, ro := false }], junks := (0 : Nat) })))) ∧ (¬U.qIn b n x1 → K (Sum.inl (Sum.inl (Sum.inr (Sum.inr (Sum.inr (Sum.inr (Sum.inr (Sum.inr (Sum.inl (IntKind.i64, (7 : Int))))))))))) { heap := [some { elem := nat_lit 57, cells := [Sum.inr (Sum.inr (Sum.inr (Sum.inr (Sum.inr (Sum.inr (Sum.inl (IntKind.u32, b))))))), Sum.inr (Sum.inr (Sum.inr (Sum.inr (Sum.inr (Sum.inr (Sum.inl (IntKind.i64, n))))))), Sum.inr (Sum.inr (Sum.inr (Sum.inr (Sum.inr (Sum.inr (Sum.inl (IntKind.i64, t))))))), Sum.inr (Sum.inl ((1 : Nat), (0 : Nat)))], j := none, c := (4 : Nat), z := false }, some { elem := nat_lit 82, cells := [Sum.inr (Sum.inr (Sum.inr (Sum.inr (Sum.inr (Sum.inr (Sum.inr (Sum.inr (Sum.inr (Sum.inr (Sum.inr (Sum.inl { a := (0 : Nat), u := (1 : Nat), o := (0 : Nat), n := q, c := c }))))))))))), Sum.inr (Sum.inr (Sum.inr (Sum.inr (Sum.inr (Sum.inr (Sum.inr (Sum.inr (Sum.inr (Sum.inr (Sum.inr (Sum.inl { a := (1 : Nat), u := (3 : Nat), o := (0 : Nat), n := q, c := d }))))))))))), Sum.inr (Sum.inr (Sum.inr (Sum.inr (Sum.inr (Sum.inr (Sum.inl (IntKind.i64, n)))))))], j := none, c := (3 : Nat), z := false }], ints := [], opqs := (0 : Nat), arrs := [some { elem := (28 : TypeId), k := AK.o (Obj.rows [CK.n IntKind.u32] L), l := [], cap := c, ro := false }, some { elem := (41 : TypeId), k := AK.o (Obj.rows [CK.n IntKind.u64, CK.n IntKind.u32, CK.n IntKind.i64] M), l := [], cap := d, ro := false }], junks := (0 : Nat) })) := by kernel_rfl
end Go.Proofs.Ytbifilonmkaonaa
end

section
set_option linter.unusedVariables false
set_option linter.unusedSimpArgs false
set_option maxRecDepth 10000
namespace Go.Proofs.Ytbifilonmkaonaa
open Go Reck Ost
/-- What is offered. -/
structure U.qOff (P : QLP) (b n m now ip e : Int) : Prop where
  out : (∃ k v0 v1 v2, U.qHas P m k v0 v1 v2 ∧ ip = v1 ∧ e = 0) ∨ (U.qNo P m ∧ ((∃ s, 0 ≤ s ∧ s < n ∧ ip = b + 1 + s ∧ e = 0 ∧ ¬ U.qTk P ip now ∧ ∀ r, 0 ≤ r → r < s → U.qTk P (b + 1 + r) now) ∨ (e = 4 ∧ ∀ r, 0 ≤ r → r < n → U.qTk P (b + 1 + r) now)))
/-- P' is P without somebody's lease. -/
structure U.qRmv (P : QLP) (m : Int) (P' : QLP) : Prop where
  out : ∀ x y, (x, y) ∈ P' ↔ (x, y) ∈ P ∧ y.v0 ≠ m
abbrev erA (u e : Int) : AV := .inr [.inl (xintC .u32 u), .inl (xintC .i64 e)]
def qpS2 (b n t : Int) (q c : Nat) (L : Rws) (d : Nat) (M : Rws) : St := ⟨[qpB b n t, qlB (rslC ⟨2, 1, 0, q, c⟩) (rslC ⟨3, 3, 0, q, d⟩) n], [], 0, [none, none, some (qlkB L c), some (qlvB M d)], 0⟩
theorem qp_rmv {b n t : Int} {q c : Nat} {L : Rws} {d : Nat} {M : Rws} {P P' : QLP} {m : Int} (h : U.Qp b n t q c L d M P) (hr : U.qRmv P m P') {q' c' d' : Nat} {L' M' : Rws} (h' : U.qlshI q' c' L' d' M' P') : U.Qp b n t q' c' L' d' M' P' :=
  ⟨h', h.i.b0, h.i.g, fun k v hx => h.i.wf k v ((hr.out k v).1 hx).1, fun k v k' v' hx hy => h.i.mac k v k' v' ((hr.out k v).1 hx).1 ((hr.out k' v').1 hy).1⟩
theorem qrmv_of {b n t : Int} {P P' : QLP} (hi : U.qI b n t P) (hs : U.qlSrt P) {m k v0 v1 v2 : Int} (h : U.qHas P m k v0 v1 v2) (hr : U.qlRm P v1 P') : U.qRmv P m P' := by
  have hk : v1 = k := (hi.wf _ _ h.mem).1
  refine ⟨fun x y => ?_⟩
  rw [hr.mem]
  constructor
  · rintro ⟨hx, hne⟩
    exact ⟨hx, fun he => hne ((hi.mac _ _ _ _ hx h.mem (by rw [he]; exact h.mac.symm)).trans hk.symm)⟩
  · rintro ⟨hx, hne⟩
    refine ⟨hx, fun he => hne ?_⟩
    rw [he, hk] at hx
    rw [qlone hs hx h.mem]; exact h.mac
theorem qp_put {b n t : Int} {q c : Nat} {L : Rws} {d : Nat} {M : Rws} {P P' : QLP} {x0 x1 x2 : Int} (h : U.Qp b n t q c L d M P) (hi : U.qIn b n x1) (hn : U.qNo P x0) (hp : U.qlPut P x1 ⟨x0, x1, x2⟩ P') {q' c' d' : Nat} {L' M' : Rws} (h' : U.qlshI q' c' L' d' M' P') : U.Qp b n t q' c' L' d' M' P' := by
  refine ⟨h', h.i.b0, h.i.g, fun k v hx => ?_, fun k v k' v' hx hy he => ?_⟩
  · rcases (hp.mem k v).1 hx with ⟨rfl, rfl⟩ | ⟨hx, _⟩
    · exact ⟨rfl, hi.out.1, hi.out.2⟩
    · exact h.i.wf k v hx
  · rcases (hp.mem k v).1 hx with ⟨rfl, rfl⟩ | ⟨hx, _⟩ <;> rcases (hp.mem k' v').1 hy with ⟨rfl, rfl⟩ | ⟨hy, _⟩
    · rfl
    · exact (hn.out _ hy he.symm).elim
    · exact (hn.out _ hx he).elim
    · exact h.i.mac k v k' v' hx hy he
theorem qoffer_run (K : AV → St → Prop) (b n t : Int) (q c : Nat) (L : Rws) (d : Nat) (M : Rws) (P : QLP) (hQ : U.Qp b n t q c L d M P) (m now : Int) (hK : ∀ ip e : Int, U.qOff P b n m now ip e → K (erA ip e) (qpSt b n t q c L d M)) : runR (invQo P b n now) tQ2 12 [ptr 0 0, xi .u64 m, xi .i64 now] (qpSt b n t q c L d M) K := by
  have hn := qp_n hQ
  have g := hQ.i.g.out
  have g0 := hQ.i.b0
  rw [qoffer_vc]
  refine ⟨P, ⟨⟨⟨rfl, rfl, rfl⟩, rfl⟩, hQ⟩, fun k v0 v1 v2 h => hK v1 0 ⟨.inl ⟨k, v0, v1, v2, h, rfl, rfl⟩⟩, fun hno => ⟨?_, ?_⟩⟩
  · refine ⟨0, ?_⟩
    repeat' (first | exact rfl | with_reducible apply And.intro)
    exact ⟨by omega, by omega, fun s h1 h2 => by omega⟩
  rintro i ⟨i1, i2, i3⟩
  refine ⟨fun hi z7 h7 z8 h8 z9 h9 => ⟨P, ⟨⟨⟨rfl, rfl, rfl⟩, rfl⟩, hQ⟩, fun v0 v1 v2 hE => ⟨fun hle => ?_, fun hgt z14 h14 => ?_⟩, fun hno2 => ?_⟩, fun hi => hK 0 4 ⟨.inr ⟨hno, .inr ⟨rfl, fun r h1 h2 => i3 r h1 (by omega)⟩⟩⟩⟩
  all_goals
    have h7 := iwu h7 (by omega)
    have h8 := iwu h8 (by omega)
    have h9 := iwu h9 (by omega)
  · refine hK z9 0 ⟨.inr ⟨hno, .inl ⟨i, i1, hi, by omega, rfl, ?_, i3⟩⟩⟩
    rintro ⟨v, hv, hlt⟩
    have := qlone hQ.s.srt hv hE.out
    rw [this] at hlt
    dsimp only at hlt
    omega
  · have e14 := iw h14 (by omega)
    refine ⟨z14, ?_⟩
    repeat' (first | exact rfl | with_reducible apply And.intro)
    · refine ⟨by omega, by omega, fun s h1 h2 => ?_⟩
      by_cases hs : s = i
      · subst hs
        rw [show b + 1 + s = z9 by omega]
        exact ⟨_, hE.out, by dsimp only; omega⟩
      · exact i3 s h1 (by omega)
    · omega
  · refine hK z9 0 ⟨.inr ⟨hno, .inl ⟨i, i1, hi, by omega, rfl, ?_, i3⟩⟩⟩
    rintro ⟨v, hv, _⟩
    exact hno2 ⟨v, hv⟩
def pqoffer : Pat := fun args σ => match args with
  | [.inl (.inl (.inr (.inl (0, 0)))), a0, a1] => match aIntK .u64 a0, aInt a1, qpC σ with
    | some m, some now, some (b, n, t, q, c, L, d, M) => some fun K => ∃ P : QLP, (qpD σ ∧ U.Qp b n t q c L d M P) ∧ ∀ ip e : Int, U.qOff P b n m now ip e → K (erA ip e) (qpSt b n t q c L d M)
    | _, _, _ => none
  | _ => none
theorem pqoffer_ok : PatOk 12 pqoffer := by
  intro tm σ C h K hK w0 e w hk vs hvs
  unfold pqoffer at h
  split at h
  · split at h
    · rename_i h0 h1 hσ
      simp only [Option.some.injEq] at h; subst h
      obtain ⟨P, ⟨hd, hQ⟩, hP⟩ := hK
      obtain rfl := qpC_eq hσ hd
      obtain ⟨y0, y1, y2, rfl, q0, q1, q2⟩ := threes hvs
      exact knownC noOv names (conOk_ofR tQ2_ok) (qoffer_run K _ _ _ _ _ _ _ _ P hQ _ _ hP) w0 e w hk _ (map3 q0 (as_aIntK h0 q1) (as_aInt h1 q2))
    · cases h
  · cases h
theorem qfree_run (K : AV → St → Prop) (b n t : Int) (q c : Nat) (L : Rws) (d : Nat) (M : Rws) (P : QLP) (hQ : U.Qp b n t q c L d M P) (m : Int) (hK : (∀ (k v0 v1 v2 : Int) (P' : QLP) (q' : Nat) (L' M' : Rws), U.qHas P m k v0 v1 v2 → U.qRmv P m P' → U.Qp b n t q' c L' d M' P' → K (qlge v0 v1 v2 true) (qpS2 b n t q' c L' d M')) ∧ (U.qNo P m → K (qlge 0 0 0 false) (qpSt b n t q c L d M))) : runR inv0 tQ2 15 [ptr 0 0, xi .u64 m] (qpSt b n t q c L d M) K := by
  have hn := qp_n hQ
  rw [qfree_vc]
  refine ⟨P, ⟨⟨⟨rfl, rfl, rfl⟩, rfl⟩, hQ⟩, fun k v0 v1 v2 h => ⟨rfl, P, ⟨⟨rfl, rfl, rfl⟩, hQ.s, by omega⟩, fun z L' n' M' P' e1 e2 e3 e4 => ⟨rfl, ?_⟩⟩, hK.2⟩
  have hr := qrmv_of hQ.i hQ.s.srt h e3
  exact hK.1 k v0 v1 v2 P' n' L' M' h hr (qp_rmv hQ hr e4)
def pqfree : Pat := fun args σ => match args with
  | [.inl (.inl (.inr (.inl (0, 0)))), a0] => match aIntK .u64 a0, qpC σ with
    | some m, some (b, n, t, q, c, L, d, M) => some fun K => ∃ P : QLP, (qpD σ ∧ U.Qp b n t q c L d M P) ∧ (∀ (k v0 v1 v2 : Int) (P' : QLP) (q' : Nat) (L' M' : Rws), U.qHas P m k v0 v1 v2 → U.qRmv P m P' → U.Qp b n t q' c L' d M' P' → K (qlge v0 v1 v2 true) (qpS2 b n t q' c L' d M')) ∧ (U.qNo P m → K (qlge 0 0 0 false) (qpSt b n t q c L d M))
    | _, _ => none
  | _ => none
theorem pqfree_ok : PatOk 15 pqfree := by
  intro tm σ C h K hK w0 e w hk vs hvs
  unfold pqfree at h
  split at h
  · split at h
    · rename_i h0 hσ
      simp only [Option.some.injEq] at h; subst h
      obtain ⟨P, ⟨hd, hQ⟩, hP⟩ := hK
      obtain rfl := qpC_eq hσ hd
      obtain ⟨y0, y1, rfl, q0, q1⟩ := twos hvs
      exact knownC noOv names (conOk_ofR tQ2_ok) (qfree_run K _ _ _ _ _ _ _ _ P hQ _ hP) w0 e w hk _ (map2 q0 (as_aIntK h0 q1))
    · cases h
  · cases h
theorem qput_run (K : AV → St → Prop) (b n t : Int) (q c : Nat) (L : Rws) (d : Nat) (M : Rws) (P : QLP) (hQ : U.Qp b n t q c L d M P) (x0 x1 x2 : Int) (hp : (0 ≤ x1 ∧ x1 ≤ 4294967295)) (hK : (∀ e : Int, K (xi .i64 e) (qpSt b n t q c L d M)) ∧ (∀ (P' : QLP) (q' c' : Nat) (L' : Rws) (d' : Nat) (M' : Rws), U.qIn b n x1 → U.qNo P x0 → U.Qp b n t q' c' L' d' M' P' → K (xi .i64 0) (qpS2 b n t q' c' L' d' M'))) : runR inv0 tQ2 17 [ptr 0 0, .inl (.inr (qlC x0 x1 x2))] (qpSt b n t q c L d M) K := by
  have hn := qp_n hQ
  rw [qput_vc]
  refine ⟨P, ⟨⟨⟨rfl, rfl, rfl⟩, rfl⟩, hQ, hp.1, hp.2⟩, fun hi => ⟨P, ⟨⟨⟨rfl, rfl, rfl⟩, rfl⟩, hQ⟩, fun k v0 v1 v2 h => ⟨P, ⟨⟨⟨rfl, rfl, rfl⟩, rfl⟩, hQ⟩, fun v0 v1 v2 hE => hK.1 3, fun hno => hK.1 3⟩, fun hno => ⟨P, ⟨⟨⟨rfl, rfl, rfl⟩, rfl⟩, hQ⟩, fun v0 v1 v2 hE => hK.1 3, fun hno2 => ⟨P, ⟨⟨rfl, rfl, rfl⟩, hQ.s, by omega⟩, fun hroom L' n' c' M' d' P' e1 e2 e3 => ?_, fun hfull => ?_⟩⟩⟩, fun hi => hK.1 7⟩
  · exact ⟨rfl, rfl, rfl, rfl, hK.2 P' n' c' L' d' M' hi hno (qp_put hQ hi hno e2 e3)⟩
  · exact ⟨rfl, rfl, rfl, rfl, hK.1 4⟩
def pqput : Pat := fun args σ => match args with
  | [.inl (.inl (.inr (.inl (0, 0)))), a0] => match aLe a0, qpC σ with
    | some (x0, x1, x2), some (b, n, t, q, c, L, d, M) => some fun K => ∃ P : QLP, (qpD σ ∧ U.Qp b n t q c L d M P ∧ (0 ≤ x1 ∧ x1 ≤ 4294967295)) ∧ (∀ e : Int, K (xi .i64 e) (qpSt b n t q c L d M)) ∧ (∀ (P' : QLP) (q' c' : Nat) (L' : Rws) (d' : Nat) (M' : Rws), U.qIn b n x1 → U.qNo P x0 → U.Qp b n t q' c' L' d' M' P' → K (xi .i64 0) (qpS2 b n t q' c' L' d' M'))
    | _, _ => none
  | _ => none
theorem pqput_ok : PatOk 17 pqput := by
  intro tm σ C h K hK w0 e w hk vs hvs
  unfold pqput at h
  split at h
  · split at h
    · rename_i h0 hσ
      simp only [Option.some.injEq] at h; subst h
      obtain ⟨P, ⟨hd, hQ, hp⟩, hP⟩ := hK
      obtain rfl := qpC_eq hσ hd
      obtain ⟨y0, y1, rfl, q0, q1⟩ := twos hvs
      exact knownC noOv names (conOk_ofR tQ2_ok) (qput_run K _ _ _ _ _ _ _ _ P hQ _ _ _ hp hP) w0 e w hk _ (map2 q0 (as_aLe h0 q1))
    · cases h
  · cases h
def tQ4 : Tbl := tblOr (tblIf 12 pqoffer) (tblOr (tblIf 15 pqfree) (tblOr (tblIf 17 pqput) tQ2))
theorem tQ4_ok : TblOk Try.prog tQ4 := tblOr_ok (tblIf_ok pqoffer_ok) (tblOr_ok (tblIf_ok pqfree_ok) (tblOr_ok (tblIf_ok pqput_ok) tQ2_ok))
end Go.Proofs.Ytbifilonmkaonaa
end

section
namespace Go.Proofs.Ytbifilonmkaonaa
open Go Reck Ost
set_option linter.unusedVariables false
set_option maxRecDepth 100000
--PLAIN
theorem qgrant_vc (K : AV → St → Prop) (b n t : Int) (q c : Nat) (L : Rws) (d : Nat) (M : Rws) (m ip now : Int) : (runR inv0 tQ4 13 [ptr 0 0, xi .u64 m, xi .u32 ip, xi .i64 now] (qpSt b n t q c L d M) K) = (∃ (y0 : QLP), (((c = c ∧ d = d ∧ q = q) ∧ n = n) ∧ U.Qp b n t q c L d M y0 ∧ (0 : Int) ≤ ip ∧ ip ≤ (4294967295 : Int)) ∧ (U.qIn b n ip → ∃ (y1 : QLP), (((c = c ∧ d = d ∧ q = q) ∧ n = n) ∧ U.Qp b n t q c L d M y1) ∧ (∀ (v02 v13 v24 : Int), U.qlHasE y1 ip v02 v13 v24 → (¬v02 = m → (v24 ≤ now → ∃ (y5 : QLP), (((c = c ∧ d = d ∧ q = q) ∧ n = n) ∧ U.Qp b n t q c L d M y5) ∧ (∀ (k6 v07 v18 v29 : Int) (P'10 : QLP) (q'11 : Nat) (L'12 M'13 : Rws), U.qHas y5 m k6 v07 v18 v29 → U.qRmv y5 m P'10 → U.Qp b n t q'11 c L'12 d M'13 P'10 → ∀ (z14 : Int), z14 = IntKind.wrap IntKind.i64 (now + t) → ∃ (y15 : QLP), ((c = c ∧ d = d ∧ q'11 = q'11) ∧ U.qlshI q'11 c L'12 d M'13 y15 ∧ q'11 ≤ (100000 : Nat)) ∧ (U.qlRoom y15 ip n → ∀ (L'16 : Rws) (n'17 c'18 : Nat) (M'19 : Rws) (d'20 : Nat) (P'21 : QLP), n'17 = U.qllen P'21 → U.qlPut y15 ip { v0 := m, v1 := ip, v2 := z14 } P'21 → U.qlshI n'17 c'18 L'16 d'20 M'19 P'21 → K (Sum.inr [Sum.inl (Sum.inr (Sum.inr (Sum.inr (Sum.inr (Sum.inr (Sum.inr (Sum.inl (IntKind.i64, z14)))))))), Sum.inl (Sum.inr (Sum.inr (Sum.inr (Sum.inr (Sum.inr (Sum.inr (Sum.inl (IntKind.i64, (0 : Int)))))))))]) { heap := [some { elem := nat_lit 57, cells := [Sum.inr (Sum.inr (Sum.inr (Sum.inr (Sum.inr (Sum.inr (Sum.inl (IntKind.u32, b))))))), Sum.inr (Sum.inr (Sum.inr (Sum.inr (Sum.inr (Sum.inr (Sum.inl (IntKind.i64, n))))))), Sum.inr (Sum.inr (Sum.inr (Sum.inr (Sum.inr (Sum.inr (Sum.inl (IntKind.i64, t))))))), Sum.inr (Sum.inl ((1 : Nat), (0 : Nat)))], j := none, c := (4 : Nat), z := false }, some { elem := nat_lit 82, cells := [Sum.inr (Sum.inr (Sum.inr (Sum.inr (Sum.inr (Sum.inr (Sum.inr (Sum.inr (Sum.inr (Sum.inr (Sum.inr (Sum.inl { a := (2 : Nat), u := (1 : Nat), o := (0 : Nat), n := n'17, c := c'18 }))))))))))), Sum.inr (Sum.inr (Sum.inr (Sum.inr (Sum.inr (Sum.inr (Sum.inr (Sum.inr (Sum.inr (Sum.inr (Sum.inr (Sum.inl { a := (3 : Nat), u := (3 : Nat), o := (0 : Nat), n := n'17, c := d'20 }))))))))))), Sum.inr (Sum.inr (Sum.inr (Sum.inr (Sum.inr (Sum.inr (Sum.inl (IntKind.i64, n)))))))], j := none, c := (3 : Nat), z := false }], ints := [], opqs := (0 : Nat), arrs := [none, none, some { elem := (28 : Nat), k := AK.o (Obj.rows [CK.n IntKind.u32] L'16), l := [], cap := c'18, ro := false }, some { elem := (41 : TypeId), k := AK.o (Obj.rows [CK.n IntKind.u64, CK.n IntKind.u32, CK.n IntKind.i64] M'19), l := [], cap := d'20, ro := false }], junks := (0 : Nat) }) ∧ (¬U.qlRoom y15 ip n → K (Sum.inr [Sum.inl (Sum.inr (Sum.inr (Sum.inr (Sum.inr (Sum.inr (Sum.inr (Sum.inl (IntKind.i64, z14)))))))), Sum.inl (Sum.inr (Sum.inr (Sum.inr (Sum.inr (Sum.inr (Sum.inr (Sum.inl (IntKind.i64, (0 : Int)))))))))]) { heap := [some { elem := nat_lit 57, cells := [Sum.inr (Sum.inr (Sum.inr (Sum.inr (Sum.inr (Sum.inr (Sum.inl (IntKind.u32, b))))))), Sum.inr (Sum.inr (Sum.inr (Sum.inr (Sum.inr (Sum.inr (Sum.inl (IntKind.i64, n))))))), Sum.inr (Sum.inr (Sum.inr (Sum.inr (Sum.inr (Sum.inr (Sum.inl (IntKind.i64, t))))))), Sum.inr (Sum.inl ((1 : Nat), (0 : Nat)))], j := none, c := (4 : Nat), z := false }, some { elem := nat_lit 82, cells := [Sum.inr (Sum.inr (Sum.inr (Sum.inr (Sum.inr (Sum.inr (Sum.inr (Sum.inr (Sum.inr (Sum.inr (Sum.inr (Sum.inl { a := (2 : Nat), u := (1 : Nat), o := (0 : Nat), n := q'11, c := c }))))))))))), Sum.inr (Sum.inr (Sum.inr (Sum.inr (Sum.inr (Sum.inr (Sum.inr (Sum.inr (Sum.inr (Sum.inr (Sum.inr (Sum.inl { a := (3 : Nat), u := (3 : Nat), o := (0 : Nat), n := q'11, c := d }))))))))))), Sum.inr (Sum.inr (Sum.inr (Sum.inr (Sum.inr (Sum.inr (Sum.inl (IntKind.i64, n)))))))], j := none, c := (3 : Nat), z := false }], ints := [], opqs := (0 : Nat), arrs := [none, none, some { elem := (28 : Nat), k := AK.o (Obj.rows [CK.n IntKind.u32] L'12), l := [], cap := c, ro := false }, some { elem := (41 : TypeId), k := AK.o (Obj.rows [CK.n IntKind.u64, CK.n IntKind.u32, CK.n IntKind.i64] M'13), l := [], cap := d, ro := false }], junks := (0 : Nat) })) ∧ (U.qNo y5 m → ∀ (z22 : Int), z22 = IntKind.wrap IntKind.i64 (now + t) → ∃ (y23 : QLP), ((c = c ∧ d = d ∧ q = q) ∧ U.qlshI q c L d M y23 ∧ q ≤ (100000 : Nat)) ∧ (U.qlRoom y23 ip n → ∀ (L'24 : Rws) (n'25 c'26 : Nat) (M'27 : Rws) (d'28 : Nat) (P'29 : QLP), n'25 = U.qllen P'29 → U.qlPut y23 ip { v0 := m, v1 := ip, v2 := z22 } P'29 → U.qlshI n'25 c'26 L'24 d'28 M'27 P'29 → K (Sum.inr [Sum.inl (Sum.inr (Sum.inr (Sum.inr (Sum.inr (Sum.inr (Sum.inr (Sum.inl (IntKind.i64, z22)))))))), Sum.inl (Sum.inr (Sum.inr (Sum.inr (Sum.inr (Sum.inr (Sum.inr (Sum.inl (IntKind.i64, (0 : Int)))))))))]) { heap := [some { elem := nat_lit 57, cells := [Sum.inr (Sum.inr (Sum.inr (Sum.inr (Sum.inr (Sum.inr (Sum.inl (IntKind.u32, b))))))), Sum.inr (Sum.inr (Sum.inr (Sum.inr (Sum.inr (Sum.inr (Sum.inl (IntKind.i64, n))))))), Sum.inr (Sum.inr (Sum.inr (Sum.inr (Sum.inr (Sum.inr (Sum.inl (IntKind.i64, t))))))), Sum.inr (Sum.inl ((1 : Nat), (0 : Nat)))], j := none, c := (4 : Nat), z := false }, some { elem := nat_lit 82, cells := [Sum.inr (Sum.inr (Sum.inr (Sum.inr (Sum.inr (Sum.inr (Sum.inr (Sum.inr (Sum.inr (Sum.inr (Sum.inr (Sum.inl { a := (2 : Nat), u := (1 : Nat), o := (0 : Nat), n := n'25, c := c'26 }))))))))))), Sum.inr (Sum.inr (Sum.inr (Sum.inr (Sum.inr (Sum.inr (Sum.inr (Sum.inr (Sum.inr (Sum.inr (Sum.inr (Sum.inl { a := (3 : Nat), u := (3 : Nat), o := (0 : Nat), n := n'25, c := d'28 }))))))))))), Sum.inr (Sum.inr (Sum.inr (Sum.inr (Sum.inr (Sum.inr (Sum.inl (IntKind.i64, n)))))))], j := none, c := (3 : Nat), z := false }], ints := [], opqs := (0 : Nat), arrs := [none, none, some { elem := (28 : Nat), k := AK.o (Obj.rows [CK.n IntKind.u32] L'24), l := [], cap := c'26, ro := false }, some { elem := (41 : TypeId), k := AK.o (Obj.rows [CK.n IntKind.u64, CK.n IntKind.u32, CK.n IntKind.i64] M'27), l := [], cap := d'28, ro := false }], junks := (0 : Nat) }) ∧ (¬U.qlRoom y23 ip n → K (Sum.inr [Sum.inl (Sum.inr (Sum.inr (Sum.inr (Sum.inr (Sum.inr (Sum.inr (Sum.inl (IntKind.i64, z22)))))))), Sum.inl (Sum.inr (Sum.inr (Sum.inr (Sum.inr (Sum.inr (Sum.inr (Sum.inl (IntKind.i64, (0 : Int)))))))))]) { heap := [some { elem := nat_lit 57, cells := [Sum.inr (Sum.inr (Sum.inr (Sum.inr (Sum.inr (Sum.inr (Sum.inl (IntKind.u32, b))))))), Sum.inr (Sum.inr (Sum.inr (Sum.inr (Sum.inr (Sum.inr (Sum.inl (IntKind.i64, n))))))), Sum.inr (Sum.inr (Sum.inr (Sum.inr (Sum.inr (Sum.inr (Sum.inl (IntKind.i64, t))))))), Sum.inr (Sum.inl ((1 : Nat), (0 : Nat)))], j := none, c := (4 : Nat), z := false }, some { elem := nat_lit 82, cells := [Sum.inr (Sum.inr (Sum.inr (Sum.inr (Sum.inr (Sum.inr (Sum.inr (Sum.inr (Sum.inr (Sum.inr (Sum.inr (Sum.inl { a := (0 : Nat), u := (1 : Nat), o := (0 : Nat), n := q, c := c }))))))))))), Sum.inr (Sum.inr (Sum.inr (Sum.inr (Sum.inr (Sum.inr (Sum.inr (Sum.inr (Sum.inr (Sum.inr (Sum.inr (Sum.inl { a := (1 : Nat), u := (3 : Nat), o := (0 : Nat), n := q, c := d }))))))))))), Sum.inr (Sum.inr (Sum.inr (Sum.inr (Sum.inr (Sum.inr (Sum.inl (IntKind.i64, n)))))))], j := none, c := (3 : Nat), z := false }], ints := [], opqs := (0 : Nat), arrs := [some { elem := (28 : Nat), k := AK.o (Obj.rows [CK.n IntKind.u32] L), l := [], cap := c, ro := false }, some { elem := (41 : TypeId), k := AK.o (Obj.rows [CK.n IntKind.u64, CK.n IntKind.u32, CK.n IntKind.i64] M), l := [], cap := d, ro := false }], junks := (0 : Nat) }))) ∧ (¬v24 ≤ now → K (Sum.inr [Sum.inl (Sum.inr (Sum.inr (Sum.inr (Sum.inr (Sum.inr (Sum.inr (Sum.inl (IntKind.i64, (0 : Int))))))))), Sum.inl (Sum.inr (Sum.inr (Sum.inr (Sum.inr (Sum.inr (Sum.inr (Sum.inl (IntKind.i64, (3 : Int)))))))))]) { heap := [some { elem := nat_lit 57, cells := [Sum.inr (Sum.inr (Sum.inr (Sum.inr (Sum.inr (Sum.inr (Sum.inl (IntKind.u32, b))))))), Sum.inr (Sum.inr (Sum.inr (Sum.inr (Sum.inr (Sum.inr (Sum.inl (IntKind.i64, n))))))), Sum.inr (Sum.inr (Sum.inr (Sum.inr (Sum.inr (Sum.inr (Sum.inl (IntKind.i64, t))))))), Sum.inr (Sum.inl ((1 : Nat), (0 : Nat)))], j := none, c := (4 : Nat), z := false }, some { elem := nat_lit 82, cells := [Sum.inr (Sum.inr (Sum.inr (Sum.inr (Sum.inr (Sum.inr (Sum.inr (Sum.inr (Sum.inr (Sum.inr (Sum.inr (Sum.inl { a := (0 : Nat), u := (1 : Nat), o := (0 : Nat), n := q, c := c }))))))))))), Sum.inr (Sum.inr (Sum.inr (Sum.inr (Sum.inr (Sum.inr (Sum.inr (Sum.inr (Sum.inr (Sum.inr (Sum.inr (Sum.inl { a := (1 : Nat), u := (3 : Nat), o := (0 : Nat), n := q, c := d }))))))))))), Sum.inr (Sum.inr (Sum.inr (Sum.inr (Sum.inr (Sum.inr (Sum.inl (IntKind.i64, n)))))))], j := none, c := (3 : Nat), z := false }], ints := [], opqs := (0 : Nat), arrs := [some { elem := (28 : Nat), k := AK.o (Obj.rows [CK.n IntKind.u32] L), l := [], cap := c, ro := false }, some { elem := (41 : Nat), k := AK.o (Obj.rows [CK.n IntKind.u64, CK.n IntKind.u32, CK.n IntKind.i64] M), l := [], cap := d, ro := false }], junks := (0 : Nat) })) ∧ (¬¬v02 = m → ∃ (y30 : QLP), (((c = c ∧ d = d ∧ q = q) ∧ n = n) ∧ U.Qp b n t q c L d M y30) ∧ (∀ (k31 v032 v133 v234 : Int) (P'35 : QLP) (q'36 : Nat) (L'37 M'38 : Rws), U.qHas y30 m k31 v032 v133 v234 → U.qRmv y30 m P'35 → U.Qp b n t q'36 c L'37 d M'38 P'35 → ∀ (z39 : Int), z39 = IntKind.wrap IntKind.i64 (now + t) → ∃ (y40 : QLP), ((c = c ∧ d = d ∧ q'36 = q'36) ∧ U.qlshI q'36 c L'37 d M'38 y40 ∧ q'36 ≤ (100000 : Nat)) ∧ (U.qlRoom y40 ip n → ∀ (L'41 : Rws) (n'42 c'43 : Nat) (M'44 : Rws) (d'45 : Nat) (P'46 : QLP), n'42 = U.qllen P'46 → U.qlPut y40 ip { v0 := m, v1 := ip, v2 := z39 } P'46 → U.qlshI n'42 c'43 L'41 d'45 M'44 P'46 → K (Sum.inr [Sum.inl (Sum.inr (Sum.inr (Sum.inr (Sum.inr (Sum.inr (Sum.inr (Sum.inl (IntKind.i64, z39)))))))), Sum.inl (Sum.inr (Sum.inr (Sum.inr (Sum.inr (Sum.inr (Sum.inr (Sum.inl (IntKind.i64, (0 : Int)))))))))]) { heap := [some { elem := nat_lit 57, cells := [Sum.inr (Sum.inr (Sum.inr (Sum.inr (Sum.inr (Sum.inr (Sum.inl (IntKind.u32, b))))))), Sum.inr (Sum.inr (Sum.inr (Sum.inr (Sum.inr (Sum.inr (Sum.inl (IntKind.i64, n))))))), Sum.inr (Sum.inr (Sum.inr (Sum.inr (Sum.inr (Sum.inr (Sum.inl (IntKind.i64, t))))))), Sum.inr (Sum.inl ((1 : Nat), (0 : Nat)))], j := none, c := (4 : Nat), z := false }, some { elem := nat_lit 82, cells := [Sum.inr (Sum.inr (Sum.inr (Sum.inr (Sum.inr (Sum.inr (Sum.inr (Sum.inr (Sum.inr (Sum.inr (Sum.inr (Sum.inl { a := (2 : Nat), u := (1 : Nat), o := (0 : Nat), n := n'42, c := c'43 }))))))))))), Sum.inr (Sum.inr (Sum.inr (Sum.inr (Sum.inr (Sum.inr (Sum.inr (Sum.inr (Sum.inr (Sum.inr (Sum.inr (Sum.inl { a := (3 : Nat), u := (3 : Nat), o := (0 : Nat), n := n'42, c := d'45 }))))))))))), Sum.inr (Sum.inr (Sum.inr (Sum.inr (Sum.inr (Sum.inr (Sum.inl (IntKind.i64, n)))))))], j := none, c := (3 : Nat), z := false }], ints := [], opqs := (0 : Nat), arrs := [none, none, some { elem := (28 : Nat), k := AK.o (Obj.rows [CK.n IntKind.u32] L'41), l := [], cap := c'43, ro := false }, some { elem := (41 : TypeId), k := AK.o (Obj.rows [CK.n IntKind.u64, CK.n IntKind.u32, CK.n IntKind.i64] M'44), l := [], cap := d'45, ro := false }], junks := (0 : Nat) }) ∧ (¬U.qlRoom y40 ip n → K (Sum.inr [Sum.inl (Sum.inr (Sum.inr (Sum.inr (Sum.inr (Sum.inr (Sum.inr (Sum.inl (IntKind.i64, z39)))))))), Sum.inl (Sum.inr (Sum.inr (Sum.inr (Sum.inr (Sum.inr (Sum.inr (Sum.inl (IntKind.i64, (0 : Int)))))))))]) { heap := [some { elem := nat_lit 57, cells := [Sum.inr (Sum.inr (Sum.inr (Sum.inr (Sum.inr (Sum.inr (Sum.inl (IntKind.u32, b))))))), Sum.inr (Sum.inr (Sum.inr (Sum.inr (Sum.inr (Sum.inr (Sum.inl (IntKind.i64, n))))))), Sum.inr (Sum.inr (Sum.inr (Sum.inr (Sum.inr (Sum.inr (Sum.inl (IntKind.i64, t))))))), Sum.inr (Sum.inl ((1 : Nat), (0 : Nat)))], j := none, c := (4 : Nat), z := false }, some { elem := nat_lit 82, cells := [Sum.inr (Sum.inr (Sum.inr (Sum.inr (Sum.inr (Sum.inr (Sum.inr (Sum.inr (Sum.inr (Sum.inr (Sum.inr (Sum.inl { a := (2 : Nat), u := (1 : Nat), o := (0 : Nat), n := q'36, c := c }))))))))))), Sum.inr (Sum.inr (Sum.inr (Sum.inr (Sum.inr (Sum.inr (Sum.inr (Sum.inr (Sum.inr (Sum.inr (Sum.inr (Sum.inl { a := (3 : Nat), u := (3 : Nat), o := (0 : Nat), n := q'36, c := d }))))))))))), Sum.inr (Sum.inr (Sum.inr (Sum.inr (Sum.inr (Sum.inr (Sum.inl (IntKind.i64, n)))))))], j := none, c := (3 : Nat), z := false }], ints := [], opqs := (0 : Nat), arrs := [none, none, some { elem := (28 : Nat), k := AK.o (Obj.rows [CK.n IntKind.u32] L'37), l := [], cap := c, ro := false }, some { elem := (41 : TypeId), k := AK.o (Obj.rows [CK.n IntKind.u64, CK.n IntKind.u32, CK.n IntKind.i64] M'38), l := [], cap := d, ro := false }], junks := (0 : Nat) })) ∧ (U.qNo y30 m → ∀ (z47 : Int), z47 = IntKind.wrap IntKind.i64 (now + t) → ∃ (y48 : QLP), ((c = c ∧ d = d ∧ q = q) ∧ U.qlshI q c L d M y48 ∧ q ≤ (100000 : Nat)) ∧ (U.qlRoom y48 ip n → ∀ (L'49 : Rws) (n'50 c'51 : Nat) (M'52 : Rws) (d'53 : Nat) (P'54 : QLP), n'50 = U.qllen P'54 → U.qlPut y48 ip { v0 := m, v1 := ip, v2 := z47 } P'54 → U.qlshI n'50 c'51 L'49 d'53 M'52 P'54 → K (Sum.inr [Sum.inl (Sum.inr (Sum.inr (Sum.inr (Sum.inr (Sum.inr (Sum.inr (Sum.inl (IntKind.i64, z47)))))))), Sum.inl (Sum.inr (Sum.inr (Sum.inr (Sum.inr (Sum.inr (Sum.inr (Sum.inl (IntKind.i64, (0 : Int)))))))))]) { heap := [some { elem := nat_lit 57, cells := [Sum.inr (Sum.inr (Sum.inr (Sum.inr (Sum.inr (Sum.inr (Sum.inl (IntKind.u32, b))))))), Sum.inr (Sum.inr (Sum.inr (Sum.inr (Sum.inr (Sum.inr (Sum.inl (IntKind.i64, n))))))), Sum.inr (Sum.inr (Sum.inr (Sum.inr (Sum.inr (Sum.inr (Sum.inl (IntKind.i64, t))))))), Sum.inr (Sum.inl ((1 : Nat), (0 : Nat)))], j := none, c := (4 : Nat), z := false }, some { elem := nat_lit 82, cells := [Sum.inr (Sum.inr (Sum.inr (Sum.inr (Sum.inr (Sum.inr (Sum.inr (Sum.inr (Sum.inr (Sum.inr (Sum.inr (Sum.inl { a := (2 : Nat), u := (1 : Nat), o := (0 : Nat), n := n'50, c := c'51 }))))))))))), Sum.inr (Sum.inr (Sum.inr (Sum.inr (Sum.inr (Sum.inr (Sum.inr (Sum.inr (Sum.inr (Sum.inr (Sum.inr (Sum.inl { a := (3 : Nat), u := (3 : Nat), o := (0 : Nat), n := n'50, c := d'53 }))))))))))), Sum.inr (Sum.inr (Sum.inr (Sum.inr (Sum.inr (Sum.inr (Sum.inl (IntKind.i64, n)))))))], j := none, c := (3 : Nat), z := false }], ints := [], opqs := (0 : Nat), arrs := [none, none, some { elem := (28 : Nat), k := AK.o (Obj.rows [CK.n IntKind.u32] L'49), l := [], cap := c'51, ro := false }, some { elem := (41 : TypeId), k := AK.o (Obj.rows [CK.n IntKind.u64, CK.n IntKind.u32, CK.n IntKind.i64] M'52), l := [], cap := d'53, ro := false }], junks := (0 : Nat) }) ∧ (¬U.qlRoom y48 ip n → K (Sum.inr [Sum.inl (Sum.inr (Sum.inr (Sum.inr (Sum.inr (Sum.inr (Sum.inr (Sum.inl (IntKind.i64, z47)))))))), Sum.inl (Sum.inr (Sum.inr (Sum.inr (Sum.inr (Sum.inr (Sum.inr (Sum.inl (IntKind.i64, (0 : Int)))))))))]) { heap := [some { elem := nat_lit 57, cells := [Sum.inr (Sum.inr (Sum.inr (Sum.inr (Sum.inr (Sum.inr (Sum.inl (IntKind.u32, b))))))), Sum.inr (Sum.inr (Sum.inr (Sum.inr (Sum.inr (Sum.inr (Sum.inl (IntKind.i64, n))))))), Sum.inr (Sum.inr (Sum.inr (Sum.inr (Sum.inr (Sum.inr (Sum.inl (IntKind.i64, t))))))), Sum.inr (Sum.inl ((1 : Nat), (0 : Nat)))], j := none, c := (4 : Nat), z := false }, some { elem := nat_lit 82, cells := [Sum.inr (Sum.inr (Sum.inr (Sum.inr (Sum.inr (Sum.inr (Sum.inr (Sum.inr (Sum.inr (Sum.inr (Sum.inr (Sum.inl { a := (0 : Nat), u := (1 : Nat), o := (0 : Nat), n := q, c := c }))))))))))), Sum.inr (Sum.inr (Sum.inr (Sum.inr (Sum.inr (Sum.inr (Sum.inr (Sum.inr (Sum.inr (Sum.inr (Sum.inr (Sum.inl { a := (1 : Nat), u := (3 : Nat), o := (0 : Nat), n := q, c := d }))))))))))), Sum.inr (Sum.inr (Sum.inr (Sum.inr (Sum.inr (Sum.inr (Sum.inl (IntKind.i64, n)))))))], j := none, c := (3 : Nat), z := false }], ints := [], opqs := (0 : Nat), arrs := [some { elem := (28 : Nat), k := AK.o (Obj.rows [CK.n IntKind.u32] L), l := [], cap := c, ro := false }, some { elem := (41 : TypeId), k := AK.o (Obj.rows [CK.n IntKind.u64, CK.n IntKind.u32, CK.n IntKind.i64] M), l := [], cap := d, ro := false }], junks := (0 : Nat) })))) ∧ (¬U.qlHasK y1 ip → ∃ (y55 : QLP), (((c = c ∧ d = d ∧ q = q) ∧ n = n) ∧ U.Qp b n t q c L d M y55) ∧ (∀ (k56 v057 v158 v259 : Int) (P'60 : QLP) (q'61 : Nat) (L'62 M'63 : Rws), U.qHas y55 m k56 v057 v158 v259 → U.qRmv y55 m P'60 → U.Qp b n t q'61 c L'62 d M'63 P'60 → ∀ (z64 : Int), z64 = IntKind.wrap IntKind.i64 (now + t) → ∃ (y65 : QLP), ((c = c ∧ d = d ∧ q'61 = q'61) ∧ U.qlshI q'61 c L'62 d M'63 y65 ∧ q'61 ≤ (100000 : Nat)) ∧ (U.qlRoom y65 ip n → ∀ (L'66 : Rws) (n'67 c'68 : Nat) (M'69 : Rws) (d'70 : Nat) (P'71 : QLP), n'67 = U.qllen P'71 → U.qlPut y65 ip { v0 := m, v1 := ip, v2 := z64 } P'71 → U.qlshI n'67 c'68 L'66 d'70 M'69 P'71 → K (Sum.inr [Sum.inl (Sum.inr (Sum.inr (Sum.inr (Sum.inr (Sum.inr (Sum.inr (Sum.inl (IntKind.i64, z64)))))))), Sum.inl (Sum.inr (Sum.inr (Sum.inr (Sum.inr (Sum.inr (Sum.inr (Sum.inl (IntKind.i64, (0 : Int)))))))))]) { heap := [some { elem := nat_lit 57, cells := [Sum.inr (Sum.inr (Sum.inr (Sum.inr (Sum.inr (Sum.inr (Sum.inl (IntKind.u32, b))))))), Sum.inr (Sum.inr (Sum.inr (Sum.inr (Sum.inr (Sum.inr (Sum.inl (IntKind.i64, n))))))), Sum.inr (Sum.inr (Sum.inr (Sum.inr (Sum.inr (Sum.inr (Sum.inl (IntKind.i64, t))))))), Sum.inr (Sum.inl ((1 : Nat), (0 : Nat)))], j := none, c := (4 : Nat), z := false }, some { elem := nat_lit 82, cells := [Sum.inr (Sum.inr (Sum.inr (Sum.inr (Sum.inr (Sum.inr (Sum.inr (Sum.inr (Sum.inr (Sum.inr (Sum.inr (Sum.inl { a := (2 : Nat), u := (1 : Nat), o := (0 : Nat), n := n'67, c := c'68 }))))))))))), Sum.inr (Sum.inr (Sum.inr (Sum.inr (Sum.inr (Sum.inr (Sum.inr (Sum.inr (Sum.inr (Sum.inr (Sum.inr (Sum.inl { a := (3 : Nat), u := (3 : Nat), o := (0 : Nat), n := n'67, c := d'70 }))))))))))), Sum.inr (Sum.inr (Sum.inr (Sum.inr (Sum.inr (Sum.inr (Sum.inl (IntKind.i64, n)))))))], j := none, c := (3 : Nat), z := false }], ints := [], opqs := (0 : Nat), arrs := [none, none, some { elem := (28 : Nat), k := AK.o (Obj.rows [CK.n IntKind.u32] L'66), l := [], cap := c'68, ro := false }, some { elem := (41 : TypeId), k := AK.o (Obj.rows [CK.n IntKind.u64, CK.n IntKind.u32, CK.n IntKind.i64] M'69), l := [], cap := d'70, ro := false }], junks := (0 : Nat) }) ∧ (¬U.qlRoom y65 ip n → K (Sum.inr [Sum.inl (Sum.inr (Sum.inr (Sum.inr (Sum.inr (Sum.inr (Sum.inr (Sum.inl (IntKind.i64, z64)))))))), Sum.inl (Sum.inr (Sum.inr (Sum.inr (Sum.inr (Sum.inr (Sum.inr (Sum.inl (IntKind.i64, (0 : Int)))))))))]) { heap := [some { elem := nat_lit 57, cells := [Sum.inr (Sum.inr (Sum.inr (Sum.inr (Sum.inr (Sum.inr (Sum.inl (IntKind.u32, b))))))), Sum.inr (Sum.inr (Sum.inr (Sum.inr (Sum.inr (Sum.inr (Sum.inl (IntKind.i64, n))))))), Sum.inr (Sum.inr (Sum.inr (Sum.inr (Sum.inr (Sum.inr (Sum.inl (IntKind.i64, t))))))), Sum.inr (Sum.inl ((1 : Nat), (0 : Nat)))], j := none, c := (4 : Nat), z := false }, some { elem := nat_lit 82, cells := [Sum.inr (Sum.inr (Sum.inr (Sum.inr (Sum.inr (Sum.inr (Sum.inr (Sum.inr (Sum.inr (Sum.inr (Sum.inr (Sum.inl { a := (2 : Nat), u := (1 : Nat), o := (0 : Nat), n := q'61, c := c }))))))))))), Sum.inr (Sum.inr (Sum.inr (Sum.inr (Sum.inr (Sum.inr (Sum.inr (Sum.inr (Sum.inr (Sum.inr (Sum.inr (Sum.inl { a := (3 : Nat), u := (3 : Nat), o := (0 : Nat), n := q'61, c := d }))))))))))), Sum.inr (Sum.inr (Sum.inr (Sum.inr (Sum.inr (Sum.inr (Sum.inl (IntKind.i64, n)))))))], j := none, c := (3 : Nat), z := false }], ints := [], opqs := (0 : Nat), arrs := [none, none, some { elem := (28 : Nat), k := AK.o (Obj.rows [CK.n IntKind.u32] L'62), l := [], cap := c, ro := false }, some { elem := (41 : TypeId), k := AK.o (Obj.rows [CK.n IntKind.u64, CK.n IntKind.u32, CK.n IntKind.i64] M'63), l := [], cap := d, ro := false }], junks := (0 : Nat) })) ∧ (U.qNo y55 m → ∀ (z72 : Int), z72 = IntKind.wrap IntKind.i64 (now + t) → ∃ (y73 : QLP), ((c = c ∧ d = d ∧ q = q) ∧ U.qlshI q c L d M y73 ∧ q ≤ (100000 : Nat)) ∧ (U.qlRoom y73 ip n → ∀ (L'74 : Rws) (n'75 c'76 : Nat) (M'77 : Rws) (d'78 : Nat) (P'79 : QLP), n'75 = U.qllen P'79 → U.qlPut y73 ip { v0 := m, v1 := ip, v2 := z72 } P'79 → U.qlshI n'75 c'76 L'74 d'78 M'77 P'79 → K (Sum.inr [Sum.inl (Sum.inr (Sum.inr (Sum.inr (Sum.inr (Sum.inr (Sum.inr (Sum.inl (IntKind.i64, z72)))))))), Sum.inl (Sum.inr (Sum.inr (Sum.inr (Sum.inr (Sum.inr (Sum.inr (Sum.inl (IntKind.i64, (0 : Int)))))))))]) { heap := [some { elem := nat_lit 57, cells := [Sum.inr (Sum.inr (Sum.inr (Sum.inr (Sum.inr (Sum.inr (Sum.inl (IntKind.u32, b))))))), Sum.inr (Sum.inr (Sum.inr (Sum.inr (Sum.inr (Sum.inr (Sum.inl (IntKind.i64, n))))))), Sum.inr (Sum.inr (Sum.inr (Sum.inr (Sum.inr (Sum.inr (Sum.inl (IntKind.i64, t))))))), Sum.inr (Sum.inl ((1 : Nat), (0 : Nat)))], j := none, c := (4 : Nat), z := false }, some { elem := nat_lit 82, cells := [Sum.inr (Sum.inr (Sum.inr (Sum.inr (Sum.inr (Sum.inr (Sum.inr (Sum.inr (Sum.inr (Sum.inr (Sum.inr (Sum.inl { a := (2 : Nat), u := (1 : Nat), o := (0 : Nat), n := n'75, c := c'76 }))))))))))), Sum.inr (Sum.inr (Sum.inr (Sum.inr (Sum.inr (Sum.inr (Sum.inr (Sum.inr (Sum.inr (Sum.inr (Sum.inr (Sum.inl { a := (3 : Nat), u := (3 : Nat), o := (0 : Nat), n := n'75, c := d'78 }))))))))))), Sum.inr (Sum.inr (Sum.inr (Sum.inr (Sum.inr (Sum.inr (Sum.inl (IntKind.i64, n)))))))], j := none, c := (3 : Nat), z := false }], ints := [], opqs := (0 : Nat), arrs := [none, none, some { elem := (28 : Nat), k := AK.o (Obj.rows [CK.n IntKind.u32] L'74), l := [], cap := c'76, ro := false }, some { elem := (41 : TypeId), k := AK.o (Obj.rows [CK.n IntKind.u64, CK.n IntKind.u32, CK.n IntKind.i64] M'77), l := [], cap := d'78, ro := false }], junks := (0 : Nat) }) ∧ (¬U.qlRoom y73 ip n → K (Sum.inr [Sum.inl (Sum.inr (Sum.inr (Sum.inr (Sum.inr (Sum.inr (Sum.inr (Sum.inl (IntKind.i64, z72)))))))), Sum.inl (Sum.inr (Sum.inr (Sum.inr (Sum.inr (Sum.inr (Sum.inr (Sum.inl (IntKind.i64, (0 : Int)))))))))]) { heap := [some { elem := nat_lit 57, cells := [Sum.inr (Sum.inr (Sum.inr (Sum.inr (Sum.inr (Sum.inr (Sum.inl (IntKind.u32, b))))))), Sum.inr (Sum.inr (Sum.inr (Sum.inr (Sum.inr (Sum.inr (Sum.inl (IntKind.i64, n))))))), Sum.inr (Sum.inr (Sum.inr (Sum.inr (Sum.inr (Sum.inr (Sum.inl (IntKind.i64, t))))))), Sum.inr (Sum.inl ((1 : Nat), (0 : Nat)))], j := none, c := (4 : Nat), z := false }, some { elem := nat_lit 82, cells := [Sum.inr (Sum.inr (Sum.inr (Sum.inr (Sum.inr (Sum.inr (Sum.inr (Sum.inr (Sum.inr (Sum.inr (Sum.inr (Sum.inl { a := (0 : Nat), u := (1 : Nat), o := (0 : Nat), n := q, c := c }))))))))))), Sum.inr (Sum.inr (Sum.inr (Sum.inr (Sum.inr (Sum.inr (Sum.inr (Sum.inr (Sum.inr (Sum.inr (Sum.inr (Sum.inl { a := (1 : Nat), u := (3 : Nat), o := (0 : Nat), n := q, c := d }))))))))))), Sum.inr (Sum.inr (Sum.inr (Sum.inr (Sum.inr (Sum.inr (Sum.inl (IntKind.i64, n)))))))], j := none, c := (3 : Nat), z := false }], ints := [], opqs := (0 : Nat), arrs := [some { elem := (28 : Nat), k := AK.o (Obj.rows [CK.n IntKind.u32] L), l := [], cap := c, ro := false }, some { elem := (41 : TypeId), k := AK.o (Obj.rows [CK.n IntKind.u64, CK.n IntKind.u32, CK.n IntKind.i64] M), l := [], cap := d, ro := false }], junks := (0 : Nat) })))) ∧ (¬U.qIn b n ip → K (Sum.inr [Sum.inl (Sum.inr (Sum.inr (Sum.inr (Sum.inr (Sum.inr (Sum.inr (Sum.inl (IntKind.i64, (0 : Int))))))))), Sum.inl (Sum.inr (Sum.inr (Sum.inr (Sum.inr (Sum.inr (Sum.inr (Sum.inl (IntKind.i64, (7 : Int)))))))))]) { heap := [some { elem := nat_lit 57, cells := [Sum.inr (Sum.inr (Sum.inr (Sum.inr (Sum.inr (Sum.inr (Sum.inl (IntKind.u32, b))))))), Sum.inr (Sum.inr (Sum.inr (Sum.inr (Sum.inr (Sum.inr (Sum.inl (IntKind.i64, n))))))), Sum.inr (Sum.inr (Sum.inr (Sum.inr (Sum.inr (Sum.inr (Sum.inl (IntKind.i64, t))))))), Sum.inr (Sum.inl ((1 : Nat), (0 : Nat)))], j := none, c := (4 : Nat), z := false }, some { elem := nat_lit 82, cells := [Sum.inr (Sum.inr (Sum.inr (Sum.inr (Sum.inr (Sum.inr (Sum.inr (Sum.inr (Sum.inr (Sum.inr (Sum.inr (Sum.inl { a := (0 : Nat), u := (1 : Nat), o := (0 : Nat), n := q, c := c }))))))))))), Sum.inr (Sum.inr (Sum.inr (Sum.inr (Sum.inr (Sum.inr (Sum.inr (Sum.inr (Sum.inr (Sum.inr (Sum.inr (Sum.inl { a := (1 : Nat), u := (3 : Nat), o := (0 : Nat), n := q, c := d }))))))))))), Sum.inr (Sum.inr (Sum.inr (Sum.inr (Sum.inr (Sum.inr (Sum.inl (IntKind.i64, n)))))))], j := none, c := (3 : Nat), z := false }], ints := [], opqs := (0 : Nat), arrs := [some { elem := (28 : Nat), k := AK.o (Obj.rows [CK.n IntKind.u32] L), l := [], cap := c, ro := false }, some { elem := (41 : Nat), k := AK.o (Obj.rows [CK.n IntKind.u64, CK.n IntKind.u32, CK.n IntKind.i64] M), l := [], cap := d, ro := false }], junks := (0 : Nat) })) := by kernel_rfl
end Go.Proofs.Ytbifilonmkaonaa
end

section
set_option linter.unusedVariables false
set_option linter.unusedSimpArgs false
set_option maxRecDepth 10000
namespace Go.Proofs.Ytbifilonmkaonaa
open Go Reck Ost
theorem qroom {P : QLP} (hs : U.qlSrt P) {b n ip : Int} (h : ∀ k v, (k, v) ∈ P → b < k ∧ k ≤ b + n) (hi : U.qIn b n ip) (hno : ¬ U.qlHasK P ip) : (P.length : Int) < n := by
  rcases Int.lt_or_le P.length n with hlt | hge
  · exact hlt
  exfalso
  have hi := hi.out
  have hp := List.pairwise_iff_getElem.1 hs.out
  have key : ∀ i (hi : i < P.length), b + 1 + i ≤ (P[i]).1 := by
    intro i
    induction i with
    | zero => intro hi; have := h (P[0]).1 (P[0]).2 (List.getElem_mem hi); omega
    | succ i ih => intro hi; have h1 := ih (by omega); have h2 := hp i (i + 1) (by omega) hi (by omega); omega
  have key2 : ∀ j i (hi : i < P.length), i + j + 1 = P.length → (P[i]).1 + j ≤ b + n := by
    intro j
    induction j with
    | zero => intro i hi _; have := h (P[i]).1 (P[i]).2 (List.getElem_mem hi); omega
    | succ j ih => intro i hi he; have h1 := ih (i + 1) (by omega) (by omega); have h2 := hp i (i + 1) hi (by omega) (by omega); omega
  obtain ⟨i, hx⟩ : ∃ i : Nat, (i : Int) = ip - b - 1 := ⟨(ip - b - 1).toNat, by omega⟩
  have hl : i < P.length := by omega
  have h1 := key i hl
  have h2 := key2 (P.length - 1 - i) i hl (by omega)
  refine hno ⟨(P[i]).2, ?_⟩
  have : (P[i]).1 = ip := by omega
  rw [← this]
  exact List.getElem_mem hl
structure U.qGf (P : QLP) (b n m ip now e : Int) : Prop where
  out : (¬ U.qIn b n ip ∧ e = 7) ∨ (U.qIn b n ip ∧ e = 3 ∧ ∃ v, (ip, v) ∈ P ∧ v.v0 ≠ m ∧ now < v.v2)
structure U.qGs (P : QLP) (m ip u : Int) (P' : QLP) : Prop where
  out : ∀ x y, (x, y) ∈ P' ↔ (x = ip ∧ y = ⟨m, ip, u⟩) ∨ ((x, y) ∈ P ∧ x ≠ ip ∧ y.v0 ≠ m)
structure U.qFre (P : QLP) (m ip now : Int) : Prop where
  out : ∀ v, (ip, v) ∈ P → v.v0 = m ∨ v.v2 ≤ now
theorem qgs_of {P P1 P' : QLP} {m ip u : Int} (hr : U.qRmv P m P1) (hp : U.qlPut P1 ip ⟨m, ip, u⟩ P') : U.qGs P m ip u P' := by
  refine ⟨fun x y => ?_⟩
  rw [hp.mem]
  constructor
  · rintro (h | ⟨h1, h2⟩)
    · exact .inl h
    · have := (hr.out x y).1 h1
      exact .inr ⟨this.1, h2, this.2⟩
  · rintro (h | ⟨h1, h2, h3⟩)
    · exact .inl h
    · exact .inr ⟨(hr.out x y).2 ⟨h1, h3⟩, h2⟩
theorem qrmv_no {P : QLP} {m : Int} (h : U.qNo P m) : U.qRmv P m P := ⟨fun x y => ⟨fun hx => ⟨hx, h.out _ hx⟩, fun hx => hx.1⟩⟩
theorem qno_rmv {P P1 : QLP} {m : Int} (h : U.qRmv P m P1) : U.qNo P1 m := ⟨fun p hp => ((h.out p.1 p.2).1 hp).2⟩
theorem qroom_of {b n t : Int} {q c : Nat} {L : Rws} {d : Nat} {M : Rws} {P : QLP} (h : U.Qp b n t q c L d M P) {ip : Int} (hi : U.qIn b n ip) : U.qlRoom P ip n := by
  refine ⟨Classical.byCases (fun hk => .inl hk) fun hk => .inr ?_⟩
  exact qroom h.s.srt (fun k v hx => (h.i.wf k v hx).2) hi hk
theorem qgrant_core (K : AV → St → Prop) (b n t : Int) (q c : Nat) (L : Rws) (d : Nat) (M : Rws) (P : QLP) (hQ : U.Qp b n t q c L d M P) (m ip now : Int) (h1 : 0 ≤ now) (h2 : now ≤ 2000000) (hi : U.qIn b n ip) (hf : U.qFre P m ip now)
    (hK : ∀ (u : Int) (P' : QLP) (q' c' : Nat) (L' : Rws) (d' : Nat) (M' : Rws), u = now + t → U.qIn b n ip → U.qFre P m ip now → U.qGs P m ip u P' → U.Qp b n t q' c' L' d' M' P' → K (.inr [.inl (xintC .i64 u), .inl (xintC .i64 0)]) (qpS2 b n t q' c' L' d' M')) :
    ∃ y : QLP, (((c = c ∧ d = d ∧ q = q) ∧ n = n) ∧ U.Qp b n t q c L d M y) ∧
      (∀ (k v0 v1 v2 : Int) (P' : QLP) (q' : Nat) (L' M' : Rws), U.qHas y m k v0 v1 v2 → U.qRmv y m P' → U.Qp b n t q' c L' d M' P' → ∀ z : Int, z = IntKind.wrap .i64 (now + t) → ∃ y' : QLP, ((c = c ∧ d = d ∧ q' = q') ∧ U.qlshI q' c L' d M' y' ∧ q' ≤ 100000) ∧
        (U.qlRoom y' ip n → ∀ (L2 : Rws) (n2 c2 : Nat) (M2 : Rws) (d2 : Nat) (P2 : QLP), n2 = U.qllen P2 → U.qlPut y' ip ⟨m, ip, z⟩ P2 → U.qlshI n2 c2 L2 d2 M2 P2 → K (.inr [.inl (xintC .i64 z), .inl (xintC .i64 0)]) (qpS2 b n t n2 c2 L2 d2 M2)) ∧
        (¬ U.qlRoom y' ip n → K (.inr [.inl (xintC .i64 z), .inl (xintC .i64 0)]) (qpS2 b n t q' c L' d M'))) ∧
      (U.qNo y m → ∀ z : Int, z = IntKind.wrap .i64 (now + t) → ∃ y' : QLP, ((c = c ∧ d = d ∧ q = q) ∧ U.qlshI q c L d M y' ∧ q ≤ 100000) ∧
        (U.qlRoom y' ip n → ∀ (L2 : Rws) (n2 c2 : Nat) (M2 : Rws) (d2 : Nat) (P2 : QLP), n2 = U.qllen P2 → U.qlPut y' ip ⟨m, ip, z⟩ P2 → U.qlshI n2 c2 L2 d2 M2 P2 → K (.inr [.inl (xintC .i64 z), .inl (xintC .i64 0)]) (qpS2 b n t n2 c2 L2 d2 M2)) ∧
        (¬ U.qlRoom y' ip n → K (.inr [.inl (xintC .i64 z), .inl (xintC .i64 0)]) (qpSt b n t q c L d M))) := by
  have hn := qp_n hQ
  have g := hQ.i.g.out
  refine ⟨P, ⟨⟨⟨rfl, rfl, rfl⟩, rfl⟩, hQ⟩, fun k v0 v1 v2 P' q' L' M' hh hr hQ' z hz => ?_, fun hno z hz => ?_⟩
  · have ez := iw hz (by omega)
    have hn' := qp_n hQ'
    refine ⟨P', ⟨⟨rfl, rfl, rfl⟩, hQ'.s, by omega⟩, fun _ L2 n2 c2 M2 d2 P2 e1 e2 e3 => hK z P2 n2 c2 L2 d2 M2 ez hi hf (qgs_of hr e2) (qp_put hQ' hi (qno_rmv hr) e2 e3), fun hx => (hx (qroom_of hQ' hi)).elim⟩
  · have ez := iw hz (by omega)
    refine ⟨P, ⟨⟨rfl, rfl, rfl⟩, hQ.s, by omega⟩, fun _ L2 n2 c2 M2 d2 P2 e1 e2 e3 => hK z P2 n2 c2 L2 d2 M2 ez hi hf (qgs_of (qrmv_no hno) e2) (qp_put hQ hi hno e2 e3), fun hx => (hx (qroom_of hQ hi)).elim⟩
theorem qgrant_run (K : AV → St → Prop) (b n t : Int) (q c : Nat) (L : Rws) (d : Nat) (M : Rws) (P : QLP) (hQ : U.Qp b n t q c L d M P) (m ip now : Int) (hp : ((0 ≤ ip ∧ ip ≤ 4294967295) ∧ 0 ≤ now ∧ now ≤ 2000000)) (hK : (∀ u e : Int, U.qGf P b n m ip now e → K (.inr [.inl (xintC .i64 u), .inl (xintC .i64 e)]) (qpSt b n t q c L d M)) ∧ (∀ (u : Int) (P' : QLP) (q' c' : Nat) (L' : Rws) (d' : Nat) (M' : Rws), u = now + t → U.qIn b n ip → U.qFre P m ip now → U.qGs P m ip u P' → U.Qp b n t q' c' L' d' M' P' → K (.inr [.inl (xintC .i64 u), .inl (xintC .i64 0)]) (qpS2 b n t q' c' L' d' M'))) : runR inv0 tQ4 13 [ptr 0 0, xi .u64 m, xi .u32 ip, xi .i64 now] (qpSt b n t q c L d M) K := by
  have hn := qp_n hQ
  have g := hQ.i.g.out
  obtain ⟨hp1, hp2, hp3⟩ := hp
  rw [qgrant_vc]
  refine ⟨P, ⟨⟨⟨rfl, rfl, rfl⟩, rfl⟩, hQ, hp1.1, hp1.2⟩, fun hi => ⟨P, ⟨⟨⟨rfl, rfl, rfl⟩, rfl⟩, hQ⟩, fun v0 v1 v2 hE => ⟨fun hne => ⟨fun hle => ?_, fun hgt => hK.1 0 3 ⟨.inr ⟨hi, rfl, _, hE.out, hne, by dsimp only; omega⟩⟩⟩, fun he => ?_⟩, fun hno => ?_⟩, fun hi => hK.1 0 7 ⟨.inl ⟨hi, rfl⟩⟩⟩
  · have hf : U.qFre P m ip now := ⟨fun v hv => .inr (by rw [qlone hQ.s.srt hv hE.out]; exact hle)⟩
    exact qgrant_core K b n t q c L d M P hQ m ip now hp2 hp3 hi hf hK.2
  · have hf : U.qFre P m ip now := ⟨fun v hv => .inl (by rw [qlone hQ.s.srt hv hE.out]; exact Classical.not_not.1 he)⟩
    exact qgrant_core K b n t q c L d M P hQ m ip now hp2 hp3 hi hf hK.2
  · have hf : U.qFre P m ip now := ⟨fun v hv => (hno ⟨v, hv⟩).elim⟩
    exact qgrant_core K b n t q c L d M P hQ m ip now hp2 hp3 hi hf hK.2
def pqgrant : Pat := fun args σ => match args with
  | [.inl (.inl (.inr (.inl (0, 0)))), a0, a1, a2] => match aIntK .u64 a0, aIntK .u32 a1, aInt a2, qpC σ with
    | some m, some ip, some now, some (b, n, t, q, c, L, d, M) => some fun K => ∃ P : QLP, (qpD σ ∧ U.Qp b n t q c L d M P ∧ ((0 ≤ ip ∧ ip ≤ 4294967295) ∧ 0 ≤ now ∧ now ≤ 2000000)) ∧ (∀ u e : Int, U.qGf P b n m ip now e → K (.inr [.inl (xintC .i64 u), .inl (xintC .i64 e)]) (qpSt b n t q c L d M)) ∧ (∀ (u : Int) (P' : QLP) (q' c' : Nat) (L' : Rws) (d' : Nat) (M' : Rws), u = now + t → U.qIn b n ip → U.qFre P m ip now → U.qGs P m ip u P' → U.Qp b n t q' c' L' d' M' P' → K (.inr [.inl (xintC .i64 u), .inl (xintC .i64 0)]) (qpS2 b n t q' c' L' d' M'))
    | _, _, _, _ => none
  | _ => none
theorem pqgrant_ok : PatOk 13 pqgrant := by
  intro tm σ C h K hK w0 e w hk vs hvs
  unfold pqgrant at h
  split at h
  · split at h
    · rename_i h0 h1 h2 hσ
      simp only [Option.some.injEq] at h; subst h
      obtain ⟨P, ⟨hd, hQ, hp⟩, hP⟩ := hK
      obtain rfl := qpC_eq hσ hd
      obtain ⟨y0, y1, y2, y3, rfl, q0, q1, q2, q3⟩ := fours hvs
      exact knownC noOv names (conOk_ofR tQ4_ok) (qgrant_run K _ _ _ _ _ _ _ _ P hQ _ _ _ hp hP) w0 e w hk _ (map4 q0 (as_aIntK h0 q1) (as_aIntK h1 q2) (as_aInt h2 q3))
    · cases h
  · cases h
def tQ6 : Tbl := tblOr (tblIf 13 pqgrant) tQ4
theorem tQ6_ok : TblOk Try.prog tQ6 := tblOr_ok (tblIf_ok pqgrant_ok) tQ4_ok
end Go.Proofs.Ytbifilonmkaonaa
end
