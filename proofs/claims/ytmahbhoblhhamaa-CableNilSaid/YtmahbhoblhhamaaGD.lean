/- Parts of a proof, one behind the other: XN1 XN2 XN3 XN4 XN5 XN6. No condition. -/
import Derived.Test.YtmahbhoblhhamaaGC
section
namespace Go.Proofs.Ytmahbhoblhhamaa
open Go Reck Ost
set_option linter.unusedVariables false
set_option maxRecDepth 100000
abbrev plA (a b : Int) : AV := .inl (.inr [xintC .i64 a, xintC .i64 b])
def aPl (x : AV) : Option (Int × Int) := match x with
  | .inl (.inr [a, b]) => match cInt a, cInt b with
    | some a, some b => some (a, b)
    | _, _ => none
  | _ => none
structure U.Gd (a b : Int) : Prop where
  out : (1 ≤ a ∧ a ≤ 8) ∧ 1 ≤ b ∧ b ≤ 8
def pGood : Pat := fun args σ => match args, σ with
  | [p], ⟨[], [], 0, [], 0⟩ => match aPl p with
    | some (a, b) => some fun K => (U.Gd a b → K (lit (.bool true)) emptySt) ∧ (¬ U.Gd a b → K (lit (.bool false)) emptySt)
    | _ => none
  | _, _ => none
def U.num (a b : Int) : Int := (a - 1) * 8 + b - 1
def U.sw (k : Int) : Int := k / 8 + 1
def U.po (k : Int) : Int := k % 8 + 1
def pNum : Pat := fun args σ => match args, σ with
  | [p], ⟨[], [], 0, [], 0⟩ => match aPl p with
    | some (a, b) => some fun K => U.Gd a b ∧ ∀ z : Int, z = U.num a b → K (xi .i64 z) emptySt
    | _ => none
  | _, _ => none
def pPlace : Pat := fun args σ => match args, σ with
  | [k], ⟨[], [], 0, [], 0⟩ => match aInt k with
    | some k => some fun K => (0 ≤ k ∧ k < 64) ∧ ∀ a b : Int, a = U.sw k → b = U.po k → K (plA a b) emptySt
    | _ => none
  | _, _ => none
def tPl : Tbl := tblOr (tblIf 23 pGood) (tblOr (tblIf 24 pGood) (tblOr (tblIf 28 pNum) (tblIf 31 pPlace)))
def tPS : Tbl := tblOr tPl cstS
def nbB : Option Blk := some ⟨52, [.inr (.inl (1, 0))], none, 1, false⟩
def nbSt (n c : Nat) (L : Rws) (d : Nat) (M : Rws) (m : Int) : St := ⟨[nbB, csB (rslC ⟨0, 1, 0, n, c⟩) (rslC ⟨1, 4, 0, n, d⟩) m], [], 0, [some (cskB L c), some (csvB M d)], 0⟩
--PLAIN
theorem good_vc (K : AV → St → Prop) (a b : Int) : (runR inv0 tbl0 23 [plA a b] emptySt K) = (((1 : Int) ≤ a → (a ≤ (8 : Int) → ((1 : Int) ≤ b → (b ≤ (8 : Int) → K (Sum.inl (Sum.inl (Sum.inl (Value.bool true)))) { heap := [], ints := [], opqs := (0 : Nat), arrs := [], junks := (0 : Nat) }) ∧ (¬b ≤ (8 : Int) → K (Sum.inl (Sum.inl (Sum.inl (Value.bool false)))) { heap := [], ints := [], opqs := (0 : Nat), arrs := [], junks := (0 : Nat) })) ∧ (¬(1 : Int) ≤ b → K (Sum.inl (Sum.inl (Sum.inl (Value.bool false)))) { heap := [], ints := [], opqs := (0 : Nat), arrs := [], junks := (0 : Nat) })) ∧ (¬a ≤ (8 : Int) → K (Sum.inl (Sum.inl (Sum.inl (Value.bool false)))) { heap := [], ints := [], opqs := (0 : Nat), arrs := [], junks := (0 : Nat) })) ∧ (¬(1 : Int) ≤ a → K (Sum.inl (Sum.inl (Sum.inl (Value.bool false)))) { heap := [], ints := [], opqs := (0 : Nat), arrs := [], junks := (0 : Nat) })) := by kernel_rfl
theorem rgood_vc (K : AV → St → Prop) (a b : Int) : (runR inv0 tbl0 24 [plA a b] emptySt K) = (((0 : Int) < a → (a < (9 : Int) → ((0 : Int) < b → (b < (9 : Int) → K (Sum.inl (Sum.inl (Sum.inl (Value.bool true)))) { heap := [], ints := [], opqs := (0 : Nat), arrs := [], junks := (0 : Nat) }) ∧ (¬b < (9 : Int) → K (Sum.inl (Sum.inl (Sum.inl (Value.bool false)))) { heap := [], ints := [], opqs := (0 : Nat), arrs := [], junks := (0 : Nat) })) ∧ (¬(0 : Int) < b → K (Sum.inl (Sum.inl (Sum.inl (Value.bool false)))) { heap := [], ints := [], opqs := (0 : Nat), arrs := [], junks := (0 : Nat) })) ∧ (¬a < (9 : Int) → K (Sum.inl (Sum.inl (Sum.inl (Value.bool false)))) { heap := [], ints := [], opqs := (0 : Nat), arrs := [], junks := (0 : Nat) })) ∧ (¬(0 : Int) < a → K (Sum.inl (Sum.inl (Sum.inl (Value.bool false)))) { heap := [], ints := [], opqs := (0 : Nat), arrs := [], junks := (0 : Nat) })) := by kernel_rfl
theorem num_vc (K : AV → St → Prop) (a b : Int) : (runR inv0 tbl0 28 [plA a b] emptySt K) = (∀ (z0 : Int), z0 = IntKind.wrap IntKind.i64 (a - (1 : Int)) → ∀ (z1 : Int), z1 = IntKind.wrap IntKind.i64 (z0 * (8 : Int)) → ∀ (z2 : Int), z2 = IntKind.wrap IntKind.i64 (z1 + b) → ∀ (z3 : Int), z3 = IntKind.wrap IntKind.i64 (z2 - (1 : Int)) → K (Sum.inl (Sum.inl (Sum.inr (Sum.inr (Sum.inr (Sum.inr (Sum.inr (Sum.inr (Sum.inl (IntKind.i64, z3)))))))))) { heap := [], ints := [], opqs := (0 : Nat), arrs := [], junks := (0 : Nat) }) := by kernel_rfl
theorem place_vc (K : AV → St → Prop) (k : Int) : (runR inv0 tbl0 31 [xi .i64 k] emptySt K) = (¬(8 : Int) = (0 : Int) ∧ ∀ (z0 : Int), z0 = IntKind.wrap IntKind.i64 (Int.tdiv k (8 : Int)) → ∀ (z1 : Int), z1 = IntKind.wrap IntKind.i64 (z0 + (1 : Int)) → ¬(8 : Int) = (0 : Int) ∧ ∀ (z2 : Int), z2 = Int.tmod k (8 : Int) → ∀ (z3 : Int), z3 = IntKind.wrap IntKind.i64 (z2 + (1 : Int)) → K (Sum.inl (Sum.inr [Sum.inr (Sum.inr (Sum.inr (Sum.inr (Sum.inr (Sum.inr (Sum.inl (IntKind.i64, z1))))))), Sum.inr (Sum.inr (Sum.inr (Sum.inr (Sum.inr (Sum.inr (Sum.inl (IntKind.i64, z3)))))))])) { heap := [], ints := [], opqs := (0 : Nat), arrs := [], junks := (0 : Nat) }) := by kernel_rfl
theorem other_vc (K : AV → St → Prop) (L M : Rws) (n c d : Nat) (m a b : Int) : (runR inv0 tPS 11 [ptr 0 0, plA a b] (nbSt n c L d M m) K) = ((U.Gd a b → (U.Gd a b ∧ ∀ (z0 : Int), z0 = U.num a b → a = a ∧ b = b ∧ (∃ (y1 : CSP), ((c = c ∧ d = d ∧ n = n) ∧ U.csshI n c L d M y1 ∧ n ≤ (100000 : Nat)) ∧ (∀ (v02 v13 v24 v35 : Int), U.csHasE y1 z0 v02 v13 v24 v35 → a = a ∧ b = b ∧ a = a ∧ b = b ∧ K (Sum.inl (Sum.inr [Sum.inr (Sum.inr (Sum.inr (Sum.inr (Sum.inr (Sum.inr (Sum.inl (IntKind.i64, v02))))))), Sum.inr (Sum.inr (Sum.inr (Sum.inr (Sum.inr (Sum.inr (Sum.inl (IntKind.i64, v13))))))), Sum.inr (Sum.inr (Sum.inr (Sum.inr (Sum.inr (Sum.inr (Sum.inl (IntKind.i64, v24))))))), Sum.inr (Sum.inr (Sum.inr (Sum.inr (Sum.inr (Sum.inr (Sum.inl (IntKind.i64, v35)))))))])) { heap := [some { elem := nat_lit 52, cells := [Sum.inr (Sum.inl ((1 : Nat), (0 : Nat)))], j := none, c := (1 : Nat), z := false }, some { elem := nat_lit 75, cells := [Sum.inr (Sum.inr (Sum.inr (Sum.inr (Sum.inr (Sum.inr (Sum.inr (Sum.inr (Sum.inr (Sum.inr (Sum.inr (Sum.inl { a := (0 : Nat), u := (1 : Nat), o := (0 : Nat), n := n, c := c }))))))))))), Sum.inr (Sum.inr (Sum.inr (Sum.inr (Sum.inr (Sum.inr (Sum.inr (Sum.inr (Sum.inr (Sum.inr (Sum.inr (Sum.inl { a := (1 : Nat), u := (4 : Nat), o := (0 : Nat), n := n, c := d }))))))))))), Sum.inr (Sum.inr (Sum.inr (Sum.inr (Sum.inr (Sum.inr (Sum.inl (IntKind.i64, m)))))))], j := none, c := (3 : Nat), z := false }], ints := [], opqs := (0 : Nat), arrs := [some { elem := (3 : Nat), k := AK.o (Obj.rows [CK.n IntKind.i64] L), l := [], cap := c, ro := false }, some { elem := (36 : Nat), k := AK.o (Obj.rows [CK.n IntKind.i64, CK.n IntKind.i64, CK.n IntKind.i64, CK.n IntKind.i64] M), l := [], cap := d, ro := false }], junks := (0 : Nat) }) ∧ (¬U.csHasK y1 z0 → a = a ∧ b = b ∧ a = a ∧ b = b ∧ K (Sum.inl (Sum.inr [Sum.inr (Sum.inr (Sum.inr (Sum.inr (Sum.inr (Sum.inr (Sum.inl (IntKind.i64, (0 : Int)))))))), Sum.inr (Sum.inr (Sum.inr (Sum.inr (Sum.inr (Sum.inr (Sum.inl (IntKind.i64, (0 : Int)))))))), Sum.inr (Sum.inr (Sum.inr (Sum.inr (Sum.inr (Sum.inr (Sum.inl (IntKind.i64, (0 : Int)))))))), Sum.inr (Sum.inr (Sum.inr (Sum.inr (Sum.inr (Sum.inr (Sum.inl (IntKind.i64, (0 : Int))))))))])) { heap := [some { elem := nat_lit 52, cells := [Sum.inr (Sum.inl ((1 : Nat), (0 : Nat)))], j := none, c := (1 : Nat), z := false }, some { elem := nat_lit 75, cells := [Sum.inr (Sum.inr (Sum.inr (Sum.inr (Sum.inr (Sum.inr (Sum.inr (Sum.inr (Sum.inr (Sum.inr (Sum.inr (Sum.inl { a := (0 : Nat), u := (1 : Nat), o := (0 : Nat), n := n, c := c }))))))))))), Sum.inr (Sum.inr (Sum.inr (Sum.inr (Sum.inr (Sum.inr (Sum.inr (Sum.inr (Sum.inr (Sum.inr (Sum.inr (Sum.inl { a := (1 : Nat), u := (4 : Nat), o := (0 : Nat), n := n, c := d }))))))))))), Sum.inr (Sum.inr (Sum.inr (Sum.inr (Sum.inr (Sum.inr (Sum.inl (IntKind.i64, m)))))))], j := none, c := (3 : Nat), z := false }], ints := [], opqs := (0 : Nat), arrs := [some { elem := (3 : Nat), k := AK.o (Obj.rows [CK.n IntKind.i64] L), l := [], cap := c, ro := false }, some { elem := (36 : Nat), k := AK.o (Obj.rows [CK.n IntKind.i64, CK.n IntKind.i64, CK.n IntKind.i64, CK.n IntKind.i64] M), l := [], cap := d, ro := false }], junks := (0 : Nat) })) ∧ a = a ∧ b = b ∧ ∃ (y6 : CSP), ((c = c ∧ d = d ∧ n = n) ∧ U.csshI n c L d M y6 ∧ n ≤ (100000 : Nat)) ∧ (∀ (v07 v18 v29 v310 : Int), U.csHasE y6 z0 v07 v18 v29 v310 → a = a ∧ b = b ∧ K (Sum.inl (Sum.inr [Sum.inr (Sum.inr (Sum.inr (Sum.inr (Sum.inr (Sum.inr (Sum.inl (IntKind.i64, v07))))))), Sum.inr (Sum.inr (Sum.inr (Sum.inr (Sum.inr (Sum.inr (Sum.inl (IntKind.i64, v18))))))), Sum.inr (Sum.inr (Sum.inr (Sum.inr (Sum.inr (Sum.inr (Sum.inl (IntKind.i64, v29))))))), Sum.inr (Sum.inr (Sum.inr (Sum.inr (Sum.inr (Sum.inr (Sum.inl (IntKind.i64, v310)))))))])) { heap := [some { elem := nat_lit 52, cells := [Sum.inr (Sum.inl ((1 : Nat), (0 : Nat)))], j := none, c := (1 : Nat), z := false }, some { elem := nat_lit 75, cells := [Sum.inr (Sum.inr (Sum.inr (Sum.inr (Sum.inr (Sum.inr (Sum.inr (Sum.inr (Sum.inr (Sum.inr (Sum.inr (Sum.inl { a := (0 : Nat), u := (1 : Nat), o := (0 : Nat), n := n, c := c }))))))))))), Sum.inr (Sum.inr (Sum.inr (Sum.inr (Sum.inr (Sum.inr (Sum.inr (Sum.inr (Sum.inr (Sum.inr (Sum.inr (Sum.inl { a := (1 : Nat), u := (4 : Nat), o := (0 : Nat), n := n, c := d }))))))))))), Sum.inr (Sum.inr (Sum.inr (Sum.inr (Sum.inr (Sum.inr (Sum.inl (IntKind.i64, m)))))))], j := none, c := (3 : Nat), z := false }], ints := [], opqs := (0 : Nat), arrs := [some { elem := (3 : Nat), k := AK.o (Obj.rows [CK.n IntKind.i64] L), l := [], cap := c, ro := false }, some { elem := (36 : Nat), k := AK.o (Obj.rows [CK.n IntKind.i64, CK.n IntKind.i64, CK.n IntKind.i64, CK.n IntKind.i64] M), l := [], cap := d, ro := false }], junks := (0 : Nat) }) ∧ (¬U.csHasK y6 z0 → a = a ∧ b = b ∧ K (Sum.inl (Sum.inr [Sum.inr (Sum.inr (Sum.inr (Sum.inr (Sum.inr (Sum.inr (Sum.inl (IntKind.i64, (0 : Int)))))))), Sum.inr (Sum.inr (Sum.inr (Sum.inr (Sum.inr (Sum.inr (Sum.inl (IntKind.i64, (0 : Int)))))))), Sum.inr (Sum.inr (Sum.inr (Sum.inr (Sum.inr (Sum.inr (Sum.inl (IntKind.i64, (0 : Int)))))))), Sum.inr (Sum.inr (Sum.inr (Sum.inr (Sum.inr (Sum.inr (Sum.inl (IntKind.i64, (0 : Int))))))))])) { heap := [some { elem := nat_lit 52, cells := [Sum.inr (Sum.inl ((1 : Nat), (0 : Nat)))], j := none, c := (1 : Nat), z := false }, some { elem := nat_lit 75, cells := [Sum.inr (Sum.inr (Sum.inr (Sum.inr (Sum.inr (Sum.inr (Sum.inr (Sum.inr (Sum.inr (Sum.inr (Sum.inr (Sum.inl { a := (0 : Nat), u := (1 : Nat), o := (0 : Nat), n := n, c := c }))))))))))), Sum.inr (Sum.inr (Sum.inr (Sum.inr (Sum.inr (Sum.inr (Sum.inr (Sum.inr (Sum.inr (Sum.inr (Sum.inr (Sum.inl { a := (1 : Nat), u := (4 : Nat), o := (0 : Nat), n := n, c := d }))))))))))), Sum.inr (Sum.inr (Sum.inr (Sum.inr (Sum.inr (Sum.inr (Sum.inl (IntKind.i64, m)))))))], j := none, c := (3 : Nat), z := false }], ints := [], opqs := (0 : Nat), arrs := [some { elem := (3 : Nat), k := AK.o (Obj.rows [CK.n IntKind.i64] L), l := [], cap := c, ro := false }, some { elem := (36 : Nat), k := AK.o (Obj.rows [CK.n IntKind.i64, CK.n IntKind.i64, CK.n IntKind.i64, CK.n IntKind.i64] M), l := [], cap := d, ro := false }], junks := (0 : Nat) })) ∧ a = a ∧ b = b ∧ U.Gd a b ∧ ∀ (z11 : Int), z11 = U.num a b → a = a ∧ b = b ∧ ∃ (y12 : CSP), ((c = c ∧ d = d ∧ n = n) ∧ U.csshI n c L d M y12 ∧ n ≤ (100000 : Nat)) ∧ (∀ (v013 v114 v215 v316 : Int), U.csHasE y12 z11 v013 v114 v215 v316 → a = a ∧ b = b ∧ K (Sum.inl (Sum.inr [Sum.inr (Sum.inr (Sum.inr (Sum.inr (Sum.inr (Sum.inr (Sum.inl (IntKind.i64, v013))))))), Sum.inr (Sum.inr (Sum.inr (Sum.inr (Sum.inr (Sum.inr (Sum.inl (IntKind.i64, v114))))))), Sum.inr (Sum.inr (Sum.inr (Sum.inr (Sum.inr (Sum.inr (Sum.inl (IntKind.i64, v215))))))), Sum.inr (Sum.inr (Sum.inr (Sum.inr (Sum.inr (Sum.inr (Sum.inl (IntKind.i64, v316)))))))])) { heap := [some { elem := nat_lit 52, cells := [Sum.inr (Sum.inl ((1 : Nat), (0 : Nat)))], j := none, c := (1 : Nat), z := false }, some { elem := nat_lit 75, cells := [Sum.inr (Sum.inr (Sum.inr (Sum.inr (Sum.inr (Sum.inr (Sum.inr (Sum.inr (Sum.inr (Sum.inr (Sum.inr (Sum.inl { a := (0 : Nat), u := (1 : Nat), o := (0 : Nat), n := n, c := c }))))))))))), Sum.inr (Sum.inr (Sum.inr (Sum.inr (Sum.inr (Sum.inr (Sum.inr (Sum.inr (Sum.inr (Sum.inr (Sum.inr (Sum.inl { a := (1 : Nat), u := (4 : Nat), o := (0 : Nat), n := n, c := d }))))))))))), Sum.inr (Sum.inr (Sum.inr (Sum.inr (Sum.inr (Sum.inr (Sum.inl (IntKind.i64, m)))))))], j := none, c := (3 : Nat), z := false }], ints := [], opqs := (0 : Nat), arrs := [some { elem := (3 : Nat), k := AK.o (Obj.rows [CK.n IntKind.i64] L), l := [], cap := c, ro := false }, some { elem := (36 : Nat), k := AK.o (Obj.rows [CK.n IntKind.i64, CK.n IntKind.i64, CK.n IntKind.i64, CK.n IntKind.i64] M), l := [], cap := d, ro := false }], junks := (0 : Nat) }) ∧ (¬U.csHasK y12 z11 → a = a ∧ b = b ∧ K (Sum.inl (Sum.inr [Sum.inr (Sum.inr (Sum.inr (Sum.inr (Sum.inr (Sum.inr (Sum.inl (IntKind.i64, (0 : Int)))))))), Sum.inr (Sum.inr (Sum.inr (Sum.inr (Sum.inr (Sum.inr (Sum.inl (IntKind.i64, (0 : Int)))))))), Sum.inr (Sum.inr (Sum.inr (Sum.inr (Sum.inr (Sum.inr (Sum.inl (IntKind.i64, (0 : Int)))))))), Sum.inr (Sum.inr (Sum.inr (Sum.inr (Sum.inr (Sum.inr (Sum.inl (IntKind.i64, (0 : Int))))))))])) { heap := [some { elem := nat_lit 52, cells := [Sum.inr (Sum.inl ((1 : Nat), (0 : Nat)))], j := none, c := (1 : Nat), z := false }, some { elem := nat_lit 75, cells := [Sum.inr (Sum.inr (Sum.inr (Sum.inr (Sum.inr (Sum.inr (Sum.inr (Sum.inr (Sum.inr (Sum.inr (Sum.inr (Sum.inl { a := (0 : Nat), u := (1 : Nat), o := (0 : Nat), n := n, c := c }))))))))))), Sum.inr (Sum.inr (Sum.inr (Sum.inr (Sum.inr (Sum.inr (Sum.inr (Sum.inr (Sum.inr (Sum.inr (Sum.inr (Sum.inl { a := (1 : Nat), u := (4 : Nat), o := (0 : Nat), n := n, c := d }))))))))))), Sum.inr (Sum.inr (Sum.inr (Sum.inr (Sum.inr (Sum.inr (Sum.inl (IntKind.i64, m)))))))], j := none, c := (3 : Nat), z := false }], ints := [], opqs := (0 : Nat), arrs := [some { elem := (3 : Nat), k := AK.o (Obj.rows [CK.n IntKind.i64] L), l := [], cap := c, ro := false }, some { elem := (36 : Nat), k := AK.o (Obj.rows [CK.n IntKind.i64, CK.n IntKind.i64, CK.n IntKind.i64, CK.n IntKind.i64] M), l := [], cap := d, ro := false }], junks := (0 : Nat) })) ∧ (¬U.Gd a b → K (Sum.inl (Sum.inr [Sum.inr (Sum.inr (Sum.inr (Sum.inr (Sum.inr (Sum.inr (Sum.inl (IntKind.i64, (0 : Int)))))))), Sum.inr (Sum.inr (Sum.inr (Sum.inr (Sum.inr (Sum.inr (Sum.inl (IntKind.i64, (0 : Int)))))))), Sum.inr (Sum.inr (Sum.inr (Sum.inr (Sum.inr (Sum.inr (Sum.inl (IntKind.i64, (0 : Int)))))))), Sum.inr (Sum.inr (Sum.inr (Sum.inr (Sum.inr (Sum.inr (Sum.inl (IntKind.i64, (0 : Int))))))))])) { heap := [some { elem := nat_lit 52, cells := [Sum.inr (Sum.inl ((1 : Nat), (0 : Nat)))], j := none, c := (1 : Nat), z := false }, some { elem := nat_lit 75, cells := [Sum.inr (Sum.inr (Sum.inr (Sum.inr (Sum.inr (Sum.inr (Sum.inr (Sum.inr (Sum.inr (Sum.inr (Sum.inr (Sum.inl { a := (0 : Nat), u := (1 : Nat), o := (0 : Nat), n := n, c := c }))))))))))), Sum.inr (Sum.inr (Sum.inr (Sum.inr (Sum.inr (Sum.inr (Sum.inr (Sum.inr (Sum.inr (Sum.inr (Sum.inr (Sum.inl { a := (1 : Nat), u := (4 : Nat), o := (0 : Nat), n := n, c := d }))))))))))), Sum.inr (Sum.inr (Sum.inr (Sum.inr (Sum.inr (Sum.inr (Sum.inl (IntKind.i64, m)))))))], j := none, c := (3 : Nat), z := false }], ints := [], opqs := (0 : Nat), arrs := [some { elem := (3 : Nat), k := AK.o (Obj.rows [CK.n IntKind.i64] L), l := [], cap := c, ro := false }, some { elem := (36 : Nat), k := AK.o (Obj.rows [CK.n IntKind.i64, CK.n IntKind.i64, CK.n IntKind.i64, CK.n IntKind.i64] M), l := [], cap := d, ro := false }], junks := (0 : Nat) })) := by kernel_rfl
theorem newN_vc (K : AV → St → Prop) : (runR inv0 tPS 7 [] emptySt K) = (K (Sum.inl (Sum.inl (Sum.inr (Sum.inl ((0 : Nat), (0 : Nat)))))) { heap := [some { elem := nat_lit 52, cells := [Sum.inr (Sum.inl ((1 : Nat), (0 : Nat)))], j := none, c := (1 : Nat), z := false }, some { elem := nat_lit 75, cells := [Sum.inr (Sum.inr (Sum.inr (Sum.inr (Sum.inr (Sum.inr (Sum.inr (Sum.inr (Sum.inr (Sum.inr (Sum.inr (Sum.inl { a := (0 : Nat), u := (1 : Nat), o := (0 : Nat), n := (0 : Nat), c := (0 : Nat) }))))))))))), Sum.inr (Sum.inr (Sum.inr (Sum.inr (Sum.inr (Sum.inr (Sum.inr (Sum.inr (Sum.inr (Sum.inr (Sum.inr (Sum.inl { a := (1 : Nat), u := (4 : Nat), o := (0 : Nat), n := (0 : Nat), c := (0 : Nat) }))))))))))), Sum.inr (Sum.inr (Sum.inr (Sum.inr (Sum.inr (Sum.inr (Sum.inl (IntKind.i64, (64 : Int))))))))], j := none, c := (3 : Nat), z := false }], ints := [], opqs := (0 : Nat), arrs := [some { elem := (3 : Nat), k := AK.o (Obj.rows [CK.n IntKind.i64] U.nilL), l := [], cap := (0 : Nat), ro := false }, some { elem := (36 : TypeId), k := AK.o (Obj.rows [CK.n IntKind.i64, CK.n IntKind.i64, CK.n IntKind.i64, CK.n IntKind.i64] U.nilL), l := [], cap := (0 : Nat), ro := false }], junks := (0 : Nat) }) := by kernel_rfl
end Go.Proofs.Ytmahbhoblhhamaa
end

section
set_option linter.unusedVariables false
set_option linter.unusedSimpArgs false
set_option maxRecDepth 10000
namespace Go.Proofs.Ytmahbhoblhhamaa
open Go Reck Ost
theorem aPl_av {e : Env} {x : AV} {a b : Int} {v : Value} (h : aPl x = some (a, b)) (hv : Reck.av e x = some v) : Reck.av e (plA a b) = some v := by
  unfold aPl at h
  split at h
  · split at h
    · rename_i h1 h2
      simp only [Option.some.injEq, Prod.mk.injEq] at h
      obtain ⟨rfl, rfl⟩ := h
      rw [cInt_eq h1, cInt_eq h2] at hv
      exact hv
    · cases h
  · cases h
theorem gd_all {a b : Int} {X Y : Prop} (h1 : U.Gd a b → X) (h2 : ¬ U.Gd a b → Y) : (1 ≤ a → (a ≤ 8 → (1 ≤ b → (b ≤ 8 → X) ∧ (¬ b ≤ 8 → Y)) ∧ (¬ 1 ≤ b → Y)) ∧ (¬ a ≤ 8 → Y)) ∧ (¬ 1 ≤ a → Y) :=
  ⟨fun g1 => ⟨fun g2 => ⟨fun g3 => ⟨fun g4 => h1 ⟨⟨g1, g2⟩, g3, g4⟩, fun g4 => h2 fun h => g4 h.out.2.2⟩, fun g3 => h2 fun h => g3 h.out.2.1⟩, fun g2 => h2 fun h => g2 h.out.1.2⟩, fun g1 => h2 fun h => g1 h.out.1.1⟩
theorem good_run (K : AV → St → Prop) (a b : Int) (h1 : U.Gd a b → K (lit (.bool true)) emptySt) (h2 : ¬ U.Gd a b → K (lit (.bool false)) emptySt) : runR inv0 tbl0 23 [plA a b] emptySt K := by
  rw [good_vc]
  exact gd_all h1 h2
theorem rgood_run (K : AV → St → Prop) (a b : Int) (h1 : U.Gd a b → K (lit (.bool true)) emptySt) (h2 : ¬ U.Gd a b → K (lit (.bool false)) emptySt) : runR inv0 tbl0 24 [plA a b] emptySt K := by
  rw [rgood_vc]
  refine ⟨fun g1 => ⟨fun g2 => ⟨fun g3 => ⟨fun g4 => h1 ⟨by omega, by omega⟩, fun g4 => h2 fun h => g4 (by have := h.out; omega)⟩, fun g3 => h2 fun h => g3 (by have := h.out; omega)⟩, fun g2 => h2 fun h => g2 (by have := h.out; omega)⟩, fun g1 => h2 fun h => g1 (by have := h.out; omega)⟩
theorem num_run (K : AV → St → Prop) (a b : Int) (h : U.Gd a b) (hK : ∀ z : Int, z = U.num a b → K (xi .i64 z) emptySt) : runR inv0 tbl0 28 [plA a b] emptySt K := by
  rw [num_vc]
  have := h.out
  intro z0 h0 z1 h1 z2 h2 z3 h3
  have e0 := iw h0 (by omega)
  have e1 := iw h1 (by omega)
  have e2 := iw h2 (by omega)
  have e3 := iw h3 (by omega)
  exact hK z3 (by unfold U.num; omega)
theorem place_run (K : AV → St → Prop) (k : Int) (h : 0 ≤ k ∧ k < 64) (hK : ∀ a b : Int, a = U.sw k → b = U.po k → K (plA a b) emptySt) : runR inv0 tbl0 31 [xi .i64 k] emptySt K := by
  rw [place_vc]
  refine ⟨by decide, fun z0 h0 z1 h1 => ⟨by decide, fun z2 h2 z3 h3 => ?_⟩⟩
  rw [Int.tdiv_eq_ediv_of_nonneg h.1] at h0
  rw [Int.tmod_eq_emod_of_nonneg h.1] at h2
  have e0 := iw h0 (by omega)
  have e1 := iw h1 (by omega)
  have e3 := iw h3 (by omega)
  exact hK z1 z3 (by unfold U.sw; omega) (by unfold U.po; omega)
theorem pGood_ok : PatOk 23 pGood := by
  intro tm σ C h K hK w0 e w hk vs hvs
  unfold pGood at h
  split at h
  · split at h
    · rename_i a b hp
      simp only [Option.some.injEq] at h; subst h
      obtain ⟨v, rfl, hv⟩ := ones hvs
      exact knownC noOv names (conOk_ofR tbl0_ok) (good_run K a b hK.1 hK.2) w0 e w hk _ (map1 (aPl_av hp hv))
    · cases h
  · cases h
theorem prGood_ok : PatOk 24 pGood := by
  intro tm σ C h K hK w0 e w hk vs hvs
  unfold pGood at h
  split at h
  · split at h
    · rename_i a b hp
      simp only [Option.some.injEq] at h; subst h
      obtain ⟨v, rfl, hv⟩ := ones hvs
      exact knownC noOv names (conOk_ofR tbl0_ok) (rgood_run K a b hK.1 hK.2) w0 e w hk _ (map1 (aPl_av hp hv))
    · cases h
  · cases h
theorem pNum_ok : PatOk 28 pNum := by
  intro tm σ C h K hK w0 e w hk vs hvs
  unfold pNum at h
  split at h
  · split at h
    · rename_i a b hp
      simp only [Option.some.injEq] at h; subst h
      obtain ⟨v, rfl, hv⟩ := ones hvs
      exact knownC noOv names (conOk_ofR tbl0_ok) (num_run K a b hK.1 hK.2) w0 e w hk _ (map1 (aPl_av hp hv))
    · cases h
  · cases h
theorem pPlace_ok : PatOk 31 pPlace := by
  intro tm σ C h K hK w0 e w hk vs hvs
  unfold pPlace at h
  split at h
  · split at h
    · rename_i k hp
      simp only [Option.some.injEq] at h; subst h
      obtain ⟨v, rfl, hv⟩ := ones hvs
      exact knownC noOv names (conOk_ofR tbl0_ok) (place_run K k hK.1 hK.2) w0 e w hk _ (map1 (as_aInt hp hv))
    · cases h
  · cases h
theorem tPl_ok : TblOk Try.prog tPl := tblOr_ok (tblIf_ok pGood_ok) (tblOr_ok (tblIf_ok prGood_ok) (tblOr_ok (tblIf_ok pNum_ok) (tblIf_ok pPlace_ok)))
theorem tPS_ok : TblOk Try.prog tPS := tblOr_ok tPl_ok cstS_ok
/-- What is at a port. -/
structure U.Oth (P : CSP) (a b k x y h : Int) : Prop where
  out : (U.Gd a b ∧ U.csHasE P (U.num a b) k x y h) ∨ ((U.Gd a b → ¬ U.csHasK P (U.num a b)) ∧ k = 0 ∧ x = 0 ∧ y = 0 ∧ h = 0)
theorem other_run (K : AV → St → Prop) (L M : Rws) (n c d : Nat) (m a b : Int) (P : CSP) (h : U.csshI n c L d M P) (hn : n ≤ 64) (hK : ∀ k x y hh : Int, U.Oth P a b k x y hh → K (.inl (.inr (csC k x y hh))) (nbSt n c L d M m)) :
    runR inv0 tPS 11 [ptr 0 0, plA a b] (nbSt n c L d M m) K := by
  rw [other_vc]
  have hY : (∀ k x y hh : Int, U.Gd a b → U.csHasE P (U.num a b) k x y hh → K (.inl (.inr (csC k x y hh))) (nbSt n c L d M m)) := fun k x y hh g e => hK k x y hh ⟨.inl ⟨g, e⟩⟩
  have hN : (U.Gd a b → ¬ U.csHasK P (U.num a b)) → K (.inl (.inr (csC 0 0 0 0))) (nbSt n c L d M m) := fun g => hK 0 0 0 0 ⟨.inr ⟨g, rfl, rfl, rfl, rfl⟩⟩
  repeat' (first | exact rfl | exact h | exact hn | assumption | (with_reducible apply And.intro) | (intro z hz; subst hz) | (with_reducible refine Exists.intro P ?_) | intro _)
  all_goals first | omega | (exact hY _ _ _ _ (by assumption) (by assumption)) | (exact hN (fun _ => by assumption)) | exact hN (fun g => absurd g (by assumption))
end Go.Proofs.Ytmahbhoblhhamaa
end

section
namespace Go.Proofs.Ytmahbhoblhhamaa
open Go Reck Ost
set_option linter.unusedVariables false
set_option maxRecDepth 100000
def nbC (σ : St) : Option (Nat × Nat × Rws × Nat × Rws × Int) := match σ with
  | ⟨[some ⟨52, [.inr (.inl (1, 0))], none, 1, false⟩, p], [], 0, [a1, a2], 0⟩ => csshC p a1 a2
  | _ => none
def nbD (σ : St) : Prop := match σ with
  | ⟨[_, p], _, _, [a1, a2], _⟩ => csshD p a1 a2
  | _ => False
theorem nbC_eq {σ : St} {n c d : Nat} {L M : Rws} {m : Int} (h : nbC σ = some (n, c, L, d, M, m)) (hy : nbD σ) : σ = nbSt n c L d M m := by
  unfold nbC at h
  split at h
  · obtain ⟨rfl, rfl, rfl⟩ := csshC_eq h hy; rfl
  · cases h
def pOther : Pat := fun args σ => match args with
  | [.inl (.inl (.inr (.inl (0, 0)))), p] => match aPl p, nbC σ with
    | some (a, b), some (n, c, L, d, M, m) => some fun K => ∃ P, (nbD σ ∧ U.csshI n c L d M P ∧ n ≤ 64) ∧ ∀ k x y h : Int, U.Oth P a b k x y h → K (.inl (.inr (csC k x y h))) (nbSt n c L d M m)
    | _, _ => none
  | _ => none
theorem pOther_ok : PatOk 11 pOther := by
  intro tm σ C h K hK w0 e w hk vs hvs
  unfold pOther at h
  split at h
  · split at h
    · rename_i a b n c L d M m hp hσ
      simp only [Option.some.injEq] at h; subst h
      obtain ⟨P, ⟨hy, h1, h2⟩, h3⟩ := hK
      obtain rfl := nbC_eq hσ hy
      obtain ⟨x, y, rfl, q1, q2⟩ := twos hvs
      exact knownC noOv names (conOk_ofR tPS_ok) (other_run K _ _ _ _ _ _ a b P h1 h2 h3) w0 e w hk _ (map2 q1 (aPl_av hp q2))
    · cases h
  · cases h
def tNO : Tbl := tblOr (tblIf 11 pOther) tPS
theorem tNO_ok : TblOk Try.prog tNO := tblOr_ok (tblIf_ok pOther_ok) tPS_ok
/-- A machine's row. -/
structure U.isM (M : Rws) (m : Nat) (h : Int) : Prop where
  out : U.fi M m 0 = 2 ∧ U.fi M m 1 = 0 ∧ U.fi M m 2 = 0 ∧ U.fi M m 3 = h
structure U.whI (M : Rws) (n : Nat) (h i : Int) : Prop where
  out : 0 ≤ i ∧ i ≤ n ∧ ∀ m : Nat, (m : Int) < i → ¬ U.isM M m h
def whInv (tm : List AV) (σ : St) : Inv where
  X := Int
  tags := [0]
  tag _ _ := 0
  J := [0, 2, 3, 5, 7, 8, 9, 10, 11, 12, 13, 14, 15, 16, 17, 18, 19, 20, 24, 25, 26, 27, 28, 29, 30, 31, 32, 33, 34, 35, 36, 37, 38]
  val _ x := [(23, xi .i64 x)]
  st _ _ σ' := σ'
  I _ x := U.whI (rowsAt σ (slotR tm 6).a) (slotR tm 21).n (slotI tm 1) x
  m _ x := ((slotR tm 21).n : Int).toNat - x.toNat
  ren := noRen
def invWh : InvF := fun c tm σ => match tm.length, firstReg c with
  | 39, some 5 => some (whInv tm σ)
  | _, _ => none
/-- The rows of what is between switches, of the first ones. -/
def U.lnk (L M : Rws) (n : Nat) : Rws := (List.range n).filterMap fun m => if U.fi M m 0 = 1 ∧ U.fi L m 0 < U.num (U.fi M m 1) (U.fi M m 2) then some [.i (U.sw (U.fi L m 0)), .i (U.po (U.fi L m 0)), .i (U.fi M m 1), .i (U.fi M m 2)] else none
structure U.liI (L M : Rws) (n : Nat) (i : Int) (O : Rws) (q c : Nat) : Prop where
  out : 0 ≤ i ∧ i ≤ n ∧ O = U.lnk L M i.toNat ∧ q = O.length ∧ q ≤ i ∧ q ≤ c
def liInv (tm : List AV) (σ : St) : Inv where
  X := Int × (Rws × (Nat × Nat))
  tags := [0]
  tag _ _ := 0
  J := [0, 1, 2, 5, 6, 7, 8, 9, 10, 11, 12, 13, 14, 15, 16, 17, 18, 22, 23, 24, 25, 26, 27, 28, 29, 30, 31, 32, 33, 34, 35, 36, 37, 38, 39, 40, 41, 42, 43, 44, 45, 46, 47, 48, 49]
  val _ x := [(21, xi .i64 x.1), (3, cell (rslC ⟨σ.arrs.length, 4, 0, x.2.2.1, x.2.2.2⟩))]
  st _ x σ' := ⟨σ'.heap, σ'.ints, σ'.opqs, σ'.arrs.dropLast ++ [some (rowB 64 [.n .i64, .n .i64, .n .i64, .n .i64] x.2.1 x.2.2.2 false)], σ'.junks⟩
  I _ x := U.liI (rowsAt σ (slotR tm 19).a) (rowsAt σ (slotR tm 4).a) (slotR tm 19).n x.1 x.2.1 x.2.2.1 x.2.2.2
  m _ x := ((slotR tm 19).n : Int).toNat - x.1.toNat
  ren tm' σ' := ([], [(slotR tm' 3).a])
def invLi : InvF := fun c tm σ => match tm.length, firstReg c with
  | 50, some 6 => some (liInv tm σ)
  | _, _ => none
--PLAIN
theorem taken_vc (K : AV → St → Prop) (L M : Rws) (n c d : Nat) (m a b : Int) : (runR inv0 tNO 33 [ptr 0 0, plA a b] (nbSt n c L d M m) K) = (∃ (y0 : CSP), ((c = c ∧ d = d ∧ n = n) ∧ U.csshI n c L d M y0 ∧ n ≤ (64 : Nat)) ∧ ∀ (k1 x2 y3 h4 : Int), U.Oth y0 a b k1 x2 y3 h4 → (¬k1 = (0 : Int) → K (Sum.inl (Sum.inl (Sum.inl (Value.bool true)))) { heap := [some { elem := nat_lit 52, cells := [Sum.inr (Sum.inl ((1 : Nat), (0 : Nat)))], j := none, c := (1 : Nat), z := false }, some { elem := nat_lit 75, cells := [Sum.inr (Sum.inr (Sum.inr (Sum.inr (Sum.inr (Sum.inr (Sum.inr (Sum.inr (Sum.inr (Sum.inr (Sum.inr (Sum.inl { a := (0 : Nat), u := (1 : Nat), o := (0 : Nat), n := n, c := c }))))))))))), Sum.inr (Sum.inr (Sum.inr (Sum.inr (Sum.inr (Sum.inr (Sum.inr (Sum.inr (Sum.inr (Sum.inr (Sum.inr (Sum.inl { a := (1 : Nat), u := (4 : Nat), o := (0 : Nat), n := n, c := d }))))))))))), Sum.inr (Sum.inr (Sum.inr (Sum.inr (Sum.inr (Sum.inr (Sum.inl (IntKind.i64, m)))))))], j := none, c := (3 : Nat), z := false }], ints := [], opqs := (0 : Nat), arrs := [some { elem := (3 : Nat), k := AK.o (Obj.rows [CK.n IntKind.i64] L), l := [], cap := c, ro := false }, some { elem := (36 : Nat), k := AK.o (Obj.rows [CK.n IntKind.i64, CK.n IntKind.i64, CK.n IntKind.i64, CK.n IntKind.i64] M), l := [], cap := d, ro := false }], junks := (0 : Nat) }) ∧ (¬¬k1 = (0 : Int) → K (Sum.inl (Sum.inl (Sum.inl (Value.bool false)))) { heap := [some { elem := nat_lit 52, cells := [Sum.inr (Sum.inl ((1 : Nat), (0 : Nat)))], j := none, c := (1 : Nat), z := false }, some { elem := nat_lit 75, cells := [Sum.inr (Sum.inr (Sum.inr (Sum.inr (Sum.inr (Sum.inr (Sum.inr (Sum.inr (Sum.inr (Sum.inr (Sum.inr (Sum.inl { a := (0 : Nat), u := (1 : Nat), o := (0 : Nat), n := n, c := c }))))))))))), Sum.inr (Sum.inr (Sum.inr (Sum.inr (Sum.inr (Sum.inr (Sum.inr (Sum.inr (Sum.inr (Sum.inr (Sum.inr (Sum.inl { a := (1 : Nat), u := (4 : Nat), o := (0 : Nat), n := n, c := d }))))))))))), Sum.inr (Sum.inr (Sum.inr (Sum.inr (Sum.inr (Sum.inr (Sum.inl (IntKind.i64, m)))))))], j := none, c := (3 : Nat), z := false }], ints := [], opqs := (0 : Nat), arrs := [some { elem := (3 : Nat), k := AK.o (Obj.rows [CK.n IntKind.i64] L), l := [], cap := c, ro := false }, some { elem := (36 : Nat), k := AK.o (Obj.rows [CK.n IntKind.i64, CK.n IntKind.i64, CK.n IntKind.i64, CK.n IntKind.i64] M), l := [], cap := d, ro := false }], junks := (0 : Nat) })) := by kernel_rfl
theorem pull_vc (K : AV → St → Prop) (L M : Rws) (n c d : Nat) (m a b : Int) : (runR inv0 tNO 13 [ptr 0 0, plA a b] (nbSt n c L d M m) K) = (∃ (y0 : CSP), ((c = c ∧ d = d ∧ n = n) ∧ U.csshI n c L d M y0 ∧ n ≤ (64 : Nat)) ∧ ∀ (k1 x2 y3 h4 : Int), U.Oth y0 a b k1 x2 y3 h4 → (k1 = (1 : Int) → U.Gd x2 y3 ∧ ∀ (z5 : Int), z5 = U.num x2 y3 → x2 = x2 ∧ y3 = y3 ∧ x2 = x2 ∧ y3 = y3 ∧ ∃ (y6 : CSP), ((c = c ∧ d = d ∧ n = n) ∧ U.csshI n c L d M y6 ∧ n ≤ (100000 : Nat)) ∧ ∀ (z7 : Int) (L'8 : Rws) (n'9 : Nat) (M'10 : Rws) (P'11 : CSP), n'9 = U.cslen P'11 → U.csRmN y6 z5 z7 → U.csRm y6 z5 P'11 → U.csshI n'9 c L'8 d M'10 P'11 → x2 = x2 ∧ y3 = y3 ∧ U.Gd a b ∧ ∀ (z12 : Int), z12 = U.num a b → a = a ∧ b = b ∧ a = a ∧ b = b ∧ ∃ (y13 : CSP), ((c = c ∧ d = d ∧ n'9 = n'9) ∧ U.csshI n'9 c L'8 d M'10 y13 ∧ n'9 ≤ (100000 : Nat)) ∧ ∀ (z14 : Int) (L'15 : Rws) (n'16 : Nat) (M'17 : Rws) (P'18 : CSP), n'16 = U.cslen P'18 → U.csRmN y13 z12 z14 → U.csRm y13 z12 P'18 → U.csshI n'16 c L'15 d M'17 P'18 → a = a ∧ b = b ∧ K (Sum.inr [Sum.inr [Sum.inr (Sum.inr (Sum.inr (Sum.inr (Sum.inr (Sum.inr (Sum.inl (IntKind.i64, k1))))))), Sum.inr (Sum.inr (Sum.inr (Sum.inr (Sum.inr (Sum.inr (Sum.inl (IntKind.i64, x2))))))), Sum.inr (Sum.inr (Sum.inr (Sum.inr (Sum.inr (Sum.inr (Sum.inl (IntKind.i64, y3))))))), Sum.inr (Sum.inr (Sum.inr (Sum.inr (Sum.inr (Sum.inr (Sum.inl (IntKind.i64, h4)))))))], Sum.inl (Sum.inl (Value.bool true))]) { heap := [some { elem := nat_lit 52, cells := [Sum.inr (Sum.inl ((1 : Nat), (0 : Nat)))], j := none, c := (1 : Nat), z := false }, some { elem := nat_lit 75, cells := [Sum.inr (Sum.inr (Sum.inr (Sum.inr (Sum.inr (Sum.inr (Sum.inr (Sum.inr (Sum.inr (Sum.inr (Sum.inr (Sum.inl { a := (2 : Nat), u := (1 : Nat), o := (0 : Nat), n := n'16, c := c }))))))))))), Sum.inr (Sum.inr (Sum.inr (Sum.inr (Sum.inr (Sum.inr (Sum.inr (Sum.inr (Sum.inr (Sum.inr (Sum.inr (Sum.inl { a := (3 : Nat), u := (4 : Nat), o := (0 : Nat), n := n'16, c := d }))))))))))), Sum.inr (Sum.inr (Sum.inr (Sum.inr (Sum.inr (Sum.inr (Sum.inl (IntKind.i64, m)))))))], j := none, c := (3 : Nat), z := false }], ints := [], opqs := (0 : Nat), arrs := [none, none, some { elem := (3 : TypeId), k := AK.o (Obj.rows [CK.n IntKind.i64] L'15), l := [], cap := c, ro := false }, some { elem := (36 : TypeId), k := AK.o (Obj.rows [CK.n IntKind.i64, CK.n IntKind.i64, CK.n IntKind.i64, CK.n IntKind.i64] M'17), l := [], cap := d, ro := false }], junks := (0 : Nat) }) ∧ (¬k1 = (1 : Int) → (k1 = (2 : Int) → U.Gd a b ∧ ∀ (z19 : Int), z19 = U.num a b → a = a ∧ b = b ∧ a = a ∧ b = b ∧ ∃ (y20 : CSP), ((c = c ∧ d = d ∧ n = n) ∧ U.csshI n c L d M y20 ∧ n ≤ (100000 : Nat)) ∧ ∀ (z21 : Int) (L'22 : Rws) (n'23 : Nat) (M'24 : Rws) (P'25 : CSP), n'23 = U.cslen P'25 → U.csRmN y20 z19 z21 → U.csRm y20 z19 P'25 → U.csshI n'23 c L'22 d M'24 P'25 → a = a ∧ b = b ∧ K (Sum.inr [Sum.inr [Sum.inr (Sum.inr (Sum.inr (Sum.inr (Sum.inr (Sum.inr (Sum.inl (IntKind.i64, k1))))))), Sum.inr (Sum.inr (Sum.inr (Sum.inr (Sum.inr (Sum.inr (Sum.inl (IntKind.i64, x2))))))), Sum.inr (Sum.inr (Sum.inr (Sum.inr (Sum.inr (Sum.inr (Sum.inl (IntKind.i64, y3))))))), Sum.inr (Sum.inr (Sum.inr (Sum.inr (Sum.inr (Sum.inr (Sum.inl (IntKind.i64, h4)))))))], Sum.inl (Sum.inl (Value.bool true))]) { heap := [some { elem := nat_lit 52, cells := [Sum.inr (Sum.inl ((1 : Nat), (0 : Nat)))], j := none, c := (1 : Nat), z := false }, some { elem := nat_lit 75, cells := [Sum.inr (Sum.inr (Sum.inr (Sum.inr (Sum.inr (Sum.inr (Sum.inr (Sum.inr (Sum.inr (Sum.inr (Sum.inr (Sum.inl { a := (2 : Nat), u := (1 : Nat), o := (0 : Nat), n := n'23, c := c }))))))))))), Sum.inr (Sum.inr (Sum.inr (Sum.inr (Sum.inr (Sum.inr (Sum.inr (Sum.inr (Sum.inr (Sum.inr (Sum.inr (Sum.inl { a := (3 : Nat), u := (4 : Nat), o := (0 : Nat), n := n'23, c := d }))))))))))), Sum.inr (Sum.inr (Sum.inr (Sum.inr (Sum.inr (Sum.inr (Sum.inl (IntKind.i64, m)))))))], j := none, c := (3 : Nat), z := false }], ints := [], opqs := (0 : Nat), arrs := [none, none, some { elem := (3 : TypeId), k := AK.o (Obj.rows [CK.n IntKind.i64] L'22), l := [], cap := c, ro := false }, some { elem := (36 : TypeId), k := AK.o (Obj.rows [CK.n IntKind.i64, CK.n IntKind.i64, CK.n IntKind.i64, CK.n IntKind.i64] M'24), l := [], cap := d, ro := false }], junks := (0 : Nat) }) ∧ (¬k1 = (2 : Int) → K (Sum.inr [Sum.inr [Sum.inr (Sum.inr (Sum.inr (Sum.inr (Sum.inr (Sum.inr (Sum.inl (IntKind.i64, (0 : Int)))))))), Sum.inr (Sum.inr (Sum.inr (Sum.inr (Sum.inr (Sum.inr (Sum.inl (IntKind.i64, (0 : Int)))))))), Sum.inr (Sum.inr (Sum.inr (Sum.inr (Sum.inr (Sum.inr (Sum.inl (IntKind.i64, (0 : Int)))))))), Sum.inr (Sum.inr (Sum.inr (Sum.inr (Sum.inr (Sum.inr (Sum.inl (IntKind.i64, (0 : Int))))))))], Sum.inl (Sum.inl (Value.bool false))]) { heap := [some { elem := nat_lit 52, cells := [Sum.inr (Sum.inl ((1 : Nat), (0 : Nat)))], j := none, c := (1 : Nat), z := false }, some { elem := nat_lit 75, cells := [Sum.inr (Sum.inr (Sum.inr (Sum.inr (Sum.inr (Sum.inr (Sum.inr (Sum.inr (Sum.inr (Sum.inr (Sum.inr (Sum.inl { a := (0 : Nat), u := (1 : Nat), o := (0 : Nat), n := n, c := c }))))))))))), Sum.inr (Sum.inr (Sum.inr (Sum.inr (Sum.inr (Sum.inr (Sum.inr (Sum.inr (Sum.inr (Sum.inr (Sum.inr (Sum.inl { a := (1 : Nat), u := (4 : Nat), o := (0 : Nat), n := n, c := d }))))))))))), Sum.inr (Sum.inr (Sum.inr (Sum.inr (Sum.inr (Sum.inr (Sum.inl (IntKind.i64, m)))))))], j := none, c := (3 : Nat), z := false }], ints := [], opqs := (0 : Nat), arrs := [some { elem := (3 : Nat), k := AK.o (Obj.rows [CK.n IntKind.i64] L), l := [], cap := c, ro := false }, some { elem := (36 : Nat), k := AK.o (Obj.rows [CK.n IntKind.i64, CK.n IntKind.i64, CK.n IntKind.i64, CK.n IntKind.i64] M), l := [], cap := d, ro := false }], junks := (0 : Nat) }))) := by kernel_rfl
theorem where_vc (K : AV → St → Prop) (L M : Rws) (n c d : Nat) (m h : Int) : (runR invWh tNO 12 [ptr 0 0, xi .i64 h] (nbSt n c L d M m) K) = (∃ (y0 : CSP), ((c = c ∧ d = d ∧ n = n) ∧ U.csshI n c L d M y0) ∧ ∀ (L'1 : Rws) (n'2 c'3 : Nat), n'2 = n → n'2 ≤ c'3 → L'1 = U.csvs y0 → ∃ (y4 : CSP), ((c = c ∧ d = d ∧ n = n) ∧ U.csshI n c L d M y4) ∧ ∀ (L'5 : Rws) (n'6 c'7 : Nat), n'6 = n → n'6 ≤ c'7 → L'5 = U.csks y4 → ∀ (z8 : Int), z8 = (↑n'6 : Int) → (∃ (y9 : Int), h = h ∧ ((0 : Nat) = (0 : Nat) ∧ n'2 = n'2 ∧ c'3 = c'3) ∧ ((0 : Nat) = (0 : Nat) ∧ n'6 = n'6 ∧ c'7 = c'7) ∧ z8 = z8 ∧ (0 : Int) = y9 ∧ ((0 : Nat) = (0 : Nat) ∧ n = n ∧ c = c) ∧ ((0 : Nat) = (0 : Nat) ∧ n = n ∧ d = d) ∧ m = m ∧ (L = L ∧ c = c ∧ false = false) ∧ (M = M ∧ d = d ∧ false = false) ∧ (L'1 = L'1 ∧ c'3 = c'3 ∧ false = false) ∧ (L'5 = L'5 ∧ c'7 = c'7 ∧ false = false) ∧ U.whI L'1 n'6 h y9) ∧ ∀ (x10 : Int), U.whI L'1 n'6 h x10 → (x10 < z8 → ((0 : Int) ≤ x10 ∧ x10 < (↑n'6 : Int)) ∧ ∀ (j11 : Nat), (↑j11 : Int) = (↑((0 : Nat)) : Int) + x10 → j11 < List.length L'5 ∧ ∀ (z12 : Int), z12 = U.fi L'5 j11 ((0 : Nat)) → ((0 : Int) ≤ x10 ∧ x10 < (↑n'2 : Int)) ∧ ∀ (j13 : Nat), (↑j13 : Int) = (↑((0 : Nat)) : Int) + x10 → j13 < List.length L'1 ∧ ∀ (z14 : Int), z14 = U.fi L'1 j13 ((0 : Nat)) → ∀ (z15 : Int), z15 = U.fi L'1 j13 ((0 : Nat) + (1 : Nat)) → ∀ (z16 : Int), z16 = U.fi L'1 j13 ((0 : Nat) + (1 : Nat) + (1 : Nat)) → ∀ (z17 : Int), z17 = U.fi L'1 j13 ((0 : Nat) + (1 : Nat) + (1 : Nat) + (1 : Nat)) → (z14 = (2 : Int) ∧ (z15 = (0 : Int) ∧ z16 = (0 : Int) ∧ True) ∧ z17 = h ∧ True → ((0 : Int) ≤ z12 ∧ z12 < (64 : Int)) ∧ ∀ (a18 b19 : Int), a18 = U.sw z12 → b19 = U.po z12 → K (Sum.inr [Sum.inr [Sum.inr (Sum.inr (Sum.inr (Sum.inr (Sum.inr (Sum.inr (Sum.inl (IntKind.i64, a18))))))), Sum.inr (Sum.inr (Sum.inr (Sum.inr (Sum.inr (Sum.inr (Sum.inl (IntKind.i64, b19)))))))], Sum.inl (Sum.inl (Value.bool true))]) { heap := [some { elem := nat_lit 52, cells := [Sum.inr (Sum.inl ((1 : Nat), (0 : Nat)))], j := none, c := (1 : Nat), z := false }, some { elem := nat_lit 75, cells := [Sum.inr (Sum.inr (Sum.inr (Sum.inr (Sum.inr (Sum.inr (Sum.inr (Sum.inr (Sum.inr (Sum.inr (Sum.inr (Sum.inl { a := (0 : Nat), u := (1 : Nat), o := (0 : Nat), n := n, c := c }))))))))))), Sum.inr (Sum.inr (Sum.inr (Sum.inr (Sum.inr (Sum.inr (Sum.inr (Sum.inr (Sum.inr (Sum.inr (Sum.inr (Sum.inl { a := (1 : Nat), u := (4 : Nat), o := (0 : Nat), n := n, c := d }))))))))))), Sum.inr (Sum.inr (Sum.inr (Sum.inr (Sum.inr (Sum.inr (Sum.inl (IntKind.i64, m)))))))], j := none, c := (3 : Nat), z := false }], ints := [], opqs := (0 : Nat), arrs := [some { elem := (3 : TypeId), k := AK.o (Obj.rows [CK.n IntKind.i64] L), l := [], cap := c, ro := false }, some { elem := (36 : TypeId), k := AK.o (Obj.rows [CK.n IntKind.i64, CK.n IntKind.i64, CK.n IntKind.i64, CK.n IntKind.i64] M), l := [], cap := d, ro := false }], junks := (0 : Nat) }) ∧ (¬(z14 = (2 : Int) ∧ (z15 = (0 : Int) ∧ z16 = (0 : Int) ∧ True) ∧ z17 = h ∧ True) → ∀ (z20 : Int), z20 = IntKind.wrap IntKind.i64 (x10 + (1 : Int)) → ∃ (y21 : Int), h = h ∧ ((0 : Nat) = (0 : Nat) ∧ n'2 = n'2 ∧ c'3 = c'3) ∧ ((0 : Nat) = (0 : Nat) ∧ n'6 = n'6 ∧ c'7 = c'7) ∧ z8 = z8 ∧ z20 = y21 ∧ ((0 : Nat) = (0 : Nat) ∧ n = n ∧ c = c) ∧ ((0 : Nat) = (0 : Nat) ∧ n = n ∧ d = d) ∧ m = m ∧ (L = L ∧ c = c ∧ false = false) ∧ (M = M ∧ d = d ∧ false = false) ∧ (L'1 = L'1 ∧ c'3 = c'3 ∧ false = false) ∧ (L'5 = L'5 ∧ c'7 = c'7 ∧ false = false) ∧ U.whI L'1 n'6 h y21 ∧ Int.toNat (↑n'6 : Int) - Int.toNat y21 < Int.toNat (↑n'6 : Int) - Int.toNat x10)) ∧ (¬x10 < z8 → K (Sum.inr [Sum.inr [Sum.inr (Sum.inr (Sum.inr (Sum.inr (Sum.inr (Sum.inr (Sum.inl (IntKind.i64, (0 : Int)))))))), Sum.inr (Sum.inr (Sum.inr (Sum.inr (Sum.inr (Sum.inr (Sum.inl (IntKind.i64, (0 : Int))))))))], Sum.inl (Sum.inl (Value.bool false))]) { heap := [some { elem := nat_lit 52, cells := [Sum.inr (Sum.inl ((1 : Nat), (0 : Nat)))], j := none, c := (1 : Nat), z := false }, some { elem := nat_lit 75, cells := [Sum.inr (Sum.inr (Sum.inr (Sum.inr (Sum.inr (Sum.inr (Sum.inr (Sum.inr (Sum.inr (Sum.inr (Sum.inr (Sum.inl { a := (0 : Nat), u := (1 : Nat), o := (0 : Nat), n := n, c := c }))))))))))), Sum.inr (Sum.inr (Sum.inr (Sum.inr (Sum.inr (Sum.inr (Sum.inr (Sum.inr (Sum.inr (Sum.inr (Sum.inr (Sum.inl { a := (1 : Nat), u := (4 : Nat), o := (0 : Nat), n := n, c := d }))))))))))), Sum.inr (Sum.inr (Sum.inr (Sum.inr (Sum.inr (Sum.inr (Sum.inl (IntKind.i64, m)))))))], j := none, c := (3 : Nat), z := false }], ints := [], opqs := (0 : Nat), arrs := [some { elem := (3 : TypeId), k := AK.o (Obj.rows [CK.n IntKind.i64] L), l := [], cap := c, ro := false }, some { elem := (36 : TypeId), k := AK.o (Obj.rows [CK.n IntKind.i64, CK.n IntKind.i64, CK.n IntKind.i64, CK.n IntKind.i64] M), l := [], cap := d, ro := false }], junks := (0 : Nat) })) := by kernel_rfl
theorem links_vc (K : AV → St → Prop) (L M : Rws) (n c d : Nat) (m : Int) : (runR invLi tNO 16 [ptr 0 0] (nbSt n c L d M m) K) = (∃ (y0 : CSP), ((c = c ∧ d = d ∧ n = n) ∧ U.csshI n c L d M y0) ∧ ∀ (L'1 : Rws) (n'2 c'3 : Nat), n'2 = n → n'2 ≤ c'3 → L'1 = U.csvs y0 → ∃ (y4 : CSP), ((c = c ∧ d = d ∧ n = n) ∧ U.csshI n c L d M y4) ∧ ∀ (L'5 : Rws) (n'6 c'7 : Nat), n'6 = n → n'6 ≤ c'7 → L'5 = U.csks y4 → ∀ (z8 : Int), z8 = (↑n'6 : Int) → (∃ (y9 : Int × Rws × Nat × Nat), ((0 : Nat) = (0 : Nat) ∧ (0 : Nat) = Prod.fst (Prod.snd (Prod.snd y9)) ∧ (0 : Nat) = Prod.snd (Prod.snd (Prod.snd y9))) ∧ ((0 : Nat) = (0 : Nat) ∧ n'2 = n'2 ∧ c'3 = c'3) ∧ ((0 : Nat) = (0 : Nat) ∧ n'6 = n'6 ∧ c'7 = c'7) ∧ z8 = z8 ∧ (0 : Int) = Prod.fst y9 ∧ ((0 : Nat) = (0 : Nat) ∧ n = n ∧ c = c) ∧ ((0 : Nat) = (0 : Nat) ∧ n = n ∧ d = d) ∧ m = m ∧ (L = L ∧ c = c ∧ false = false) ∧ (M = M ∧ d = d ∧ false = false) ∧ (U.nilL = U.nilL ∧ (0 : Nat) = (0 : Nat) ∧ false = false) ∧ (L'1 = L'1 ∧ c'3 = c'3 ∧ false = false) ∧ (L'5 = L'5 ∧ c'7 = c'7 ∧ false = false) ∧ (U.nilL = Prod.fst (Prod.snd y9) ∧ (0 : Nat) = Prod.snd (Prod.snd (Prod.snd y9)) ∧ false = false) ∧ U.liI L'5 L'1 n'6 (Prod.fst y9) (Prod.fst (Prod.snd y9)) (Prod.fst (Prod.snd (Prod.snd y9))) (Prod.snd (Prod.snd (Prod.snd y9)))) ∧ ∀ (x10 : Int × Rws × Nat × Nat), U.liI L'5 L'1 n'6 (Prod.fst x10) (Prod.fst (Prod.snd x10)) (Prod.fst (Prod.snd (Prod.snd x10))) (Prod.snd (Prod.snd (Prod.snd x10))) → (Prod.fst x10 < z8 → ((0 : Int) ≤ Prod.fst x10 ∧ Prod.fst x10 < (↑n'6 : Int)) ∧ ∀ (j11 : Nat), (↑j11 : Int) = (↑((0 : Nat)) : Int) + Prod.fst x10 → j11 < List.length L'5 ∧ ∀ (z12 : Int), z12 = U.fi L'5 j11 ((0 : Nat)) → ((0 : Int) ≤ Prod.fst x10 ∧ Prod.fst x10 < (↑n'2 : Int)) ∧ ∀ (j13 : Nat), (↑j13 : Int) = (↑((0 : Nat)) : Int) + Prod.fst x10 → j13 < List.length L'1 ∧ ∀ (z14 : Int), z14 = U.fi L'1 j13 ((0 : Nat)) → ∀ (z15 : Int), z15 = U.fi L'1 j13 ((0 : Nat) + (1 : Nat)) → ∀ (z16 : Int), z16 = U.fi L'1 j13 ((0 : Nat) + (1 : Nat) + (1 : Nat)) → ∀ (z17 : Int), z17 = U.fi L'1 j13 ((0 : Nat) + (1 : Nat) + (1 : Nat) + (1 : Nat)) → (z14 = (1 : Int) → U.Gd z15 z16 ∧ ∀ (z18 : Int), z18 = U.num z15 z16 → (z12 < z18 → ((0 : Int) ≤ z12 ∧ z12 < (64 : Int)) ∧ ∀ (a19 b20 : Int), a19 = U.sw z12 → b20 = U.po z12 → z15 = z15 ∧ z16 = z16 ∧ z15 = z15 ∧ z16 = z16 ∧ ((0 : Nat) + Prod.fst (Prod.snd (Prod.snd x10)) ≤ List.length (Prod.fst (Prod.snd x10)) ∧ (0 : Nat) + Prod.snd (Prod.snd (Prod.snd x10)) ≤ Prod.snd (Prod.snd (Prod.snd x10))) ∧ True ∧ Prod.fst (Prod.snd (Prod.snd x10)) ≤ (16777216 : Nat) ∧ (1 : Nat) ≤ (16777216 : Nat) ∧ ∀ (L'21 : List (List CV)) (n'22 c'23 : Nat), L'21 = List.take (Prod.fst (Prod.snd (Prod.snd x10))) (List.drop ((0 : Nat)) (Prod.fst (Prod.snd x10))) ++ [CV.i a19, CV.i b20, CV.i z15, CV.i z16] :: U.nilL → n'22 = Prod.fst (Prod.snd (Prod.snd x10)) + (1 : Nat) → n'22 ≤ c'23 → z15 = z15 ∧ z16 = z16 ∧ ∀ (z24 : Int), z24 = IntKind.wrap IntKind.i64 (Prod.fst x10 + (1 : Int)) → ∃ (y25 : Int × Rws × Nat × Nat), ((0 : Nat) = (0 : Nat) ∧ n'22 = Prod.fst (Prod.snd (Prod.snd y25)) ∧ c'23 = Prod.snd (Prod.snd (Prod.snd y25))) ∧ ((0 : Nat) = (0 : Nat) ∧ n'2 = n'2 ∧ c'3 = c'3) ∧ ((0 : Nat) = (0 : Nat) ∧ n'6 = n'6 ∧ c'7 = c'7) ∧ z8 = z8 ∧ z24 = Prod.fst y25 ∧ ((0 : Nat) = (0 : Nat) ∧ n = n ∧ c = c) ∧ ((0 : Nat) = (0 : Nat) ∧ n = n ∧ d = d) ∧ m = m ∧ (L = L ∧ c = c ∧ false = false) ∧ (M = M ∧ d = d ∧ false = false) ∧ (U.nilL = U.nilL ∧ (0 : Nat) = (0 : Nat) ∧ false = false) ∧ (L'1 = L'1 ∧ c'3 = c'3 ∧ false = false) ∧ (L'5 = L'5 ∧ c'7 = c'7 ∧ false = false) ∧ (L'21 = Prod.fst (Prod.snd y25) ∧ c'23 = Prod.snd (Prod.snd (Prod.snd y25)) ∧ false = false) ∧ U.liI L'5 L'1 n'6 (Prod.fst y25) (Prod.fst (Prod.snd y25)) (Prod.fst (Prod.snd (Prod.snd y25))) (Prod.snd (Prod.snd (Prod.snd y25))) ∧ Int.toNat (↑n'6 : Int) - Int.toNat (Prod.fst y25) < Int.toNat (↑n'6 : Int) - Int.toNat (Prod.fst x10)) ∧ (¬z12 < z18 → ∀ (z26 : Int), z26 = IntKind.wrap IntKind.i64 (Prod.fst x10 + (1 : Int)) → ∃ (y27 : Int × Rws × Nat × Nat), ((0 : Nat) = (0 : Nat) ∧ Prod.fst (Prod.snd (Prod.snd x10)) = Prod.fst (Prod.snd (Prod.snd y27)) ∧ Prod.snd (Prod.snd (Prod.snd x10)) = Prod.snd (Prod.snd (Prod.snd y27))) ∧ ((0 : Nat) = (0 : Nat) ∧ n'2 = n'2 ∧ c'3 = c'3) ∧ ((0 : Nat) = (0 : Nat) ∧ n'6 = n'6 ∧ c'7 = c'7) ∧ z8 = z8 ∧ z26 = Prod.fst y27 ∧ ((0 : Nat) = (0 : Nat) ∧ n = n ∧ c = c) ∧ ((0 : Nat) = (0 : Nat) ∧ n = n ∧ d = d) ∧ m = m ∧ (L = L ∧ c = c ∧ false = false) ∧ (M = M ∧ d = d ∧ false = false) ∧ (U.nilL = U.nilL ∧ (0 : Nat) = (0 : Nat) ∧ false = false) ∧ (L'1 = L'1 ∧ c'3 = c'3 ∧ false = false) ∧ (L'5 = L'5 ∧ c'7 = c'7 ∧ false = false) ∧ (Prod.fst (Prod.snd x10) = Prod.fst (Prod.snd y27) ∧ Prod.snd (Prod.snd (Prod.snd x10)) = Prod.snd (Prod.snd (Prod.snd y27)) ∧ false = false) ∧ U.liI L'5 L'1 n'6 (Prod.fst y27) (Prod.fst (Prod.snd y27)) (Prod.fst (Prod.snd (Prod.snd y27))) (Prod.snd (Prod.snd (Prod.snd y27))) ∧ Int.toNat (↑n'6 : Int) - Int.toNat (Prod.fst y27) < Int.toNat (↑n'6 : Int) - Int.toNat (Prod.fst x10))) ∧ (¬z14 = (1 : Int) → ∀ (z28 : Int), z28 = IntKind.wrap IntKind.i64 (Prod.fst x10 + (1 : Int)) → ∃ (y29 : Int × Rws × Nat × Nat), ((0 : Nat) = (0 : Nat) ∧ Prod.fst (Prod.snd (Prod.snd x10)) = Prod.fst (Prod.snd (Prod.snd y29)) ∧ Prod.snd (Prod.snd (Prod.snd x10)) = Prod.snd (Prod.snd (Prod.snd y29))) ∧ ((0 : Nat) = (0 : Nat) ∧ n'2 = n'2 ∧ c'3 = c'3) ∧ ((0 : Nat) = (0 : Nat) ∧ n'6 = n'6 ∧ c'7 = c'7) ∧ z8 = z8 ∧ z28 = Prod.fst y29 ∧ ((0 : Nat) = (0 : Nat) ∧ n = n ∧ c = c) ∧ ((0 : Nat) = (0 : Nat) ∧ n = n ∧ d = d) ∧ m = m ∧ (L = L ∧ c = c ∧ false = false) ∧ (M = M ∧ d = d ∧ false = false) ∧ (U.nilL = U.nilL ∧ (0 : Nat) = (0 : Nat) ∧ false = false) ∧ (L'1 = L'1 ∧ c'3 = c'3 ∧ false = false) ∧ (L'5 = L'5 ∧ c'7 = c'7 ∧ false = false) ∧ (Prod.fst (Prod.snd x10) = Prod.fst (Prod.snd y29) ∧ Prod.snd (Prod.snd (Prod.snd x10)) = Prod.snd (Prod.snd (Prod.snd y29)) ∧ false = false) ∧ U.liI L'5 L'1 n'6 (Prod.fst y29) (Prod.fst (Prod.snd y29)) (Prod.fst (Prod.snd (Prod.snd y29))) (Prod.snd (Prod.snd (Prod.snd y29))) ∧ Int.toNat (↑n'6 : Int) - Int.toNat (Prod.fst y29) < Int.toNat (↑n'6 : Int) - Int.toNat (Prod.fst x10))) ∧ (¬Prod.fst x10 < z8 → K (Sum.inl (Sum.inl (Sum.inr (Sum.inr (Sum.inr (Sum.inr (Sum.inr (Sum.inr (Sum.inr (Sum.inr (Sum.inr (Sum.inr (Sum.inr (Sum.inl { a := (2 : Nat), u := (4 : Nat), o := (0 : Nat), n := Prod.fst (Prod.snd (Prod.snd x10)), c := Prod.snd (Prod.snd (Prod.snd x10)) })))))))))))))) { heap := [some { elem := nat_lit 52, cells := [Sum.inr (Sum.inl ((1 : Nat), (0 : Nat)))], j := none, c := (1 : Nat), z := false }, some { elem := nat_lit 75, cells := [Sum.inr (Sum.inr (Sum.inr (Sum.inr (Sum.inr (Sum.inr (Sum.inr (Sum.inr (Sum.inr (Sum.inr (Sum.inr (Sum.inl { a := (0 : Nat), u := (1 : Nat), o := (0 : Nat), n := n, c := c }))))))))))), Sum.inr (Sum.inr (Sum.inr (Sum.inr (Sum.inr (Sum.inr (Sum.inr (Sum.inr (Sum.inr (Sum.inr (Sum.inr (Sum.inl { a := (1 : Nat), u := (4 : Nat), o := (0 : Nat), n := n, c := d }))))))))))), Sum.inr (Sum.inr (Sum.inr (Sum.inr (Sum.inr (Sum.inr (Sum.inl (IntKind.i64, m)))))))], j := none, c := (3 : Nat), z := false }], ints := [], opqs := (0 : Nat), arrs := [some { elem := (3 : TypeId), k := AK.o (Obj.rows [CK.n IntKind.i64] L), l := [], cap := c, ro := false }, some { elem := (36 : TypeId), k := AK.o (Obj.rows [CK.n IntKind.i64, CK.n IntKind.i64, CK.n IntKind.i64, CK.n IntKind.i64] M), l := [], cap := d, ro := false }, some { elem := (64 : Nat), k := AK.o (Obj.rows [CK.n IntKind.i64, CK.n IntKind.i64, CK.n IntKind.i64, CK.n IntKind.i64] (Prod.fst (Prod.snd x10))), l := [], cap := Prod.snd (Prod.snd (Prod.snd x10)), ro := false }], junks := (0 : Nat) })) := by kernel_rfl
end Go.Proofs.Ytmahbhoblhhamaa
end

section
set_option linter.unusedVariables false
set_option linter.unusedSimpArgs false
set_option maxRecDepth 10000
namespace Go.Proofs.Ytmahbhoblhhamaa
open Go Reck Ost
/-- What a net's pairs are. -/
structure U.NetI (P : CSP) : Prop where
  key : ∀ k e, (k, e) ∈ P → 0 ≤ k ∧ k < 64
  sw : ∀ k x y h, (k, (⟨1, x, y, h⟩ : CSv)) ∈ P → U.Gd x y ∧ h = 0 ∧ U.num x y ≠ k ∧ (U.num x y, (⟨1, U.sw k, U.po k, 0⟩ : CSv)) ∈ P
  kind : ∀ k q x y h, (k, (⟨q, x, y, h⟩ : CSv)) ∈ P → q = 1 ∨ (q = 2 ∧ x = 0 ∧ y = 0 ∧ 0 ≤ h ∧ h < 16)
  host : ∀ k k' x y x' y' h, (k, (⟨2, x, y, h⟩ : CSv)) ∈ P → (k', (⟨2, x', y', h⟩ : CSv)) ∈ P → k = k'
theorem num_sp (k : Int) : U.num (U.sw k) (U.po k) = k := by unfold U.num U.sw U.po; omega
theorem sp_num {a b : Int} (h : U.Gd a b) : U.sw (U.num a b) = a ∧ U.po (U.num a b) = b := by
  have := h.out
  unfold U.num U.sw U.po; omega
theorem gd_sp {k : Int} (h : 0 ≤ k ∧ k < 64) : U.Gd (U.sw k) (U.po k) := ⟨by unfold U.sw; omega, by unfold U.po; omega⟩
theorem num_b {a b : Int} (h : U.Gd a b) : 0 ≤ U.num a b ∧ U.num a b < 64 := by
  have := h.out
  unfold U.num; omega
theorem oth_k {P : CSP} {a b k x y h : Int} (hP : U.NetI P) (ho : U.Oth P a b k x y h) : (k = 0 ↔ (U.Gd a b → ¬ U.csHasK P (U.num a b))) := by
  rcases ho.out with ⟨g, ⟨e⟩⟩ | ⟨g, rfl, rfl, rfl, rfl⟩
  · constructor
    · rintro rfl
      rcases hP.kind _ _ _ _ _ e with h | h
      · omega
      · omega
    · exact fun hn => (hn g ⟨_, e⟩).elim
  · exact ⟨fun _ => g, fun _ => rfl⟩
theorem taken_run (K : AV → St → Prop) (L M : Rws) (n c d : Nat) (m a b : Int) (P : CSP) (h : U.csshI n c L d M P) (hn : n ≤ 64) (hP : U.NetI P)
    (h1 : U.Gd a b → U.csHasK P (U.num a b) → K (lit (.bool true)) (nbSt n c L d M m)) (h0 : (U.Gd a b → ¬ U.csHasK P (U.num a b)) → K (lit (.bool false)) (nbSt n c L d M m)) :
    runR inv0 tNO 33 [ptr 0 0, plA a b] (nbSt n c L d M m) K := by
  rw [taken_vc]
  refine ⟨P, ⟨⟨rfl, rfl, rfl⟩, h, hn⟩, fun k x y hh ho => ⟨fun hk => ?_, fun hk => h0 ((oth_k hP ho).1 (Classical.not_not.1 hk))⟩⟩
  rcases ho.out with ⟨g, e⟩ | ⟨_, e, _⟩
  · exact h1 g ⟨_, e.out⟩
  · exact absurd e hk
def nbNw (n c : Nat) (L : Rws) (d : Nat) (M : Rws) (m : Int) : St := ⟨[nbB, csB (rslC ⟨2, 1, 0, n, c⟩) (rslC ⟨3, 4, 0, n, d⟩) m], [], 0, [none, none, some (cskB L c), some (csvB M d)], 0⟩
/-- P' is P without what was plugged in at a port. -/
structure U.Pulled (P : CSP) (a b k x y : Int) (P' : CSP) : Prop where
  srt : U.csSrt P'
  mem : ∀ q e, (q, e) ∈ P' ↔ (q, e) ∈ P ∧ q ≠ U.num a b ∧ (k = 1 → q ≠ U.num x y)
theorem pull_run (K : AV → St → Prop) (L M : Rws) (n c d : Nat) (m a b : Int) (P : CSP) (h : U.csshI n c L d M P) (hn : n ≤ 64) (hP : U.NetI P)
    (h1 : ∀ k x y hh : Int, U.Oth P a b k x y hh → ¬ k = 0 → ∀ (L' : Rws) (n' : Nat) (M' : Rws) (P' : CSP), n' = U.cslen P' → U.Pulled P a b k x y P' → U.csshI n' c L' d M' P' → K (.inr [.inr (csC k x y hh), .inl (.inl (.bool true))]) (nbNw n' c L' d M' m))
    (h0 : (U.Gd a b → ¬ U.csHasK P (U.num a b)) → K (.inr [.inr (csC 0 0 0 0), .inl (.inl (.bool false))]) (nbSt n c L d M m)) :
    runR inv0 tNO 13 [ptr 0 0, plA a b] (nbSt n c L d M m) K := by
  rw [pull_vc]
  refine ⟨P, ⟨⟨rfl, rfl, rfl⟩, h, hn⟩, fun k x y hh ho => ⟨fun hk => ?_, fun hk => ⟨fun hk2 => ?_, fun hk2 => ?_⟩⟩⟩
  · subst hk
    rcases ho.out with ⟨g, e⟩ | ⟨_, e, _⟩
    · have g2 := hP.sw _ _ _ _ e.out
      refine ⟨g2.1, fun z5 h5 => ⟨rfl, rfl, rfl, rfl, P, ⟨⟨rfl, rfl, rfl⟩, h, by omega⟩, fun z7 L8 n9 M10 P11 e9 _ r1 i1 => ⟨rfl, rfl, g, fun z12 h12 => ⟨rfl, rfl, rfl, rfl, P11, ⟨⟨rfl, rfl, rfl⟩, i1, ?_⟩, fun z14 L15 n16 M17 P18 e16 _ r2 i2 => ⟨rfl, rfl, h1 1 x y hh ho (by decide) L15 n16 M17 P18 e16 ⟨r2.srt, fun q e => ?_⟩ i2⟩⟩⟩⟩⟩
      · have := r1.len; have := csshI_n h; have e := e9; unfold U.cslen at e; omega
      · subst h5; subst h12
        rw [r2.mem, r1.mem]
        exact ⟨fun ⟨⟨x1, x2⟩, x3⟩ => ⟨x1, x3, fun _ => x2⟩, fun ⟨x1, x2, x3⟩ => ⟨⟨x1, x3 rfl⟩, x2⟩⟩
    · exact absurd e (by decide)
  · subst hk2
    rcases ho.out with ⟨g, e⟩ | ⟨_, e, _⟩
    · refine ⟨g, fun z19 h19 => ⟨rfl, rfl, rfl, rfl, P, ⟨⟨rfl, rfl, rfl⟩, h, by omega⟩, fun z21 L22 n23 M24 P25 e23 _ r1 i1 => ⟨rfl, rfl, h1 2 x y hh ho (by decide) L22 n23 M24 P25 e23 ⟨r1.srt, fun q e => ?_⟩ i1⟩⟩⟩
      subst h19
      rw [r1.mem]
      exact ⟨fun ⟨x1, x2⟩ => ⟨x1, x2, fun h => absurd h (by decide)⟩, fun ⟨x1, x2, _⟩ => ⟨x1, x2⟩⟩
    · exact absurd e (by decide)
  · refine h0 ((oth_k hP ho).1 ?_)
    rcases ho.out with ⟨g, e⟩ | ⟨_, e, _⟩
    · rcases hP.kind _ _ _ _ _ e.out with h | h <;> omega
    · exact e
theorem vs_fi {P : CSP} {j : Nat} {k : Int} {e : CSv} (h : P[j]? = some (k, e)) : U.fi (U.csvs P) j 0 = e.v0 ∧ U.fi (U.csvs P) j 1 = e.v1 ∧ U.fi (U.csvs P) j 2 = e.v2 ∧ U.fi (U.csvs P) j 3 = e.v3 ∧ U.fi (U.csks P) j 0 = k := by
  have h1 : (U.csvs P).getD j [] = e.row := by rw [List.getD_eq_getElem?_getD]; simp [U.csvs, h]
  have h2 : (U.csks P).getD j [] = [.i k] := by rw [List.getD_eq_getElem?_getD]; simp [U.csks, h]
  unfold U.fi
  rw [h1, h2]
  exact ⟨rfl, rfl, rfl, rfl, rfl⟩
theorem vs_len (P : CSP) : (U.csvs P).length = P.length ∧ (U.csks P).length = P.length := by simp [U.csvs, U.csks]
theorem where_run (K : AV → St → Prop) (L M : Rws) (n c d : Nat) (m h : Int) (P : CSP) (hs : U.csshI n c L d M P) (hn : n ≤ 64) (hP : U.NetI P)
    (h1 : ∀ k : Int, U.csHasE P k 2 0 0 h → ∀ a b : Int, a = U.sw k → b = U.po k → K (.inr [.inr [xintC .i64 a, xintC .i64 b], .inl (.inl (.bool true))]) (nbSt n c L d M m)) (h0 : (∀ k : Int, ¬ U.csHasE P k 2 0 0 h) → K (.inr [.inr [xintC .i64 0, xintC .i64 0], .inl (.inl (.bool false))]) (nbSt n c L d M m)) :
    runR invWh tNO 12 [ptr 0 0, xi .i64 h] (nbSt n c L d M m) K := by
  rw [where_vc]
  have hPn := csshI_n hs
  have hl := vs_len P
  refine ⟨P, ⟨⟨rfl, rfl, rfl⟩, hs⟩, fun L1 n2 c3 e2 e3 f1 => ⟨P, ⟨⟨rfl, rfl, rfl⟩, hs⟩, fun L5 n6 c7 e6 e7 f5 z8 h8 => ⟨?_, ?_⟩⟩⟩
  · refine ⟨0, ?_⟩
    repeat' (first | exact rfl | with_reducible apply And.intro)
    exact ⟨Int.le_refl _, by omega, fun m hm => by omega⟩
  subst f1; subst f5
  rintro i ⟨i1, i2, i3⟩
  have key : ∀ j : Nat, j < n → ∃ k e, P[j]? = some (k, e) := fun j hj => ⟨_, _, List.getElem?_eq_getElem (by omega)⟩
  refine ⟨fun hi => ⟨by omega, fun j hj => ⟨by omega, fun z12 h12 => ⟨by omega, fun j2 hj2 => ⟨by omega, fun z14 h14 z15 h15 z16 h16 z17 h17 => ?_⟩⟩⟩⟩, fun hi => h0 fun k hk => ?_⟩
  · obtain rfl : j2 = j := by omega
    obtain ⟨k, e, hke⟩ := key j2 (by omega)
    obtain ⟨q0, q1, q2, q3, q4⟩ := vs_fi hke
    refine ⟨fun ⟨g0, ⟨g1, g2, _⟩, g3, _⟩ => ?_, fun g z20 h20 => ?_⟩
    · have hz : z12 = k := h12.trans q4
      subst hz
      have hm := List.mem_of_getElem? hke
      have he : e = ⟨2, 0, 0, h⟩ := by
        obtain ⟨v0, v1, v2, v3⟩ := e
        dsimp only at q0 q1 q2 q3
        rw [q0.symm.trans (h14.symm.trans g0), q1.symm.trans (h15.symm.trans g1), q2.symm.trans (h16.symm.trans g2), q3.symm.trans (h17.symm.trans g3)]
      exact ⟨hP.key _ _ hm, fun a b ha hb => h1 z12 ⟨by rw [← he]; exact hm⟩ a b ha hb⟩
    · have e20 := iw h20 (by omega)
      refine ⟨z20, ?_⟩
      repeat' (first | exact rfl | with_reducible apply And.intro)
      · refine ⟨by omega, by omega, fun m hm => ?_⟩
        by_cases hmi : (m : Int) < i
        · exact i3 m hmi
        · obtain rfl : m = j2 := by omega
          exact fun ⟨x0, x1, x2, x3⟩ => g ⟨h14.trans x0, ⟨h15.trans x1, h16.trans x2, trivial⟩, h17.trans x3, trivial⟩
      · omega
  · obtain ⟨j, hj⟩ := List.getElem?_of_mem hk.out
    have hl := (List.getElem?_eq_some_iff.1 hj).1
    obtain ⟨q0, q1, q2, q3, q4⟩ := vs_fi hj
    exact i3 j (by omega) ⟨q0, q1, q2, q3⟩
theorem lnk_succ (L M : Rws) (n : Nat) : U.lnk L M (n + 1) = U.lnk L M n ++ (if U.fi M n 0 = 1 ∧ U.fi L n 0 < U.num (U.fi M n 1) (U.fi M n 2) then [[.i (U.sw (U.fi L n 0)), .i (U.po (U.fi L n 0)), .i (U.fi M n 1), .i (U.fi M n 2)]] else []) := by
  unfold U.lnk
  rw [List.range_succ, List.filterMap_append]
  congr 1
  split <;> simp_all
theorem li_no {L M : Rws} {n : Nat} {i z : Int} {O : Rws} {q c : Nat} (h : U.liI L M n i O q c) (hi : i < n) (hz : z = i + 1) (hno : ¬ (U.fi M i.toNat 0 = 1 ∧ U.fi L i.toNat 0 < U.num (U.fi M i.toNat 1) (U.fi M i.toNat 2))) : U.liI L M n z O q c := by
  obtain ⟨h1, h2, h3, h4, h5, h6⟩ := h
  exact ⟨by omega, by omega, by rw [show z.toNat = i.toNat + 1 by omega, lnk_succ, if_neg hno, List.append_nil]; exact h3, h4, by omega, h6⟩
theorem links_run (K : AV → St → Prop) (L M : Rws) (n c d : Nat) (m : Int) (P : CSP) (hs : U.csshI n c L d M P) (hn : n ≤ 64) (hP : U.NetI P)
    (h1 : ∀ (O : Rws) (q c' : Nat), O = U.lnk (U.csks P) (U.csvs P) n → q = O.length → q ≤ c' → q ≤ 64 → K (cell (rslC ⟨2, 4, 0, q, c'⟩)) ⟨[nbB, csB (rslC ⟨0, 1, 0, n, c⟩) (rslC ⟨1, 4, 0, n, d⟩) m], [], 0, [some (cskB L c), some (csvB M d), some (rowB 64 [.n .i64, .n .i64, .n .i64, .n .i64] O c' false)], 0⟩) :
    runR invLi tNO 16 [ptr 0 0] (nbSt n c L d M m) K := by
  rw [links_vc]
  have hPn := csshI_n hs
  have hl := vs_len P
  refine ⟨P, ⟨⟨rfl, rfl, rfl⟩, hs⟩, fun L1 n2 c3 e2 e3 f1 => ⟨P, ⟨⟨rfl, rfl, rfl⟩, hs⟩, fun L5 n6 c7 e6 e7 f5 z8 h8 => ⟨?_, ?_⟩⟩⟩
  · refine ⟨(0, ([], (0, 0))), ?_⟩
    repeat' (first | exact rfl | with_reducible apply And.intro)
    exact ⟨Int.le_refl _, by dsimp only; omega, rfl, rfl, by decide, by decide⟩
  subst f1; subst f5
  rintro ⟨i, O, q, c'⟩ hI
  have hI' := hI
  obtain ⟨i1, i2, i3, i4, i5, i6⟩ := hI'
  dsimp only at i1 i2 i3 i4 i5 i6 ⊢
  have key : ∀ j : Nat, j < n → ∃ k e, P[j]? = some (k, e) := fun j hj => ⟨_, _, List.getElem?_eq_getElem (by omega)⟩
  refine ⟨fun hi => ⟨by omega, fun j hj => ⟨by omega, fun z12 h12 => ⟨by omega, fun j2 hj2 => ⟨by omega, fun z14 h14 z15 h15 z16 h16 z17 h17 => ?_⟩⟩⟩⟩, fun hi => ?_⟩
  · obtain rfl : j2 = j := by omega
    obtain ⟨k, e, hke⟩ := key j2 (by omega)
    obtain ⟨q0, q1, q2, q3, q4⟩ := vs_fi hke
    have hit : i.toNat = j2 := by omega
    have hm := List.mem_of_getElem? hke
    refine ⟨fun g1 => ?_, fun g1 z26 h26 => ?_⟩
    · have hsw : U.Gd z15 z16 := by
        obtain ⟨v0, v1, v2, v3⟩ := e
        dsimp only at q0 q1 q2 q3
        have hv : v0 = 1 := by rw [← q0, ← g1, h14]
        subst hv
        have := (hP.sw _ _ _ _ hm).1
        rw [h15, h16]
        have e1 : U.fi (U.csvs P) j2 (0 + 1) = v1 := q1
        have e2 : U.fi (U.csvs P) j2 (0 + 1 + 1) = v2 := q2
        rw [e1, e2]; exact this
      refine ⟨hsw, fun z18 h18 => ⟨fun g2 => ⟨?_, fun a b ha hb => ⟨rfl, rfl, rfl, rfl, ⟨by omega, by omega⟩, trivial, by omega, by decide, fun L21 n22 c23 e21 e22 e23 => ⟨rfl, rfl, fun z24 h24 => ?_⟩⟩⟩, fun g2 z26 h26 => ?_⟩⟩
      · have hz : z12 = k := h12.trans q4
        rw [hz]; exact hP.key _ _ hm
      · have e24 := iw h24 (by omega)
        refine ⟨(z24, (L21, (n22, c23))), ?_⟩
        repeat' (first | exact rfl | with_reducible apply And.intro)
        · have hO : L21 = U.lnk (U.csks P) (U.csvs P) z24.toNat := by
            rw [show z24.toNat = j2 + 1 by omega, lnk_succ, if_pos ⟨h14.symm.trans g1, by have := g2; rw [h12, h18, h15, h16] at this; exact this⟩, e21, ha, hb, h12, h15, h16, List.drop_zero, i4, List.take_length, i3, hit]
            rfl
          refine ⟨by dsimp only; omega, by dsimp only; omega, hO, ?_, by dsimp only; omega, e23⟩
          dsimp only
          rw [e21, List.drop_zero, i4, List.take_length, List.length_append, e22, i4]
          rfl
        · dsimp only; omega
      · have e26 := iw h26 (by omega)
        refine ⟨(z26, (O, (q, c'))), ?_⟩
        repeat' (first | exact rfl | with_reducible apply And.intro)
        · refine li_no hI (by dsimp only; omega) e26 ?_
          dsimp only
          rw [hit]
          rintro ⟨x1, x2⟩
          exact g2 (by rw [h12, h18, h15, h16]; exact x2)
        · dsimp only; omega
    · have e26 := iw h26 (by omega)
      refine ⟨(z26, (O, (q, c'))), ?_⟩
      repeat' (first | exact rfl | with_reducible apply And.intro)
      · refine li_no hI (by dsimp only; omega) e26 ?_
        dsimp only
        rw [hit]
        rintro ⟨x1, x2⟩
        exact g1 (h14.trans x1)
      · dsimp only; omega
  · exact h1 O q c' (by rw [i3, show i.toNat = n by omega]) i4 i6 (by omega)
end Go.Proofs.Ytmahbhoblhhamaa
end

section
namespace Go.Proofs.Ytmahbhoblhhamaa
open Go Reck Ost
set_option linter.unusedVariables false
set_option maxRecDepth 100000
def pTaken : Pat := fun args σ => match args with
  | [.inl (.inl (.inr (.inl (0, 0)))), p] => match aPl p, nbC σ with
    | some (a, b), some (n, c, L, d, M, m) => some fun K => ∃ P, (nbD σ ∧ U.csshI n c L d M P ∧ n ≤ 64 ∧ U.NetI P) ∧ (U.Gd a b → U.csHasK P (U.num a b) → K (lit (.bool true)) (nbSt n c L d M m)) ∧ ((U.Gd a b → ¬ U.csHasK P (U.num a b)) → K (lit (.bool false)) (nbSt n c L d M m))
    | _, _ => none
  | _ => none
theorem pTaken_ok : PatOk 33 pTaken := by
  intro tm σ C h K hK w0 e w hk vs hvs
  unfold pTaken at h
  split at h
  · split at h
    · rename_i a b n c L d M m hp hσ
      simp only [Option.some.injEq] at h; subst h
      obtain ⟨P, ⟨hy, h1, h2, h3⟩, h4, h5⟩ := hK
      obtain rfl := nbC_eq hσ hy
      obtain ⟨x, y, rfl, q1, q2⟩ := twos hvs
      exact knownC noOv names (conOk_ofR tNO_ok) (taken_run K _ _ _ _ _ _ a b P h1 h2 h3 h4 h5) w0 e w hk _ (map2 q1 (aPl_av hp q2))
    · cases h
  · cases h
def pPull : Pat := fun args σ => match args with
  | [.inl (.inl (.inr (.inl (0, 0)))), p] => match aPl p, nbC σ with
    | some (a, b), some (n, c, L, d, M, m) => some fun K => ∃ P, (nbD σ ∧ U.csshI n c L d M P ∧ n ≤ 64 ∧ U.NetI P) ∧ (∀ k x y hh : Int, U.Oth P a b k x y hh → ¬ k = 0 → ∀ (L' : Rws) (n' : Nat) (M' : Rws) (P' : CSP), n' = U.cslen P' → U.Pulled P a b k x y P' → U.csshI n' c L' d M' P' → K (.inr [.inr (csC k x y hh), .inl (.inl (.bool true))]) (nbNw n' c L' d M' m)) ∧
      ((U.Gd a b → ¬ U.csHasK P (U.num a b)) → K (.inr [.inr (csC 0 0 0 0), .inl (.inl (.bool false))]) (nbSt n c L d M m))
    | _, _ => none
  | _ => none
theorem pPull_ok : PatOk 13 pPull := by
  intro tm σ C h K hK w0 e w hk vs hvs
  unfold pPull at h
  split at h
  · split at h
    · rename_i a b n c L d M m hp hσ
      simp only [Option.some.injEq] at h; subst h
      obtain ⟨P, ⟨hy, h1, h2, h3⟩, h4, h5⟩ := hK
      obtain rfl := nbC_eq hσ hy
      obtain ⟨x, y, rfl, q1, q2⟩ := twos hvs
      exact knownC noOv names (conOk_ofR tNO_ok) (pull_run K _ _ _ _ _ _ a b P h1 h2 h3 h4 h5) w0 e w hk _ (map2 q1 (aPl_av hp q2))
    · cases h
  · cases h
def pWhere : Pat := fun args σ => match args with
  | [.inl (.inl (.inr (.inl (0, 0)))), h] => match aInt h, nbC σ with
    | some h, some (n, c, L, d, M, m) => some fun K => ∃ P, (nbD σ ∧ U.csshI n c L d M P ∧ n ≤ 64 ∧ U.NetI P) ∧ (∀ k : Int, U.csHasE P k 2 0 0 h → ∀ a b : Int, a = U.sw k → b = U.po k → K (.inr [.inr [xintC .i64 a, xintC .i64 b], .inl (.inl (.bool true))]) (nbSt n c L d M m)) ∧
      ((∀ k : Int, ¬ U.csHasE P k 2 0 0 h) → K (.inr [.inr [xintC .i64 0, xintC .i64 0], .inl (.inl (.bool false))]) (nbSt n c L d M m))
    | _, _ => none
  | _ => none
theorem pWhere_ok : PatOk 12 pWhere := by
  intro tm σ C h K hK w0 e w hk vs hvs
  unfold pWhere at h
  split at h
  · split at h
    · rename_i hh n c L d M m hp hσ
      simp only [Option.some.injEq] at h; subst h
      obtain ⟨P, ⟨hy, h1, h2, h3⟩, h4, h5⟩ := hK
      obtain rfl := nbC_eq hσ hy
      obtain ⟨x, y, rfl, q1, q2⟩ := twos hvs
      exact knownC noOv names (conOk_ofR tNO_ok) (where_run K _ _ _ _ _ _ hh P h1 h2 h3 h4 h5) w0 e w hk _ (map2 q1 (as_aInt hp q2))
    · cases h
  · cases h
def pLinks : Pat := fun args σ => match args with
  | [.inl (.inl (.inr (.inl (0, 0))))] => match nbC σ with
    | some (n, c, L, d, M, m) => some fun K => ∃ P, (nbD σ ∧ U.csshI n c L d M P ∧ n ≤ 64 ∧ U.NetI P) ∧ ∀ (O : Rws) (q c' : Nat), O = U.lnk (U.csks P) (U.csvs P) n → q = O.length → q ≤ c' → q ≤ 64 → K (cell (rslC ⟨2, 4, 0, q, c'⟩)) ⟨[nbB, csB (rslC ⟨0, 1, 0, n, c⟩) (rslC ⟨1, 4, 0, n, d⟩) m], [], 0, [some (cskB L c), some (csvB M d), some (rowB 64 [.n .i64, .n .i64, .n .i64, .n .i64] O c' false)], 0⟩
    | _ => none
  | _ => none
theorem pLinks_ok : PatOk 16 pLinks := by
  intro tm σ C h K hK w0 e w hk vs hvs
  unfold pLinks at h
  split at h
  · split at h
    · rename_i n c L d M m hσ
      simp only [Option.some.injEq] at h; subst h
      obtain ⟨P, ⟨hy, h1, h2, h3⟩, h4⟩ := hK
      obtain rfl := nbC_eq hσ hy
      exact knownC noOv names (conOk_ofR tNO_ok) (links_run K _ _ _ _ _ _ P h1 h2 h3 h4) w0 e w hk vs hvs
    · cases h
  · cases h
def tN1 : Tbl := tblOr (tblIf 33 pTaken) (tblOr (tblIf 13 pPull) (tblOr (tblIf 12 pWhere) (tblOr (tblIf 16 pLinks) tNO)))
theorem tN1_ok : TblOk Try.prog tN1 := tblOr_ok (tblIf_ok pTaken_ok) (tblOr_ok (tblIf_ok pPull_ok) (tblOr_ok (tblIf_ok pWhere_ok) (tblOr_ok (tblIf_ok pLinks_ok) tNO_ok)))
--PLAIN
theorem join_vc (K : AV → St → Prop) (L M : Rws) (n c d : Nat) (m a b a' b' : Int) : (runR inv0 tN1 14 [ptr 0 0, plA a b, plA a' b'] (nbSt n c L d M m) K) = ((U.Gd a b → (U.Gd a' b' → (a = a' ∧ b = b' ∧ True → K (Sum.inl (Sum.inl (Sum.inr (Sum.inr (Sum.inr (Sum.inr (Sum.inr (Sum.inr (Sum.inl (IntKind.i64, (1 : Int))))))))))) { heap := [some { elem := nat_lit 52, cells := [Sum.inr (Sum.inl ((1 : Nat), (0 : Nat)))], j := none, c := (1 : Nat), z := false }, some { elem := nat_lit 75, cells := [Sum.inr (Sum.inr (Sum.inr (Sum.inr (Sum.inr (Sum.inr (Sum.inr (Sum.inr (Sum.inr (Sum.inr (Sum.inr (Sum.inl { a := (0 : Nat), u := (1 : Nat), o := (0 : Nat), n := n, c := c }))))))))))), Sum.inr (Sum.inr (Sum.inr (Sum.inr (Sum.inr (Sum.inr (Sum.inr (Sum.inr (Sum.inr (Sum.inr (Sum.inr (Sum.inl { a := (1 : Nat), u := (4 : Nat), o := (0 : Nat), n := n, c := d }))))))))))), Sum.inr (Sum.inr (Sum.inr (Sum.inr (Sum.inr (Sum.inr (Sum.inl (IntKind.i64, m)))))))], j := none, c := (3 : Nat), z := false }], ints := [], opqs := (0 : Nat), arrs := [some { elem := (3 : Nat), k := AK.o (Obj.rows [CK.n IntKind.i64] L), l := [], cap := c, ro := false }, some { elem := (36 : Nat), k := AK.o (Obj.rows [CK.n IntKind.i64, CK.n IntKind.i64, CK.n IntKind.i64, CK.n IntKind.i64] M), l := [], cap := d, ro := false }], junks := (0 : Nat) }) ∧ (¬(a = a' ∧ b = b' ∧ True) → ∃ (y0 : CSP), ((c = c ∧ d = d ∧ n = n) ∧ U.csshI n c L d M y0 ∧ n ≤ (64 : Nat) ∧ U.NetI y0) ∧ (U.Gd a b → U.csHasK y0 (U.num a b) → K (Sum.inl (Sum.inl (Sum.inr (Sum.inr (Sum.inr (Sum.inr (Sum.inr (Sum.inr (Sum.inl (IntKind.i64, (3 : Int))))))))))) { heap := [some { elem := nat_lit 52, cells := [Sum.inr (Sum.inl ((1 : Nat), (0 : Nat)))], j := none, c := (1 : Nat), z := false }, some { elem := nat_lit 75, cells := [Sum.inr (Sum.inr (Sum.inr (Sum.inr (Sum.inr (Sum.inr (Sum.inr (Sum.inr (Sum.inr (Sum.inr (Sum.inr (Sum.inl { a := (0 : Nat), u := (1 : Nat), o := (0 : Nat), n := n, c := c }))))))))))), Sum.inr (Sum.inr (Sum.inr (Sum.inr (Sum.inr (Sum.inr (Sum.inr (Sum.inr (Sum.inr (Sum.inr (Sum.inr (Sum.inl { a := (1 : Nat), u := (4 : Nat), o := (0 : Nat), n := n, c := d }))))))))))), Sum.inr (Sum.inr (Sum.inr (Sum.inr (Sum.inr (Sum.inr (Sum.inl (IntKind.i64, m)))))))], j := none, c := (3 : Nat), z := false }], ints := [], opqs := (0 : Nat), arrs := [some { elem := (3 : Nat), k := AK.o (Obj.rows [CK.n IntKind.i64] L), l := [], cap := c, ro := false }, some { elem := (36 : Nat), k := AK.o (Obj.rows [CK.n IntKind.i64, CK.n IntKind.i64, CK.n IntKind.i64, CK.n IntKind.i64] M), l := [], cap := d, ro := false }], junks := (0 : Nat) }) ∧ ((U.Gd a b → ¬U.csHasK y0 (U.num a b)) → ∃ (y1 : CSP), ((c = c ∧ d = d ∧ n = n) ∧ U.csshI n c L d M y1 ∧ n ≤ (64 : Nat) ∧ U.NetI y1) ∧ (U.Gd a' b' → U.csHasK y1 (U.num a' b') → K (Sum.inl (Sum.inl (Sum.inr (Sum.inr (Sum.inr (Sum.inr (Sum.inr (Sum.inr (Sum.inl (IntKind.i64, (3 : Int))))))))))) { heap := [some { elem := nat_lit 52, cells := [Sum.inr (Sum.inl ((1 : Nat), (0 : Nat)))], j := none, c := (1 : Nat), z := false }, some { elem := nat_lit 75, cells := [Sum.inr (Sum.inr (Sum.inr (Sum.inr (Sum.inr (Sum.inr (Sum.inr (Sum.inr (Sum.inr (Sum.inr (Sum.inr (Sum.inl { a := (0 : Nat), u := (1 : Nat), o := (0 : Nat), n := n, c := c }))))))))))), Sum.inr (Sum.inr (Sum.inr (Sum.inr (Sum.inr (Sum.inr (Sum.inr (Sum.inr (Sum.inr (Sum.inr (Sum.inr (Sum.inl { a := (1 : Nat), u := (4 : Nat), o := (0 : Nat), n := n, c := d }))))))))))), Sum.inr (Sum.inr (Sum.inr (Sum.inr (Sum.inr (Sum.inr (Sum.inl (IntKind.i64, m)))))))], j := none, c := (3 : Nat), z := false }], ints := [], opqs := (0 : Nat), arrs := [some { elem := (3 : Nat), k := AK.o (Obj.rows [CK.n IntKind.i64] L), l := [], cap := c, ro := false }, some { elem := (36 : Nat), k := AK.o (Obj.rows [CK.n IntKind.i64, CK.n IntKind.i64, CK.n IntKind.i64, CK.n IntKind.i64] M), l := [], cap := d, ro := false }], junks := (0 : Nat) }) ∧ ((U.Gd a' b' → ¬U.csHasK y1 (U.num a' b')) → U.Gd a b ∧ ∀ (z2 : Int), z2 = U.num a b → a' = a' ∧ b' = b' ∧ a = a ∧ b = b ∧ ∃ (y3 : CSP), ((c = c ∧ d = d ∧ n = n) ∧ U.csshI n c L d M y3 ∧ n ≤ (100000 : Nat)) ∧ (U.csRoom y3 z2 m → ∀ (L'4 : Rws) (n'5 c'6 : Nat) (M'7 : Rws) (d'8 : Nat) (P'9 : CSP), n'5 = U.cslen P'9 → U.csPut y3 z2 { v0 := (1 : Int), v1 := a', v2 := b', v3 := (0 : Int) } P'9 → U.csshI n'5 c'6 L'4 d'8 M'7 P'9 → a' = a' ∧ b' = b' ∧ a = a ∧ b = b ∧ U.Gd a' b' ∧ ∀ (z10 : Int), z10 = U.num a' b' → a = a ∧ b = b ∧ a' = a' ∧ b' = b' ∧ ∃ (y11 : CSP), ((c'6 = c'6 ∧ d'8 = d'8 ∧ n'5 = n'5) ∧ U.csshI n'5 c'6 L'4 d'8 M'7 y11 ∧ n'5 ≤ (100000 : Nat)) ∧ (U.csRoom y11 z10 m → ∀ (L'12 : Rws) (n'13 c'14 : Nat) (M'15 : Rws) (d'16 : Nat) (P'17 : CSP), n'13 = U.cslen P'17 → U.csPut y11 z10 { v0 := (1 : Int), v1 := a, v2 := b, v3 := (0 : Int) } P'17 → U.csshI n'13 c'14 L'12 d'16 M'15 P'17 → a = a ∧ b = b ∧ a' = a' ∧ b' = b' ∧ K (Sum.inl (Sum.inl (Sum.inr (Sum.inr (Sum.inr (Sum.inr (Sum.inr (Sum.inr (Sum.inl (IntKind.i64, (0 : Int))))))))))) { heap := [some { elem := nat_lit 52, cells := [Sum.inr (Sum.inl ((1 : Nat), (0 : Nat)))], j := none, c := (1 : Nat), z := false }, some { elem := nat_lit 75, cells := [Sum.inr (Sum.inr (Sum.inr (Sum.inr (Sum.inr (Sum.inr (Sum.inr (Sum.inr (Sum.inr (Sum.inr (Sum.inr (Sum.inl { a := (2 : Nat), u := (1 : Nat), o := (0 : Nat), n := n'13, c := c'14 }))))))))))), Sum.inr (Sum.inr (Sum.inr (Sum.inr (Sum.inr (Sum.inr (Sum.inr (Sum.inr (Sum.inr (Sum.inr (Sum.inr (Sum.inl { a := (3 : Nat), u := (4 : Nat), o := (0 : Nat), n := n'13, c := d'16 }))))))))))), Sum.inr (Sum.inr (Sum.inr (Sum.inr (Sum.inr (Sum.inr (Sum.inl (IntKind.i64, m)))))))], j := none, c := (3 : Nat), z := false }], ints := [], opqs := (0 : Nat), arrs := [none, none, some { elem := (3 : Nat), k := AK.o (Obj.rows [CK.n IntKind.i64] L'12), l := [], cap := c'14, ro := false }, some { elem := (36 : Nat), k := AK.o (Obj.rows [CK.n IntKind.i64, CK.n IntKind.i64, CK.n IntKind.i64, CK.n IntKind.i64] M'15), l := [], cap := d'16, ro := false }], junks := (0 : Nat) }) ∧ (¬U.csRoom y11 z10 m → a = a ∧ b = b ∧ a' = a' ∧ b' = b' ∧ K (Sum.inl (Sum.inl (Sum.inr (Sum.inr (Sum.inr (Sum.inr (Sum.inr (Sum.inr (Sum.inl (IntKind.i64, (4 : Int))))))))))) { heap := [some { elem := nat_lit 52, cells := [Sum.inr (Sum.inl ((1 : Nat), (0 : Nat)))], j := none, c := (1 : Nat), z := false }, some { elem := nat_lit 75, cells := [Sum.inr (Sum.inr (Sum.inr (Sum.inr (Sum.inr (Sum.inr (Sum.inr (Sum.inr (Sum.inr (Sum.inr (Sum.inr (Sum.inl { a := (2 : Nat), u := (1 : Nat), o := (0 : Nat), n := n'5, c := c'6 }))))))))))), Sum.inr (Sum.inr (Sum.inr (Sum.inr (Sum.inr (Sum.inr (Sum.inr (Sum.inr (Sum.inr (Sum.inr (Sum.inr (Sum.inl { a := (3 : Nat), u := (4 : Nat), o := (0 : Nat), n := n'5, c := d'8 }))))))))))), Sum.inr (Sum.inr (Sum.inr (Sum.inr (Sum.inr (Sum.inr (Sum.inl (IntKind.i64, m)))))))], j := none, c := (3 : Nat), z := false }], ints := [], opqs := (0 : Nat), arrs := [none, none, some { elem := (3 : Nat), k := AK.o (Obj.rows [CK.n IntKind.i64] L'4), l := [], cap := c'6, ro := false }, some { elem := (36 : Nat), k := AK.o (Obj.rows [CK.n IntKind.i64, CK.n IntKind.i64, CK.n IntKind.i64, CK.n IntKind.i64] M'7), l := [], cap := d'8, ro := false }], junks := (0 : Nat) })) ∧ (¬U.csRoom y3 z2 m → a' = a' ∧ b' = b' ∧ a = a ∧ b = b ∧ U.Gd a' b' ∧ ∀ (z18 : Int), z18 = U.num a' b' → a = a ∧ b = b ∧ a' = a' ∧ b' = b' ∧ ∃ (y19 : CSP), ((c = c ∧ d = d ∧ n = n) ∧ U.csshI n c L d M y19 ∧ n ≤ (100000 : Nat)) ∧ (U.csRoom y19 z18 m → ∀ (L'20 : Rws) (n'21 c'22 : Nat) (M'23 : Rws) (d'24 : Nat) (P'25 : CSP), n'21 = U.cslen P'25 → U.csPut y19 z18 { v0 := (1 : Int), v1 := a, v2 := b, v3 := (0 : Int) } P'25 → U.csshI n'21 c'22 L'20 d'24 M'23 P'25 → a = a ∧ b = b ∧ a' = a' ∧ b' = b' ∧ K (Sum.inl (Sum.inl (Sum.inr (Sum.inr (Sum.inr (Sum.inr (Sum.inr (Sum.inr (Sum.inl (IntKind.i64, (0 : Int))))))))))) { heap := [some { elem := nat_lit 52, cells := [Sum.inr (Sum.inl ((1 : Nat), (0 : Nat)))], j := none, c := (1 : Nat), z := false }, some { elem := nat_lit 75, cells := [Sum.inr (Sum.inr (Sum.inr (Sum.inr (Sum.inr (Sum.inr (Sum.inr (Sum.inr (Sum.inr (Sum.inr (Sum.inr (Sum.inl { a := (2 : Nat), u := (1 : Nat), o := (0 : Nat), n := n'21, c := c'22 }))))))))))), Sum.inr (Sum.inr (Sum.inr (Sum.inr (Sum.inr (Sum.inr (Sum.inr (Sum.inr (Sum.inr (Sum.inr (Sum.inr (Sum.inl { a := (3 : Nat), u := (4 : Nat), o := (0 : Nat), n := n'21, c := d'24 }))))))))))), Sum.inr (Sum.inr (Sum.inr (Sum.inr (Sum.inr (Sum.inr (Sum.inl (IntKind.i64, m)))))))], j := none, c := (3 : Nat), z := false }], ints := [], opqs := (0 : Nat), arrs := [none, none, some { elem := (3 : Nat), k := AK.o (Obj.rows [CK.n IntKind.i64] L'20), l := [], cap := c'22, ro := false }, some { elem := (36 : Nat), k := AK.o (Obj.rows [CK.n IntKind.i64, CK.n IntKind.i64, CK.n IntKind.i64, CK.n IntKind.i64] M'23), l := [], cap := d'24, ro := false }], junks := (0 : Nat) }) ∧ (¬U.csRoom y19 z18 m → a = a ∧ b = b ∧ a' = a' ∧ b' = b' ∧ K (Sum.inl (Sum.inl (Sum.inr (Sum.inr (Sum.inr (Sum.inr (Sum.inr (Sum.inr (Sum.inl (IntKind.i64, (4 : Int))))))))))) { heap := [some { elem := nat_lit 52, cells := [Sum.inr (Sum.inl ((1 : Nat), (0 : Nat)))], j := none, c := (1 : Nat), z := false }, some { elem := nat_lit 75, cells := [Sum.inr (Sum.inr (Sum.inr (Sum.inr (Sum.inr (Sum.inr (Sum.inr (Sum.inr (Sum.inr (Sum.inr (Sum.inr (Sum.inl { a := (0 : Nat), u := (1 : Nat), o := (0 : Nat), n := n, c := c }))))))))))), Sum.inr (Sum.inr (Sum.inr (Sum.inr (Sum.inr (Sum.inr (Sum.inr (Sum.inr (Sum.inr (Sum.inr (Sum.inr (Sum.inl { a := (1 : Nat), u := (4 : Nat), o := (0 : Nat), n := n, c := d }))))))))))), Sum.inr (Sum.inr (Sum.inr (Sum.inr (Sum.inr (Sum.inr (Sum.inl (IntKind.i64, m)))))))], j := none, c := (3 : Nat), z := false }], ints := [], opqs := (0 : Nat), arrs := [some { elem := (3 : Nat), k := AK.o (Obj.rows [CK.n IntKind.i64] L), l := [], cap := c, ro := false }, some { elem := (36 : Nat), k := AK.o (Obj.rows [CK.n IntKind.i64, CK.n IntKind.i64, CK.n IntKind.i64, CK.n IntKind.i64] M), l := [], cap := d, ro := false }], junks := (0 : Nat) })))))) ∧ (¬U.Gd a' b' → K (Sum.inl (Sum.inl (Sum.inr (Sum.inr (Sum.inr (Sum.inr (Sum.inr (Sum.inr (Sum.inl (IntKind.i64, (1 : Int))))))))))) { heap := [some { elem := nat_lit 52, cells := [Sum.inr (Sum.inl ((1 : Nat), (0 : Nat)))], j := none, c := (1 : Nat), z := false }, some { elem := nat_lit 75, cells := [Sum.inr (Sum.inr (Sum.inr (Sum.inr (Sum.inr (Sum.inr (Sum.inr (Sum.inr (Sum.inr (Sum.inr (Sum.inr (Sum.inl { a := (0 : Nat), u := (1 : Nat), o := (0 : Nat), n := n, c := c }))))))))))), Sum.inr (Sum.inr (Sum.inr (Sum.inr (Sum.inr (Sum.inr (Sum.inr (Sum.inr (Sum.inr (Sum.inr (Sum.inr (Sum.inl { a := (1 : Nat), u := (4 : Nat), o := (0 : Nat), n := n, c := d }))))))))))), Sum.inr (Sum.inr (Sum.inr (Sum.inr (Sum.inr (Sum.inr (Sum.inl (IntKind.i64, m)))))))], j := none, c := (3 : Nat), z := false }], ints := [], opqs := (0 : Nat), arrs := [some { elem := (3 : Nat), k := AK.o (Obj.rows [CK.n IntKind.i64] L), l := [], cap := c, ro := false }, some { elem := (36 : Nat), k := AK.o (Obj.rows [CK.n IntKind.i64, CK.n IntKind.i64, CK.n IntKind.i64, CK.n IntKind.i64] M), l := [], cap := d, ro := false }], junks := (0 : Nat) })) ∧ (¬U.Gd a b → K (Sum.inl (Sum.inl (Sum.inr (Sum.inr (Sum.inr (Sum.inr (Sum.inr (Sum.inr (Sum.inl (IntKind.i64, (1 : Int))))))))))) { heap := [some { elem := nat_lit 52, cells := [Sum.inr (Sum.inl ((1 : Nat), (0 : Nat)))], j := none, c := (1 : Nat), z := false }, some { elem := nat_lit 75, cells := [Sum.inr (Sum.inr (Sum.inr (Sum.inr (Sum.inr (Sum.inr (Sum.inr (Sum.inr (Sum.inr (Sum.inr (Sum.inr (Sum.inl { a := (0 : Nat), u := (1 : Nat), o := (0 : Nat), n := n, c := c }))))))))))), Sum.inr (Sum.inr (Sum.inr (Sum.inr (Sum.inr (Sum.inr (Sum.inr (Sum.inr (Sum.inr (Sum.inr (Sum.inr (Sum.inl { a := (1 : Nat), u := (4 : Nat), o := (0 : Nat), n := n, c := d }))))))))))), Sum.inr (Sum.inr (Sum.inr (Sum.inr (Sum.inr (Sum.inr (Sum.inl (IntKind.i64, m)))))))], j := none, c := (3 : Nat), z := false }], ints := [], opqs := (0 : Nat), arrs := [some { elem := (3 : Nat), k := AK.o (Obj.rows [CK.n IntKind.i64] L), l := [], cap := c, ro := false }, some { elem := (36 : Nat), k := AK.o (Obj.rows [CK.n IntKind.i64, CK.n IntKind.i64, CK.n IntKind.i64, CK.n IntKind.i64] M), l := [], cap := d, ro := false }], junks := (0 : Nat) })) := by kernel_rfl
theorem attach_vc (K : AV → St → Prop) (L M : Rws) (n c d : Nat) (m h a b : Int) : (runR inv0 tN1 15 [ptr 0 0, xi .i64 h, plA a b] (nbSt n c L d M m) K) = ((h < (0 : Int) → K (Sum.inl (Sum.inl (Sum.inr (Sum.inr (Sum.inr (Sum.inr (Sum.inr (Sum.inr (Sum.inl (IntKind.i64, (1 : Int))))))))))) { heap := [some { elem := nat_lit 52, cells := [Sum.inr (Sum.inl ((1 : Nat), (0 : Nat)))], j := none, c := (1 : Nat), z := false }, some { elem := nat_lit 75, cells := [Sum.inr (Sum.inr (Sum.inr (Sum.inr (Sum.inr (Sum.inr (Sum.inr (Sum.inr (Sum.inr (Sum.inr (Sum.inr (Sum.inl { a := (0 : Nat), u := (1 : Nat), o := (0 : Nat), n := n, c := c }))))))))))), Sum.inr (Sum.inr (Sum.inr (Sum.inr (Sum.inr (Sum.inr (Sum.inr (Sum.inr (Sum.inr (Sum.inr (Sum.inr (Sum.inl { a := (1 : Nat), u := (4 : Nat), o := (0 : Nat), n := n, c := d }))))))))))), Sum.inr (Sum.inr (Sum.inr (Sum.inr (Sum.inr (Sum.inr (Sum.inl (IntKind.i64, m)))))))], j := none, c := (3 : Nat), z := false }], ints := [], opqs := (0 : Nat), arrs := [some { elem := (3 : Nat), k := AK.o (Obj.rows [CK.n IntKind.i64] L), l := [], cap := c, ro := false }, some { elem := (36 : Nat), k := AK.o (Obj.rows [CK.n IntKind.i64, CK.n IntKind.i64, CK.n IntKind.i64, CK.n IntKind.i64] M), l := [], cap := d, ro := false }], junks := (0 : Nat) }) ∧ (¬h < (0 : Int) → ((16 : Int) ≤ h → K (Sum.inl (Sum.inl (Sum.inr (Sum.inr (Sum.inr (Sum.inr (Sum.inr (Sum.inr (Sum.inl (IntKind.i64, (1 : Int))))))))))) { heap := [some { elem := nat_lit 52, cells := [Sum.inr (Sum.inl ((1 : Nat), (0 : Nat)))], j := none, c := (1 : Nat), z := false }, some { elem := nat_lit 75, cells := [Sum.inr (Sum.inr (Sum.inr (Sum.inr (Sum.inr (Sum.inr (Sum.inr (Sum.inr (Sum.inr (Sum.inr (Sum.inr (Sum.inl { a := (0 : Nat), u := (1 : Nat), o := (0 : Nat), n := n, c := c }))))))))))), Sum.inr (Sum.inr (Sum.inr (Sum.inr (Sum.inr (Sum.inr (Sum.inr (Sum.inr (Sum.inr (Sum.inr (Sum.inr (Sum.inl { a := (1 : Nat), u := (4 : Nat), o := (0 : Nat), n := n, c := d }))))))))))), Sum.inr (Sum.inr (Sum.inr (Sum.inr (Sum.inr (Sum.inr (Sum.inl (IntKind.i64, m)))))))], j := none, c := (3 : Nat), z := false }], ints := [], opqs := (0 : Nat), arrs := [some { elem := (3 : Nat), k := AK.o (Obj.rows [CK.n IntKind.i64] L), l := [], cap := c, ro := false }, some { elem := (36 : Nat), k := AK.o (Obj.rows [CK.n IntKind.i64, CK.n IntKind.i64, CK.n IntKind.i64, CK.n IntKind.i64] M), l := [], cap := d, ro := false }], junks := (0 : Nat) }) ∧ (¬(16 : Int) ≤ h → (U.Gd a b → ∃ (y0 : CSP), ((c = c ∧ d = d ∧ n = n) ∧ U.csshI n c L d M y0 ∧ n ≤ (64 : Nat) ∧ U.NetI y0) ∧ (U.Gd a b → U.csHasK y0 (U.num a b) → K (Sum.inl (Sum.inl (Sum.inr (Sum.inr (Sum.inr (Sum.inr (Sum.inr (Sum.inr (Sum.inl (IntKind.i64, (3 : Int))))))))))) { heap := [some { elem := nat_lit 52, cells := [Sum.inr (Sum.inl ((1 : Nat), (0 : Nat)))], j := none, c := (1 : Nat), z := false }, some { elem := nat_lit 75, cells := [Sum.inr (Sum.inr (Sum.inr (Sum.inr (Sum.inr (Sum.inr (Sum.inr (Sum.inr (Sum.inr (Sum.inr (Sum.inr (Sum.inl { a := (0 : Nat), u := (1 : Nat), o := (0 : Nat), n := n, c := c }))))))))))), Sum.inr (Sum.inr (Sum.inr (Sum.inr (Sum.inr (Sum.inr (Sum.inr (Sum.inr (Sum.inr (Sum.inr (Sum.inr (Sum.inl { a := (1 : Nat), u := (4 : Nat), o := (0 : Nat), n := n, c := d }))))))))))), Sum.inr (Sum.inr (Sum.inr (Sum.inr (Sum.inr (Sum.inr (Sum.inl (IntKind.i64, m)))))))], j := none, c := (3 : Nat), z := false }], ints := [], opqs := (0 : Nat), arrs := [some { elem := (3 : Nat), k := AK.o (Obj.rows [CK.n IntKind.i64] L), l := [], cap := c, ro := false }, some { elem := (36 : Nat), k := AK.o (Obj.rows [CK.n IntKind.i64, CK.n IntKind.i64, CK.n IntKind.i64, CK.n IntKind.i64] M), l := [], cap := d, ro := false }], junks := (0 : Nat) }) ∧ ((U.Gd a b → ¬U.csHasK y0 (U.num a b)) → ∃ (y1 : CSP), ((c = c ∧ d = d ∧ n = n) ∧ U.csshI n c L d M y1 ∧ n ≤ (64 : Nat) ∧ U.NetI y1) ∧ (∀ (k2 : Int), U.csHasE y1 k2 (2 : Int) (0 : Int) (0 : Int) h → ∀ (a3 b4 : Int), a3 = U.sw k2 → b4 = U.po k2 → K (Sum.inl (Sum.inl (Sum.inr (Sum.inr (Sum.inr (Sum.inr (Sum.inr (Sum.inr (Sum.inl (IntKind.i64, (3 : Int))))))))))) { heap := [some { elem := nat_lit 52, cells := [Sum.inr (Sum.inl ((1 : Nat), (0 : Nat)))], j := none, c := (1 : Nat), z := false }, some { elem := nat_lit 75, cells := [Sum.inr (Sum.inr (Sum.inr (Sum.inr (Sum.inr (Sum.inr (Sum.inr (Sum.inr (Sum.inr (Sum.inr (Sum.inr (Sum.inl { a := (0 : Nat), u := (1 : Nat), o := (0 : Nat), n := n, c := c }))))))))))), Sum.inr (Sum.inr (Sum.inr (Sum.inr (Sum.inr (Sum.inr (Sum.inr (Sum.inr (Sum.inr (Sum.inr (Sum.inr (Sum.inl { a := (1 : Nat), u := (4 : Nat), o := (0 : Nat), n := n, c := d }))))))))))), Sum.inr (Sum.inr (Sum.inr (Sum.inr (Sum.inr (Sum.inr (Sum.inl (IntKind.i64, m)))))))], j := none, c := (3 : Nat), z := false }], ints := [], opqs := (0 : Nat), arrs := [some { elem := (3 : Nat), k := AK.o (Obj.rows [CK.n IntKind.i64] L), l := [], cap := c, ro := false }, some { elem := (36 : Nat), k := AK.o (Obj.rows [CK.n IntKind.i64, CK.n IntKind.i64, CK.n IntKind.i64, CK.n IntKind.i64] M), l := [], cap := d, ro := false }], junks := (0 : Nat) }) ∧ ((∀ (k5 : Int), ¬U.csHasE y1 k5 (2 : Int) (0 : Int) (0 : Int) h) → U.Gd a b ∧ ∀ (z6 : Int), z6 = U.num a b → a = a ∧ b = b ∧ ∃ (y7 : CSP), ((c = c ∧ d = d ∧ n = n) ∧ U.csshI n c L d M y7 ∧ n ≤ (100000 : Nat)) ∧ (U.csRoom y7 z6 m → ∀ (L'8 : Rws) (n'9 c'10 : Nat) (M'11 : Rws) (d'12 : Nat) (P'13 : CSP), n'9 = U.cslen P'13 → U.csPut y7 z6 { v0 := (2 : Int), v1 := (0 : Int), v2 := (0 : Int), v3 := h } P'13 → U.csshI n'9 c'10 L'8 d'12 M'11 P'13 → a = a ∧ b = b ∧ K (Sum.inl (Sum.inl (Sum.inr (Sum.inr (Sum.inr (Sum.inr (Sum.inr (Sum.inr (Sum.inl (IntKind.i64, (0 : Int))))))))))) { heap := [some { elem := nat_lit 52, cells := [Sum.inr (Sum.inl ((1 : Nat), (0 : Nat)))], j := none, c := (1 : Nat), z := false }, some { elem := nat_lit 75, cells := [Sum.inr (Sum.inr (Sum.inr (Sum.inr (Sum.inr (Sum.inr (Sum.inr (Sum.inr (Sum.inr (Sum.inr (Sum.inr (Sum.inl { a := (2 : Nat), u := (1 : Nat), o := (0 : Nat), n := n'9, c := c'10 }))))))))))), Sum.inr (Sum.inr (Sum.inr (Sum.inr (Sum.inr (Sum.inr (Sum.inr (Sum.inr (Sum.inr (Sum.inr (Sum.inr (Sum.inl { a := (3 : Nat), u := (4 : Nat), o := (0 : Nat), n := n'9, c := d'12 }))))))))))), Sum.inr (Sum.inr (Sum.inr (Sum.inr (Sum.inr (Sum.inr (Sum.inl (IntKind.i64, m)))))))], j := none, c := (3 : Nat), z := false }], ints := [], opqs := (0 : Nat), arrs := [none, none, some { elem := (3 : Nat), k := AK.o (Obj.rows [CK.n IntKind.i64] L'8), l := [], cap := c'10, ro := false }, some { elem := (36 : Nat), k := AK.o (Obj.rows [CK.n IntKind.i64, CK.n IntKind.i64, CK.n IntKind.i64, CK.n IntKind.i64] M'11), l := [], cap := d'12, ro := false }], junks := (0 : Nat) }) ∧ (¬U.csRoom y7 z6 m → a = a ∧ b = b ∧ K (Sum.inl (Sum.inl (Sum.inr (Sum.inr (Sum.inr (Sum.inr (Sum.inr (Sum.inr (Sum.inl (IntKind.i64, (4 : Int))))))))))) { heap := [some { elem := nat_lit 52, cells := [Sum.inr (Sum.inl ((1 : Nat), (0 : Nat)))], j := none, c := (1 : Nat), z := false }, some { elem := nat_lit 75, cells := [Sum.inr (Sum.inr (Sum.inr (Sum.inr (Sum.inr (Sum.inr (Sum.inr (Sum.inr (Sum.inr (Sum.inr (Sum.inr (Sum.inl { a := (0 : Nat), u := (1 : Nat), o := (0 : Nat), n := n, c := c }))))))))))), Sum.inr (Sum.inr (Sum.inr (Sum.inr (Sum.inr (Sum.inr (Sum.inr (Sum.inr (Sum.inr (Sum.inr (Sum.inr (Sum.inl { a := (1 : Nat), u := (4 : Nat), o := (0 : Nat), n := n, c := d }))))))))))), Sum.inr (Sum.inr (Sum.inr (Sum.inr (Sum.inr (Sum.inr (Sum.inl (IntKind.i64, m)))))))], j := none, c := (3 : Nat), z := false }], ints := [], opqs := (0 : Nat), arrs := [some { elem := (3 : Nat), k := AK.o (Obj.rows [CK.n IntKind.i64] L), l := [], cap := c, ro := false }, some { elem := (36 : Nat), k := AK.o (Obj.rows [CK.n IntKind.i64, CK.n IntKind.i64, CK.n IntKind.i64, CK.n IntKind.i64] M), l := [], cap := d, ro := false }], junks := (0 : Nat) })))) ∧ (¬U.Gd a b → K (Sum.inl (Sum.inl (Sum.inr (Sum.inr (Sum.inr (Sum.inr (Sum.inr (Sum.inr (Sum.inl (IntKind.i64, (1 : Int))))))))))) { heap := [some { elem := nat_lit 52, cells := [Sum.inr (Sum.inl ((1 : Nat), (0 : Nat)))], j := none, c := (1 : Nat), z := false }, some { elem := nat_lit 75, cells := [Sum.inr (Sum.inr (Sum.inr (Sum.inr (Sum.inr (Sum.inr (Sum.inr (Sum.inr (Sum.inr (Sum.inr (Sum.inr (Sum.inl { a := (0 : Nat), u := (1 : Nat), o := (0 : Nat), n := n, c := c }))))))))))), Sum.inr (Sum.inr (Sum.inr (Sum.inr (Sum.inr (Sum.inr (Sum.inr (Sum.inr (Sum.inr (Sum.inr (Sum.inr (Sum.inl { a := (1 : Nat), u := (4 : Nat), o := (0 : Nat), n := n, c := d }))))))))))), Sum.inr (Sum.inr (Sum.inr (Sum.inr (Sum.inr (Sum.inr (Sum.inl (IntKind.i64, m)))))))], j := none, c := (3 : Nat), z := false }], ints := [], opqs := (0 : Nat), arrs := [some { elem := (3 : Nat), k := AK.o (Obj.rows [CK.n IntKind.i64] L), l := [], cap := c, ro := false }, some { elem := (36 : Nat), k := AK.o (Obj.rows [CK.n IntKind.i64, CK.n IntKind.i64, CK.n IntKind.i64, CK.n IntKind.i64] M), l := [], cap := d, ro := false }], junks := (0 : Nat) })))) := by kernel_rfl
end Go.Proofs.Ytmahbhoblhhamaa
end

section
set_option linter.unusedVariables false
set_option linter.unusedSimpArgs false
set_option maxRecDepth 10000
namespace Go.Proofs.Ytmahbhoblhhamaa
open Go Reck Ost
theorem ints_len : ∀ (l : List Int) (lo hi : Int), l.Pairwise (· < ·) → (∀ x ∈ l, lo ≤ x ∧ x < hi) → lo ≤ hi → (l.length : Int) ≤ hi - lo
  | [], lo, hi, _, _, h => by simp; omega
  | a :: l, lo, hi, hp, hb, h => by
    rw [List.pairwise_cons] at hp
    have ha := hb a (List.mem_cons_self ..)
    have := ints_len l (a + 1) hi hp.2 (fun x hx => ⟨by have := hp.1 x hx; omega, (hb x (List.mem_cons_of_mem _ hx)).2⟩) (by omega)
    rw [List.length_cons]; omega
theorem cs_one {P : CSP} (hs : U.csSrt P) {k : Int} {e e' : CSv} (h : (k, e) ∈ P) (h' : (k, e') ∈ P) : e = e' := by
  obtain ⟨i, hi⟩ := List.getElem?_of_mem h
  obtain ⟨j, hj⟩ := List.getElem?_of_mem h'
  obtain ⟨li, hi⟩ := List.getElem?_eq_some_iff.1 hi
  obtain ⟨lj, hj⟩ := List.getElem?_eq_some_iff.1 hj
  have hp := List.pairwise_iff_getElem.1 hs.out
  rcases Nat.lt_trichotomy i j with g | g | g
  · have := hp i j li lj g
    rw [hi, hj] at this; exact (Int.lt_irrefl _ this).elim
  · subst g
    rw [hi] at hj
    exact (Prod.mk.injEq _ _ _ _ ▸ hj).2
  · have := hp j i lj li g
    rw [hi, hj] at this; exact (Int.lt_irrefl _ this).elim
theorem room_of {P : CSP} (hs : U.csSrt P) (hk : ∀ k e, (k, e) ∈ P → 0 ≤ k ∧ k < 64) {k : Int} (h0 : 0 ≤ k ∧ k < 64) {m : Int} (hm : m = 64) : U.csRoom P k m := by
  by_cases hh : U.csHasK P k
  · exact ⟨.inl hh⟩
  · refine ⟨.inr ?_⟩
    have hne : ∀ p ∈ P, p.1 ≠ k := fun p hp he => hh ⟨p.2, by rw [← he]; exact hp⟩
    have := ints_len (P.map fun p => if p.1 < k then p.1 else p.1 - 1) 0 63 (by
      rw [List.pairwise_map]
      refine List.Pairwise.imp_of_mem ?_ hs.out
      intro x y hx hy hxy
      have a := hne x hx
      have b := hne y hy
      split <;> split <;> omega) (by
      intro x hx
      obtain ⟨p, hp, rfl⟩ := List.mem_map.1 hx
      have a := hne p hp
      have b := hk p.1 p.2 hp
      split <;> omega) (by decide)
    rw [List.length_map] at this
    omega
theorem len_of {P : CSP} (hs : U.csSrt P) (hk : ∀ k e, (k, e) ∈ P → 0 ≤ k ∧ k < 64) : P.length ≤ 64 := by
  have := ints_len (P.map Prod.fst) 0 64 (by rw [List.pairwise_map]; exact hs.out) (by
    intro x hx
    obtain ⟨p, hp, rfl⟩ := List.mem_map.1 hx
    exact hk p.1 p.2 hp) (by decide)
  rw [List.length_map] at this
  omega
theorem num_inj {a b a' b' : Int} (h : U.Gd a b) (h' : U.Gd a' b') (he : U.num a b = U.num a' b') : a = a' ∧ b = b' := by
  have := sp_num h
  rw [he] at this
  have := sp_num h'
  omega
/-- P' is P with a cable. -/
structure U.Joined (P : CSP) (a b a' b' : Int) (P' : CSP) : Prop where
  srt : U.csSrt P'
  mem : ∀ q e, (q, e) ∈ P' ↔ (q = U.num a b ∧ e = ⟨1, a', b', 0⟩) ∨ (q = U.num a' b' ∧ e = ⟨1, a, b, 0⟩) ∨ ((q, e) ∈ P ∧ q ≠ U.num a b ∧ q ≠ U.num a' b')
structure U.mayJ (P : CSP) (a b a' b' : Int) : Prop where
  g : U.Gd a b
  g' : U.Gd a' b'
  ne : ¬ (a = a' ∧ b = b')
  n : ¬ U.csHasK P (U.num a b)
  n' : ¬ U.csHasK P (U.num a' b')
/-- Why no cable is put in. -/
structure U.noJ (P : CSP) (a b a' b' z : Int) : Prop where
  out : ((¬ U.Gd a b ∨ ¬ U.Gd a' b' ∨ (a = a' ∧ b = b')) ∧ z = 1) ∨ (U.Gd a b ∧ U.Gd a' b' ∧ ¬ (a = a' ∧ b = b') ∧ (U.csHasK P (U.num a b) ∨ U.csHasK P (U.num a' b')) ∧ z = 3)
theorem joined_of {P P1 P2 : CSP} {a b a' b' : Int} (hj : U.mayJ P a b a' b') (h1 : U.csPut P (U.num a b) ⟨1, a', b', 0⟩ P1) (h2 : U.csPut P1 (U.num a' b') ⟨1, a, b, 0⟩ P2) : U.Joined P a b a' b' P2 := by
  have hne : U.num a b ≠ U.num a' b' := fun h => hj.ne (num_inj hj.g hj.g' h)
  refine ⟨h2.srt, fun q e => ?_⟩
  rw [h2.mem, h1.mem]
  constructor
  · rintro (⟨x1, x2⟩ | ⟨⟨x1, x2⟩ | ⟨x1, x2⟩, x3⟩)
    · exact .inr (.inl ⟨x1, x2⟩)
    · exact .inl ⟨x1, x2⟩
    · exact .inr (.inr ⟨x1, x2, x3⟩)
  · rintro (⟨x1, x2⟩ | ⟨x1, x2⟩ | ⟨x1, x2, x3⟩)
    · exact .inr ⟨.inl ⟨x1, x2⟩, by rw [x1]; exact hne⟩
    · exact .inl ⟨x1, x2⟩
    · exact .inr ⟨.inr ⟨x1, x2⟩, x3⟩
theorem v_eq {a b c d a' b' c' d' : Int} (h : (⟨a, b, c, d⟩ : CSv) = ⟨a', b', c', d'⟩) : a = a' ∧ b = b' ∧ c = c' ∧ d = d' := by
  simpa only [CSv.mk.injEq] using h
theorem netI_join {P P' : CSP} {a b a' b' : Int} (hP : U.NetI P) (hj : U.mayJ P a b a' b') (hJ : U.Joined P a b a' b' P') : U.NetI P' := by
  have hne : U.num a b ≠ U.num a' b' := fun h => hj.ne (num_inj hj.g hj.g' h)
  have s1 := sp_num hj.g
  have s2 := sp_num hj.g'
  refine ⟨fun k e h => ?_, fun k x y h hm => ?_, fun k q x y h hm => ?_, fun k k' x y x' y' h hm hm' => ?_⟩
  · rcases (hJ.mem k e).1 h with ⟨rfl, _⟩ | ⟨rfl, _⟩ | ⟨h, _⟩
    · exact num_b hj.g
    · exact num_b hj.g'
    · exact hP.key k e h
  · rcases (hJ.mem _ _).1 hm with ⟨rfl, he⟩ | ⟨rfl, he⟩ | ⟨h1, h2, h3⟩
    · obtain ⟨_, rfl, rfl, rfl⟩ := v_eq he
      exact ⟨hj.g', rfl, fun h => hne h.symm, (hJ.mem _ _).2 (.inr (.inl ⟨rfl, by rw [s1.1, s1.2]⟩))⟩
    · obtain ⟨_, rfl, rfl, rfl⟩ := v_eq he
      exact ⟨hj.g, rfl, hne, (hJ.mem _ _).2 (.inl ⟨rfl, by rw [s2.1, s2.2]⟩)⟩
    · obtain ⟨g1, g2, g3, g4⟩ := hP.sw _ _ _ _ h1
      exact ⟨g1, g2, g3, (hJ.mem _ _).2 (.inr (.inr ⟨g4, fun h => hj.n ⟨_, by rw [← h]; exact g4⟩, fun h => hj.n' ⟨_, by rw [← h]; exact g4⟩⟩))⟩
  · rcases (hJ.mem _ _).1 hm with ⟨rfl, he⟩ | ⟨rfl, he⟩ | ⟨h1, _⟩
    · exact .inl (v_eq he).1
    · exact .inl (v_eq he).1
    · exact hP.kind _ _ _ _ _ h1
  · have no : ∀ {k x y}, (k, (⟨2, x, y, h⟩ : CSv)) ∈ P' → (k, (⟨2, x, y, h⟩ : CSv)) ∈ P := fun hm => by
      rcases (hJ.mem _ _).1 hm with ⟨_, he⟩ | ⟨_, he⟩ | ⟨h1, _⟩
      · exact absurd (v_eq he).1 (by decide)
      · exact absurd (v_eq he).1 (by decide)
      · exact h1
    exact hP.host _ _ _ _ _ _ _ (no hm) (no hm')
theorem netI_att {P P' : CSP} {a b h : Int} (hP : U.NetI P) (g : U.Gd a b) (hh : 0 ≤ h ∧ h < 16) (n : ¬ U.csHasK P (U.num a b)) (hno : ∀ k, ¬ U.csHasE P k 2 0 0 h) (hJ : U.csPut P (U.num a b) ⟨2, 0, 0, h⟩ P') : U.NetI P' := by
  refine ⟨fun k e hm => ?_, fun k x y q hm => ?_, fun k q x y q' hm => ?_, fun k k' x y x' y' q hm hm' => ?_⟩
  · rcases (hJ.mem k e).1 hm with ⟨rfl, _⟩ | ⟨h, _⟩
    · exact num_b g
    · exact hP.key k e h
  · rcases (hJ.mem _ _).1 hm with ⟨_, he⟩ | ⟨h1, h2⟩
    · exact absurd (v_eq he).1 (by decide)
    · obtain ⟨g1, g2, g3, g4⟩ := hP.sw _ _ _ _ h1
      exact ⟨g1, g2, g3, (hJ.mem _ _).2 (.inr ⟨g4, fun h => n ⟨_, by rw [← h]; exact g4⟩⟩)⟩
  · rcases (hJ.mem _ _).1 hm with ⟨_, he⟩ | ⟨h1, h2⟩
    · obtain ⟨rfl, rfl, rfl, rfl⟩ := v_eq he
      exact .inr ⟨rfl, rfl, rfl, hh⟩
    · exact hP.kind _ _ _ _ _ h1
  · have z : ∀ {k x y q}, (k, (⟨2, x, y, q⟩ : CSv)) ∈ P → x = 0 ∧ y = 0 := fun hm => by
      rcases hP.kind _ _ _ _ _ hm with h | h <;> omega
    rcases (hJ.mem _ _).1 hm with ⟨e1, he⟩ | ⟨h1, _⟩ <;> rcases (hJ.mem _ _).1 hm' with ⟨e2, he'⟩ | ⟨h2, _⟩
    · rw [e1, e2]
    · obtain ⟨_, _, _, rfl⟩ := v_eq he
      obtain ⟨rfl, rfl⟩ := z h2
      exact (hno _ ⟨h2⟩).elim
    · obtain ⟨_, _, _, rfl⟩ := v_eq he'
      obtain ⟨rfl, rfl⟩ := z h1
      exact (hno _ ⟨h1⟩).elim
    · exact hP.host _ _ _ _ _ _ _ h1 h2
theorem netI_pull {P P' : CSP} {a b k x y h : Int} (hs : U.csSrt P) (hP : U.NetI P) (ho : U.Oth P a b k x y h) (hk : ¬ k = 0) (hJ : U.Pulled P a b k x y P') : U.NetI P' := by
  have he : U.Gd a b ∧ (U.num a b, (⟨k, x, y, h⟩ : CSv)) ∈ P := by
    rcases ho.out with ⟨g, e⟩ | ⟨_, e, _⟩
    · exact ⟨g, e.out⟩
    · exact absurd e hk
  refine ⟨fun q e hm => hP.key q e ((hJ.mem _ _).1 hm).1, fun q x' y' h' hm => ?_, fun q k' x' y' h' hm => hP.kind _ _ _ _ _ ((hJ.mem _ _).1 hm).1, fun q q' x1 y1 x2 y2 h' hm hm' => hP.host _ _ _ _ _ _ _ ((hJ.mem _ _).1 hm).1 ((hJ.mem _ _).1 hm').1⟩
  obtain ⟨m1, m2, m3⟩ := (hJ.mem _ _).1 hm
  obtain ⟨g1, g2, g3, g4⟩ := hP.sw _ _ _ _ m1
  refine ⟨g1, g2, g3, (hJ.mem _ _).2 ⟨g4, fun hx => ?_, fun hk1 hx => ?_⟩⟩
  · rw [hx] at g4
    obtain ⟨rfl, rfl, rfl, _⟩ := v_eq (cs_one hs he.2 g4)
    exact m3 rfl (num_sp q).symm
  · subst hk1
    have g5 := (hP.sw _ _ _ _ he.2).2.2.2
    rw [← hx] at g5
    obtain ⟨_, e1, e2, _⟩ := v_eq (cs_one hs g4 g5)
    exact m2 (by rw [← num_sp q, e1, e2, num_sp])
theorem pulled_len {P P' : CSP} {n c d : Nat} {L M : Rws} (h : U.csshI n c L d M P') (hP : U.NetI P') : n ≤ 64 := by
  have := len_of h.srt hP.key
  have := csshI_n h
  omega
set_option maxHeartbeats 1000000 in
theorem join_run (K : AV → St → Prop) (L M : Rws) (n c d : Nat) (m a b a' b' : Int) (P : CSP) (h : U.csshI n c L d M P) (hn : n ≤ 64) (hP : U.NetI P) (hm : m = 64)
    (h0 : ∀ z : Int, U.noJ P a b a' b' z → K (xi .i64 z) (nbSt n c L d M m))
    (h1 : U.mayJ P a b a' b' → ∀ (L' : Rws) (n' c' : Nat) (M' : Rws) (d' : Nat) (P' : CSP), n' = U.cslen P' → U.Joined P a b a' b' P' → U.csshI n' c' L' d' M' P' → K (xi .i64 0) (nbNw n' c' L' d' M' m)) :
    runR inv0 tN1 14 [ptr 0 0, plA a b, plA a' b'] (nbSt n c L d M m) K := by
  rw [join_vc]
  refine ⟨fun g => ⟨fun g' => ⟨fun ge => h0 1 ⟨.inl ⟨.inr (.inr ⟨ge.1, ge.2.1⟩), rfl⟩⟩, fun ge => ?_⟩, fun g' => h0 1 ⟨.inl ⟨.inr (.inl g'), rfl⟩⟩⟩, fun g => h0 1 ⟨.inl ⟨.inl g, rfl⟩⟩⟩
  have ne : ¬ (a = a' ∧ b = b') := fun h => ge ⟨h.1, h.2, trivial⟩
  refine ⟨P, ⟨⟨rfl, rfl, rfl⟩, h, hn, hP⟩, fun _ t => h0 3 ⟨.inr ⟨g, g', ne, .inl t, rfl⟩⟩, fun t => ⟨P, ⟨⟨rfl, rfl, rfl⟩, h, hn, hP⟩, fun _ t' => h0 3 ⟨.inr ⟨g, g', ne, .inr t', rfl⟩⟩, fun t' => ⟨g, fun z2 e2 => ⟨rfl, rfl, rfl, rfl, P, ⟨⟨rfl, rfl, rfl⟩, h, by omega⟩, fun r1 L4 n5 c6 M7 d8 P9 e5 p1 i1 => ⟨rfl, rfl, rfl, rfl, g', fun z10 e10 => ⟨rfl, rfl, rfl, rfl, P9, ⟨⟨rfl, rfl, rfl⟩, i1, ?_⟩, fun r2 L12 n13 c14 M15 d16 P17 e13 p2 i2 => ⟨rfl, rfl, rfl, rfl, ?_⟩, fun r2 => (r2 ?_).elim⟩⟩, fun r1 => (r1 (room_of h.srt hP.key (by rw [e2]; exact num_b g) hm)).elim⟩⟩⟩⟩
  · subst e2
    have hk : ∀ q e, (q, e) ∈ P9 → 0 ≤ q ∧ q < 64 := fun q e hq => by
      rcases (p1.mem q e).1 hq with ⟨rfl, _⟩ | ⟨hq, _⟩
      · exact num_b g
      · exact hP.key q e hq
    have := len_of p1.srt hk
    have := csshI_n i1
    omega
  · subst e2; subst e10
    have hj : U.mayJ P a b a' b' := ⟨g, g', ne, t g, t' g'⟩
    exact h1 hj L12 n13 c14 M15 d16 P17 e13 (joined_of hj p1 p2) i2
  · subst e2; subst e10
    exact room_of p1.srt (fun q e hq => by
      rcases (p1.mem q e).1 hq with ⟨rfl, _⟩ | ⟨hq, _⟩
      · exact num_b g
      · exact hP.key q e hq) (num_b g') hm
end Go.Proofs.Ytmahbhoblhhamaa
end
