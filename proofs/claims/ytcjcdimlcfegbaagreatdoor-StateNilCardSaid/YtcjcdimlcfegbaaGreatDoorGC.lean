/- Parts of a proof, one behind the other: WH1 WH2 WH3 WH4 WH5 WH6 WH7 WH8. No condition. -/
import Derived.Test.YtcjcdimlcfegbaaGreatDoorGA
section
namespace Go.Proofs.YtcjcdimlcfegbaaGreatDoor
open Go Reck Ost
set_option linter.unusedVariables false
set_option maxRecDepth 100000
abbrev whov : List FuncId := [129, 133]
def whkB (L : Rws) (cap : Nat) : ABlk := rowB 9 [.s] L cap false
def whvK : List CK := [.n .u64]
def whC (v0 : Int) : List Cell := [xintC .u64 v0]
def whR (v0 : Int) : List CV := [.i v0]
def whvB (L : Rws) (cap : Nat) : ABlk := rowB 42 whvK L cap false
--PLAIN
theorem whinsK_vc (K : AV → St → Prop) (L : Rws) (n c : Nat) (i : Int) (k : List Int) : (runV whov inv0 tbl0 109 [cell (rslC ⟨0, 1, 0, n, c⟩), xi .i64 i, sl ⟨0, 0, 1, none, 1⟩] ⟨[some ⟨9, [strC k], none, 1, false⟩], [], 0, [some (whkB L c)], 0⟩ K) = (((0 : Int) ≤ i ∧ i ≤ (↑n : Int) ∧ (↑n : Int) ≤ (↑c : Int)) ∧ ∀ (o0 n1 c2 : Nat), ((↑o0 : Int) = if (↑c : Int) = Option.getD (some i) (0 : Int) then (0 : Int) else (0 : Int) + i) → (↑n1 : Int) = (↑n : Int) - i → (↑c2 : Int) = (↑c : Int) - i → ∀ (z3 : Int), z3 = (↑n : Int) → (i = z3 → ((0 : Nat) + c ≤ List.length L ∧ (0 : Nat) + c ≤ c) ∧ True ∧ n ≤ (16777216 : Nat) ∧ (1 : Nat) ≤ (16777216 : Nat) ∧ ∀ (L'4 T5 : List (List CV)) (n'6 c'7 : Nat), L'4 = List.take n (List.take c (List.drop ((0 : Nat)) L)) ++ [CV.s k] :: U.nilL ++ T5 → n'6 = n + (1 : Nat) → n'6 ≤ c'7 → List.length L'4 = c'7 → K (Sum.inl (Sum.inl (Sum.inr (Sum.inr (Sum.inr (Sum.inr (Sum.inr (Sum.inr (Sum.inr (Sum.inr (Sum.inr (Sum.inr (Sum.inr (Sum.inl { a := (1 : Nat), u := (0 : Nat) + (1 : Nat), o := (0 : Nat), n := n'6, c := c'7 })))))))))))))) { heap := [some { elem := nat_lit 9, cells := [Sum.inr (Sum.inr (Sum.inr (Sum.inr (Sum.inr (Sum.inr (Sum.inr (Sum.inr (Sum.inr (Sum.inr (Sum.inl k))))))))))], j := none, c := (1 : Nat), z := false }], ints := [], opqs := (0 : Nat), arrs := [none, some { elem := (9 : Nat), k := AK.o (Obj.rows [CK.s] L'4), l := [], cap := c'7, ro := false }], junks := (0 : Nat) }) ∧ (¬i = z3 → ∀ (z8 : Int), z8 = IntKind.wrap IntKind.i64 (z3 + (1 : Int)) → ∀ (z9 : Int), z9 = (↑c : Int) → (z9 < z8 → ((0 : Int) ≤ (0 : Int) ∧ (0 : Int) ≤ i ∧ i ≤ (↑c : Int)) ∧ ∀ (o10 n11 c12 : Nat), ((↑o10 : Int) = if (↑c : Int) = Option.getD none (0 : Int) then (0 : Int) else (0 : Int)) → (↑n11 : Int) = i - (0 : Int) → (↑c12 : Int) = (↑c : Int) - (0 : Int) → ∀ (z13 : Int), z13 = IntKind.wrap IntKind.i64 (z3 + (1 : Int)) → ∀ (z14 : Int), z14 = IntKind.wrap IntKind.i64 (z13 - i) → (o10 + c12 ≤ List.length L ∧ o10 + c12 ≤ c) ∧ n11 ≤ (16777216 : Nat) ∧ ((0 : Int) ≤ z14 ∧ z14 ≤ (16777216 : Int)) ∧ (↑c12 : Int) < (↑n11 : Int) + z14 ∧ ∀ (L'15 T16 : List (List CV)) (n'17 c'18 : Nat), L'15 = List.take n11 (List.take c12 (List.drop o10 L)) ++ List.replicate (Int.toNat z14) [CV.s []] ++ T16 → (↑n'17 : Int) = (↑n11 : Int) + z14 → n'17 ≤ c'18 → List.length L'15 = c'18 → ((0 : Int) ≤ i ∧ i ≤ (↑n'17 : Int) ∧ (↑n'17 : Int) ≤ (↑c'18 : Int)) ∧ ∀ (o19 n20 c21 : Nat), ((↑o19 : Int) = if (↑c'18 : Int) = Option.getD (some i) (0 : Int) then (0 : Int) else (0 : Int) + i) → (↑n20 : Int) = (↑n'17 : Int) - i → (↑c21 : Int) = (↑c'18 : Int) - i → (o19 + n20 ≤ List.length L'15 ∧ True) ∧ ∀ (n22 : Nat) (L'23 : List (List CV)), n22 = min ((1 : Nat)) n20 → L'23 = List.take o19 L'15 ++ List.take n22 ([CV.s k] :: U.nilL) ++ List.drop (o19 + n22) L'15 → ∀ (z24 : Int), z24 = IntKind.wrap IntKind.i64 (i + (1 : Int)) → ((0 : Int) ≤ z24 ∧ z24 ≤ (↑n'17 : Int) ∧ (↑n'17 : Int) ≤ (↑c'18 : Int)) ∧ ∀ (o25 n26 c27 : Nat), ((↑o25 : Int) = if (↑c'18 : Int) = Option.getD (some z24) (0 : Int) then (0 : Int) else (0 : Int) + z24) → (↑n26 : Int) = (↑n'17 : Int) - z24 → (↑c27 : Int) = (↑c'18 : Int) - z24 → ((0 : Int) ≤ i ∧ i ≤ (↑n : Int) ∧ (↑n : Int) ≤ (↑c : Int)) ∧ ∀ (o28 n29 c30 : Nat), ((↑o28 : Int) = if (↑c : Int) = Option.getD (some i) (0 : Int) then (0 : Int) else (0 : Int) + i) → (↑n29 : Int) = (↑n : Int) - i → (↑c30 : Int) = (↑c : Int) - i → (o25 + n26 ≤ List.length L'23 ∧ Nat.le (o28 + n29) (List.length L)) ∧ ∀ (n31 : Nat) (L'32 : List (List CV)), n31 = min n29 n26 → L'32 = List.take o25 L'23 ++ List.take n31 (List.take n29 (List.drop o28 L)) ++ List.drop (o25 + n31) L'23 → K (Sum.inl (Sum.inl (Sum.inr (Sum.inr (Sum.inr (Sum.inr (Sum.inr (Sum.inr (Sum.inr (Sum.inr (Sum.inr (Sum.inr (Sum.inr (Sum.inl { a := (1 : Nat), u := (1 : Nat), o := (0 : Nat), n := n'17, c := c'18 })))))))))))))) { heap := [some { elem := nat_lit 9, cells := [Sum.inr (Sum.inr (Sum.inr (Sum.inr (Sum.inr (Sum.inr (Sum.inr (Sum.inr (Sum.inr (Sum.inr (Sum.inl k))))))))))], j := none, c := (1 : Nat), z := false }], ints := [], opqs := (0 : Nat), arrs := [some { elem := (9 : Nat), k := AK.o (Obj.rows [CK.s] L), l := [], cap := c, ro := false }, some { elem := nat_lit 9, k := AK.o (Obj.rows [CK.s] L'32), l := [], cap := c'18, ro := false }], junks := (0 : Nat) }) ∧ (¬z9 < z8 → ∀ (z33 : Int), z33 = IntKind.wrap IntKind.i64 (z3 + (1 : Int)) → ((0 : Int) ≤ (0 : Int) ∧ (0 : Int) ≤ z33 ∧ z33 ≤ (↑c : Int)) ∧ ∀ (o34 n35 c36 : Nat), ((↑o34 : Int) = if (↑c : Int) = Option.getD none (0 : Int) then (0 : Int) else (0 : Int)) → (↑n35 : Int) = z33 - (0 : Int) → (↑c36 : Int) = (↑c : Int) - (0 : Int) → ∀ (z37 : Int), z37 = IntKind.wrap IntKind.i64 (i + (1 : Int)) → ((0 : Int) ≤ z37 ∧ z37 ≤ (↑n35 : Int) ∧ (↑n35 : Int) ≤ (↑c36 : Int)) ∧ ∀ (o38 n39 c40 : Nat), ((↑o38 : Int) = if (↑c36 : Int) = Option.getD (some z37) (0 : Int) then (↑o34 : Int) else (↑o34 : Int) + z37) → (↑n39 : Int) = (↑n35 : Int) - z37 → (↑c40 : Int) = (↑c36 : Int) - z37 → o38 + n39 ≤ List.length L ∧ ∀ (z41 : Int), z41 = IntKind.wrap IntKind.i64 (i + (1 : Int)) → ((0 : Int) ≤ z41 ∧ z41 ≤ (↑n35 : Int) ∧ (↑n35 : Int) ≤ (↑c36 : Int)) ∧ ∀ (o42 n43 c44 : Nat), ((↑o42 : Int) = if (↑c36 : Int) = Option.getD (some z41) (0 : Int) then (↑o34 : Int) else (↑o34 : Int) + z41) → (↑n43 : Int) = (↑n35 : Int) - z41 → (↑c44 : Int) = (↑c36 : Int) - z41 → ((0 : Int) ≤ i ∧ i ≤ (↑n35 : Int) ∧ (↑n35 : Int) ≤ (↑c36 : Int)) ∧ ∀ (o45 n46 c47 : Nat), ((↑o45 : Int) = if (↑c36 : Int) = Option.getD (some i) (0 : Int) then (↑o34 : Int) else (↑o34 : Int) + i) → (↑n46 : Int) = (↑n35 : Int) - i → (↑c47 : Int) = (↑c36 : Int) - i → (o42 + n43 ≤ List.length L ∧ Nat.le (o45 + n46) (List.length L)) ∧ ∀ (n48 : Nat) (L'49 : List (List CV)), n48 = min n46 n43 → L'49 = List.take o42 L ++ List.take n48 (List.take n46 (List.drop o45 L)) ++ List.drop (o42 + n48) L → ((0 : Int) ≤ i ∧ i ≤ (↑n35 : Int) ∧ (↑n35 : Int) ≤ (↑c36 : Int)) ∧ ∀ (o50 n51 c52 : Nat), ((↑o50 : Int) = if (↑c36 : Int) = Option.getD (some i) (0 : Int) then (↑o34 : Int) else (↑o34 : Int) + i) → (↑n51 : Int) = (↑n35 : Int) - i → (↑c52 : Int) = (↑c36 : Int) - i → (o50 + n51 ≤ List.length L'49 ∧ True) ∧ ∀ (n53 : Nat) (L'54 : List (List CV)), n53 = min ((1 : Nat)) n51 → L'54 = List.take o50 L'49 ++ List.take n53 ([CV.s k] :: U.nilL) ++ List.drop (o50 + n53) L'49 → K (Sum.inl (Sum.inl (Sum.inr (Sum.inr (Sum.inr (Sum.inr (Sum.inr (Sum.inr (Sum.inr (Sum.inr (Sum.inr (Sum.inr (Sum.inr (Sum.inl { a := (0 : Nat), u := (1 : Nat), o := o34, n := n35, c := c36 })))))))))))))) { heap := [some { elem := nat_lit 9, cells := [Sum.inr (Sum.inr (Sum.inr (Sum.inr (Sum.inr (Sum.inr (Sum.inr (Sum.inr (Sum.inr (Sum.inr (Sum.inl k))))))))))], j := none, c := (1 : Nat), z := false }], ints := [], opqs := (0 : Nat), arrs := [some { elem := nat_lit 9, k := AK.o (Obj.rows [CK.s] L'54), l := [], cap := c, ro := false }], junks := (0 : Nat) }))) := by kernel_rfl
theorem whinsV_vc (K : AV → St → Prop) (L : Rws) (n c : Nat) (i : Int) (v0 : Int) : (runV whov inv0 tbl0 112 [cell (rslC ⟨0, 1, 0, n, c⟩), xi .i64 i, sl ⟨0, 0, 1, none, 1⟩] ⟨[some ⟨42, whC v0, none, 1, false⟩], [], 0, [some (whvB L c)], 0⟩ K) = (((0 : Int) ≤ i ∧ i ≤ (↑n : Int) ∧ (↑n : Int) ≤ (↑c : Int)) ∧ ∀ (o0 n1 c2 : Nat), ((↑o0 : Int) = if (↑c : Int) = Option.getD (some i) (0 : Int) then (0 : Int) else (0 : Int) + i) → (↑n1 : Int) = (↑n : Int) - i → (↑c2 : Int) = (↑c : Int) - i → ∀ (z3 : Int), z3 = (↑n : Int) → (i = z3 → ((0 : Nat) + c ≤ List.length L ∧ (0 : Nat) + c ≤ c) ∧ True ∧ n ≤ (16777216 : Nat) ∧ (1 : Nat) ≤ (16777216 : Nat) ∧ ∀ (L'4 T5 : List (List CV)) (n'6 c'7 : Nat), L'4 = List.take n (List.take c (List.drop ((0 : Nat)) L)) ++ [CV.i v0] :: U.nilL ++ T5 → n'6 = n + (1 : Nat) → n'6 ≤ c'7 → List.length L'4 = c'7 → K (Sum.inl (Sum.inl (Sum.inr (Sum.inr (Sum.inr (Sum.inr (Sum.inr (Sum.inr (Sum.inr (Sum.inr (Sum.inr (Sum.inr (Sum.inr (Sum.inl { a := (1 : Nat), u := (0 : Nat) + (1 : Nat), o := (0 : Nat), n := n'6, c := c'7 })))))))))))))) { heap := [some { elem := nat_lit 42, cells := [Sum.inr (Sum.inr (Sum.inr (Sum.inr (Sum.inr (Sum.inr (Sum.inl (IntKind.u64, v0)))))))], j := none, c := (1 : Nat), z := false }], ints := [], opqs := (0 : Nat), arrs := [none, some { elem := (42 : Nat), k := AK.o (Obj.rows [CK.n IntKind.u64] L'4), l := [], cap := c'7, ro := false }], junks := (0 : Nat) }) ∧ (¬i = z3 → ∀ (z8 : Int), z8 = IntKind.wrap IntKind.i64 (z3 + (1 : Int)) → ∀ (z9 : Int), z9 = (↑c : Int) → (z9 < z8 → ((0 : Int) ≤ (0 : Int) ∧ (0 : Int) ≤ i ∧ i ≤ (↑c : Int)) ∧ ∀ (o10 n11 c12 : Nat), ((↑o10 : Int) = if (↑c : Int) = Option.getD none (0 : Int) then (0 : Int) else (0 : Int)) → (↑n11 : Int) = i - (0 : Int) → (↑c12 : Int) = (↑c : Int) - (0 : Int) → ∀ (z13 : Int), z13 = IntKind.wrap IntKind.i64 (z3 + (1 : Int)) → ∀ (z14 : Int), z14 = IntKind.wrap IntKind.i64 (z13 - i) → (o10 + c12 ≤ List.length L ∧ o10 + c12 ≤ c) ∧ n11 ≤ (16777216 : Nat) ∧ ((0 : Int) ≤ z14 ∧ z14 ≤ (16777216 : Int)) ∧ (↑c12 : Int) < (↑n11 : Int) + z14 ∧ ∀ (L'15 T16 : List (List CV)) (n'17 c'18 : Nat), L'15 = List.take n11 (List.take c12 (List.drop o10 L)) ++ List.replicate (Int.toNat z14) [CV.i (0 : Int)] ++ T16 → (↑n'17 : Int) = (↑n11 : Int) + z14 → n'17 ≤ c'18 → List.length L'15 = c'18 → ((0 : Int) ≤ i ∧ i ≤ (↑n'17 : Int) ∧ (↑n'17 : Int) ≤ (↑c'18 : Int)) ∧ ∀ (o19 n20 c21 : Nat), ((↑o19 : Int) = if (↑c'18 : Int) = Option.getD (some i) (0 : Int) then (0 : Int) else (0 : Int) + i) → (↑n20 : Int) = (↑n'17 : Int) - i → (↑c21 : Int) = (↑c'18 : Int) - i → (o19 + n20 ≤ List.length L'15 ∧ True) ∧ ∀ (n22 : Nat) (L'23 : List (List CV)), n22 = min ((1 : Nat)) n20 → L'23 = List.take o19 L'15 ++ List.take n22 ([CV.i v0] :: U.nilL) ++ List.drop (o19 + n22) L'15 → ∀ (z24 : Int), z24 = IntKind.wrap IntKind.i64 (i + (1 : Int)) → ((0 : Int) ≤ z24 ∧ z24 ≤ (↑n'17 : Int) ∧ (↑n'17 : Int) ≤ (↑c'18 : Int)) ∧ ∀ (o25 n26 c27 : Nat), ((↑o25 : Int) = if (↑c'18 : Int) = Option.getD (some z24) (0 : Int) then (0 : Int) else (0 : Int) + z24) → (↑n26 : Int) = (↑n'17 : Int) - z24 → (↑c27 : Int) = (↑c'18 : Int) - z24 → ((0 : Int) ≤ i ∧ i ≤ (↑n : Int) ∧ (↑n : Int) ≤ (↑c : Int)) ∧ ∀ (o28 n29 c30 : Nat), ((↑o28 : Int) = if (↑c : Int) = Option.getD (some i) (0 : Int) then (0 : Int) else (0 : Int) + i) → (↑n29 : Int) = (↑n : Int) - i → (↑c30 : Int) = (↑c : Int) - i → (o25 + n26 ≤ List.length L'23 ∧ Nat.le (o28 + n29) (List.length L)) ∧ ∀ (n31 : Nat) (L'32 : List (List CV)), n31 = min n29 n26 → L'32 = List.take o25 L'23 ++ List.take n31 (List.take n29 (List.drop o28 L)) ++ List.drop (o25 + n31) L'23 → K (Sum.inl (Sum.inl (Sum.inr (Sum.inr (Sum.inr (Sum.inr (Sum.inr (Sum.inr (Sum.inr (Sum.inr (Sum.inr (Sum.inr (Sum.inr (Sum.inl { a := (1 : Nat), u := (1 : Nat), o := (0 : Nat), n := n'17, c := c'18 })))))))))))))) { heap := [some { elem := nat_lit 42, cells := [Sum.inr (Sum.inr (Sum.inr (Sum.inr (Sum.inr (Sum.inr (Sum.inl (IntKind.u64, v0)))))))], j := none, c := (1 : Nat), z := false }], ints := [], opqs := (0 : Nat), arrs := [some { elem := (42 : Nat), k := AK.o (Obj.rows [CK.n IntKind.u64] L), l := [], cap := c, ro := false }, some { elem := nat_lit 42, k := AK.o (Obj.rows [CK.n IntKind.u64] L'32), l := [], cap := c'18, ro := false }], junks := (0 : Nat) }) ∧ (¬z9 < z8 → ∀ (z33 : Int), z33 = IntKind.wrap IntKind.i64 (z3 + (1 : Int)) → ((0 : Int) ≤ (0 : Int) ∧ (0 : Int) ≤ z33 ∧ z33 ≤ (↑c : Int)) ∧ ∀ (o34 n35 c36 : Nat), ((↑o34 : Int) = if (↑c : Int) = Option.getD none (0 : Int) then (0 : Int) else (0 : Int)) → (↑n35 : Int) = z33 - (0 : Int) → (↑c36 : Int) = (↑c : Int) - (0 : Int) → ∀ (z37 : Int), z37 = IntKind.wrap IntKind.i64 (i + (1 : Int)) → ((0 : Int) ≤ z37 ∧ z37 ≤ (↑n35 : Int) ∧ (↑n35 : Int) ≤ (↑c36 : Int)) ∧ ∀ (o38 n39 c40 : Nat), ((↑o38 : Int) = if (↑c36 : Int) = Option.getD (some z37) (0 : Int) then (↑o34 : Int) else (↑o34 : Int) + z37) → (↑n39 : Int) = (↑n35 : Int) - z37 → (↑c40 : Int) = (↑c36 : Int) - z37 → o38 + n39 ≤ List.length L ∧ ∀ (z41 : Int), z41 = IntKind.wrap IntKind.i64 (i + (1 : Int)) → ((0 : Int) ≤ z41 ∧ z41 ≤ (↑n35 : Int) ∧ (↑n35 : Int) ≤ (↑c36 : Int)) ∧ ∀ (o42 n43 c44 : Nat), ((↑o42 : Int) = if (↑c36 : Int) = Option.getD (some z41) (0 : Int) then (↑o34 : Int) else (↑o34 : Int) + z41) → (↑n43 : Int) = (↑n35 : Int) - z41 → (↑c44 : Int) = (↑c36 : Int) - z41 → ((0 : Int) ≤ i ∧ i ≤ (↑n35 : Int) ∧ (↑n35 : Int) ≤ (↑c36 : Int)) ∧ ∀ (o45 n46 c47 : Nat), ((↑o45 : Int) = if (↑c36 : Int) = Option.getD (some i) (0 : Int) then (↑o34 : Int) else (↑o34 : Int) + i) → (↑n46 : Int) = (↑n35 : Int) - i → (↑c47 : Int) = (↑c36 : Int) - i → (o42 + n43 ≤ List.length L ∧ Nat.le (o45 + n46) (List.length L)) ∧ ∀ (n48 : Nat) (L'49 : List (List CV)), n48 = min n46 n43 → L'49 = List.take o42 L ++ List.take n48 (List.take n46 (List.drop o45 L)) ++ List.drop (o42 + n48) L → ((0 : Int) ≤ i ∧ i ≤ (↑n35 : Int) ∧ (↑n35 : Int) ≤ (↑c36 : Int)) ∧ ∀ (o50 n51 c52 : Nat), ((↑o50 : Int) = if (↑c36 : Int) = Option.getD (some i) (0 : Int) then (↑o34 : Int) else (↑o34 : Int) + i) → (↑n51 : Int) = (↑n35 : Int) - i → (↑c52 : Int) = (↑c36 : Int) - i → (o50 + n51 ≤ List.length L'49 ∧ True) ∧ ∀ (n53 : Nat) (L'54 : List (List CV)), n53 = min ((1 : Nat)) n51 → L'54 = List.take o50 L'49 ++ List.take n53 ([CV.i v0] :: U.nilL) ++ List.drop (o50 + n53) L'49 → K (Sum.inl (Sum.inl (Sum.inr (Sum.inr (Sum.inr (Sum.inr (Sum.inr (Sum.inr (Sum.inr (Sum.inr (Sum.inr (Sum.inr (Sum.inr (Sum.inl { a := (0 : Nat), u := (1 : Nat), o := o34, n := n35, c := c36 })))))))))))))) { heap := [some { elem := nat_lit 42, cells := [Sum.inr (Sum.inr (Sum.inr (Sum.inr (Sum.inr (Sum.inr (Sum.inl (IntKind.u64, v0)))))))], j := none, c := (1 : Nat), z := false }], ints := [], opqs := (0 : Nat), arrs := [some { elem := nat_lit 42, k := AK.o (Obj.rows [CK.n IntKind.u64] L'54), l := [], cap := c, ro := false }], junks := (0 : Nat) }))) := by kernel_rfl
theorem whdelK_vc (K : AV → St → Prop) (L : Rws) (n c : Nat) (i j : Int) : (runW whov inv0 tbl0 115 [cell (rslC ⟨0, 1, 0, n, c⟩), xi .i64 i, xi .i64 j] ⟨[], [], 0, [some (whkB L c)], 0⟩ K) = (∀ (z0 : Int), z0 = (↑n : Int) → ((0 : Int) ≤ i ∧ i ≤ j ∧ j ≤ z0 ∧ z0 ≤ (↑c : Int)) ∧ ∀ (o1 n2 c3 : Nat), ((↑o1 : Int) = if z0 = i then (↑((0 : Nat)) : Int) else (↑((0 : Nat)) : Int) + i) → (↑n2 : Int) = j - i → (↑c3 : Int) = z0 - i → (i = j → K (Sum.inl (Sum.inl (Sum.inr (Sum.inr (Sum.inr (Sum.inr (Sum.inr (Sum.inr (Sum.inr (Sum.inr (Sum.inr (Sum.inr (Sum.inr (Sum.inl { a := (0 : Nat), u := (1 : Nat), o := (0 : Nat), n := n, c := c })))))))))))))) { heap := [], ints := [], opqs := (0 : Nat), arrs := [some { elem := (9 : TypeId), k := AK.o (Obj.rows [CK.s] L), l := [], cap := c, ro := false }], junks := (0 : Nat) }) ∧ (¬i = j → ∀ (z4 : Int), z4 = (↑n : Int) → ((0 : Int) ≤ (0 : Int) ∧ (0 : Int) ≤ i ∧ i ≤ (↑c : Int)) ∧ ∀ (o5 n6 c7 : Nat), ((↑o5 : Int) = if (↑c : Int) = Option.getD none (0 : Int) then (0 : Int) else (0 : Int)) → (↑n6 : Int) = i - (0 : Int) → (↑c7 : Int) = (↑c : Int) - (0 : Int) → ((0 : Int) ≤ j ∧ j ≤ (↑n : Int) ∧ (↑n : Int) ≤ (↑c : Int)) ∧ ∀ (o8 n9 c10 : Nat), ((↑o8 : Int) = if (↑c : Int) = Option.getD (some j) (0 : Int) then (0 : Int) else (0 : Int) + j) → (↑n9 : Int) = (↑n : Int) - j → (↑c10 : Int) = (↑c : Int) - j → (o5 + c7 ≤ List.length L ∧ o5 + c7 ≤ c) ∧ Nat.le (o8 + n9) (List.length L) ∧ (n6 ≤ (16777216 : Nat) ∧ n9 ≤ (16777216 : Nat) ∧ n6 + n9 ≤ c7) ∧ ∀ (L'11 : List (List CV)) (n'12 : Nat), L'11 = List.take n6 (List.take c7 (List.drop o5 L)) ++ List.take n9 (List.drop o8 L) ++ List.drop (n6 + n9) (List.take c7 (List.drop o5 L)) → n'12 = n6 + n9 → ∀ (z13 : Int), z13 = (↑n'12 : Int) → ((0 : Int) ≤ z13 ∧ z13 ≤ z4 ∧ z4 ≤ (↑c7 : Int)) ∧ ∀ (o14 n15 c16 : Nat), ((↑o14 : Int) = if (↑c7 : Int) = Option.getD (some z13) (0 : Int) then (0 : Int) else (0 : Int) + z13) → (↑n15 : Int) = z4 - z13 → (↑c16 : Int) = (↑c7 : Int) - z13 → o14 + n15 ≤ List.length L'11 ∧ ∀ (L'17 : List (List CV)), L'17 = List.take o14 L'11 ++ List.replicate n15 [CV.s []] ++ List.drop (o14 + n15) L'11 → K (Sum.inl (Sum.inl (Sum.inr (Sum.inr (Sum.inr (Sum.inr (Sum.inr (Sum.inr (Sum.inr (Sum.inr (Sum.inr (Sum.inr (Sum.inr (Sum.inl { a := (1 : Nat), u := (1 : Nat), o := (0 : Nat), n := n'12, c := c7 })))))))))))))) { heap := [], ints := [], opqs := (0 : Nat), arrs := [none, some { elem := nat_lit 9, k := AK.o (Obj.rows [CK.s] L'17), l := [], cap := c7, ro := false }], junks := (0 : Nat) })) := by kernel_rfl
theorem whdelV_vc (K : AV → St → Prop) (L : Rws) (n c : Nat) (i j : Int) : (runW whov inv0 tbl0 117 [cell (rslC ⟨0, 1, 0, n, c⟩), xi .i64 i, xi .i64 j] ⟨[], [], 0, [some (whvB L c)], 0⟩ K) = (∀ (z0 : Int), z0 = (↑n : Int) → ((0 : Int) ≤ i ∧ i ≤ j ∧ j ≤ z0 ∧ z0 ≤ (↑c : Int)) ∧ ∀ (o1 n2 c3 : Nat), ((↑o1 : Int) = if z0 = i then (↑((0 : Nat)) : Int) else (↑((0 : Nat)) : Int) + i) → (↑n2 : Int) = j - i → (↑c3 : Int) = z0 - i → (i = j → K (Sum.inl (Sum.inl (Sum.inr (Sum.inr (Sum.inr (Sum.inr (Sum.inr (Sum.inr (Sum.inr (Sum.inr (Sum.inr (Sum.inr (Sum.inr (Sum.inl { a := (0 : Nat), u := (1 : Nat), o := (0 : Nat), n := n, c := c })))))))))))))) { heap := [], ints := [], opqs := (0 : Nat), arrs := [some { elem := (42 : TypeId), k := AK.o (Obj.rows [CK.n IntKind.u64] L), l := [], cap := c, ro := false }], junks := (0 : Nat) }) ∧ (¬i = j → ∀ (z4 : Int), z4 = (↑n : Int) → ((0 : Int) ≤ (0 : Int) ∧ (0 : Int) ≤ i ∧ i ≤ (↑c : Int)) ∧ ∀ (o5 n6 c7 : Nat), ((↑o5 : Int) = if (↑c : Int) = Option.getD none (0 : Int) then (0 : Int) else (0 : Int)) → (↑n6 : Int) = i - (0 : Int) → (↑c7 : Int) = (↑c : Int) - (0 : Int) → ((0 : Int) ≤ j ∧ j ≤ (↑n : Int) ∧ (↑n : Int) ≤ (↑c : Int)) ∧ ∀ (o8 n9 c10 : Nat), ((↑o8 : Int) = if (↑c : Int) = Option.getD (some j) (0 : Int) then (0 : Int) else (0 : Int) + j) → (↑n9 : Int) = (↑n : Int) - j → (↑c10 : Int) = (↑c : Int) - j → (o5 + c7 ≤ List.length L ∧ o5 + c7 ≤ c) ∧ Nat.le (o8 + n9) (List.length L) ∧ (n6 ≤ (16777216 : Nat) ∧ n9 ≤ (16777216 : Nat) ∧ n6 + n9 ≤ c7) ∧ ∀ (L'11 : List (List CV)) (n'12 : Nat), L'11 = List.take n6 (List.take c7 (List.drop o5 L)) ++ List.take n9 (List.drop o8 L) ++ List.drop (n6 + n9) (List.take c7 (List.drop o5 L)) → n'12 = n6 + n9 → ∀ (z13 : Int), z13 = (↑n'12 : Int) → ((0 : Int) ≤ z13 ∧ z13 ≤ z4 ∧ z4 ≤ (↑c7 : Int)) ∧ ∀ (o14 n15 c16 : Nat), ((↑o14 : Int) = if (↑c7 : Int) = Option.getD (some z13) (0 : Int) then (0 : Int) else (0 : Int) + z13) → (↑n15 : Int) = z4 - z13 → (↑c16 : Int) = (↑c7 : Int) - z13 → o14 + n15 ≤ List.length L'11 ∧ ∀ (L'17 : List (List CV)), L'17 = List.take o14 L'11 ++ List.replicate n15 [CV.i (0 : Int)] ++ List.drop (o14 + n15) L'11 → K (Sum.inl (Sum.inl (Sum.inr (Sum.inr (Sum.inr (Sum.inr (Sum.inr (Sum.inr (Sum.inr (Sum.inr (Sum.inr (Sum.inr (Sum.inr (Sum.inl { a := (1 : Nat), u := (1 : Nat), o := (0 : Nat), n := n'12, c := c7 })))))))))))))) { heap := [], ints := [], opqs := (0 : Nat), arrs := [none, some { elem := nat_lit 42, k := AK.o (Obj.rows [CK.n IntKind.u64] L'17), l := [], cap := c7, ro := false }], junks := (0 : Nat) })) := by kernel_rfl
end Go.Proofs.YtcjcdimlcfegbaaGreatDoor
end

section
set_option linter.unusedVariables false
set_option linter.unusedSimpArgs false
namespace Go.Proofs.YtcjcdimlcfegbaaGreatDoor
open Go Reck Ost
theorem whovOk : whov.all (isOverlaps Tryz.prog) = true := by kernel_rfl
set_option maxHeartbeats 4000000 in
theorem whinsK_run (K : AV → St → Prop) (L A : Rws) (n c : Nat) (i : Int) (k : List Int) (h : U.Fu L n c A) (hi : 0 ≤ i ∧ i ≤ n) (hn : n + 1 ≤ 1000000)
    (hA : ∀ (L' : Rws) (c' : Nat), U.Fu L' (n + 1) c' (U.insR A i [.s k]) → K (cell (rslC ⟨1, 1, 0, n + 1, c'⟩)) ⟨[some ⟨9, [strC k], none, 1, false⟩], [], 0, [none, some (whkB L' c')], 0⟩)
    (hB : ∀ (L' : Rws) (c' : Nat), U.Fu L' (n + 1) c' (U.insR A i [.s k]) → K (cell (rslC ⟨1, 1, 0, n + 1, c'⟩)) ⟨[some ⟨9, [strC k], none, 1, false⟩], [], 0, [some (whkB L c), some (whkB L' c')], 0⟩)
    (hC : ∀ (L' : Rws) (c' : Nat), U.Fu L' (n + 1) c' (U.insR A i [.s k]) → K (cell (rslC ⟨0, 1, 0, n + 1, c'⟩)) ⟨[some ⟨9, [strC k], none, 1, false⟩], [], 0, [some (whkB L' c')], 0⟩) :
    runV whov inv0 tbl0 109 [cell (rslC ⟨0, 1, 0, n, c⟩), xi .i64 i, sl ⟨0, 0, 1, none, 1⟩] ⟨[some ⟨9, [strC k], none, 1, false⟩], [], 0, [some (whkB L c)], 0⟩ K := by
  rw [whinsK_vc]
  have hl := h.len
  have hle := h.le
  have tk : L.take c = L := List.take_of_length_le (by omega)
  obtain ⟨j, rfl⟩ : ∃ j : Nat, i = j := ⟨i.toNat, by omega⟩
  refine ⟨⟨by omega, by omega, by omega⟩, fun o0 n1 c2 _ h1 h2 z3 h3 => ⟨fun hin => ⟨⟨by omega, by omega⟩, trivial, by omega, by omega, fun L4 T5 n6 c7 e4 e6 e7 e8 => ?_⟩, fun hin z8 h8 z9 h9 => ⟨fun hlt => ⟨⟨by omega, by omega, by omega⟩, fun o10 n11 c12 h10 h11 h12 z13 h13 z14 h14 => ?_⟩, fun hge z31 h31 => ?_⟩⟩⟩
  · subst e6
    rw [List.drop_zero, tk] at e4
    have hj : j = n := by omega
    subst hj
    exact hA _ _ (insA h e4 e8 e7 hn)
  · replace h8 := iw h8 (by omega)
    replace h13 := iw h13 (by omega)
    replace h14 := iw h14 (by omega)
    replace h10 := off_of (l := 0) h10 (.inr rfl)
    obtain rfl : o10 = 0 := by omega
    obtain rfl : n11 = j := by omega
    obtain rfl : c12 = c := by omega
    refine ⟨⟨by omega, by omega⟩, by omega, ⟨by omega, by omega⟩, by omega, fun L15 T16 n17 c18 e15 e17 e18 e19 => ?_⟩
    obtain rfl : n17 = n + 1 := by omega
    refine ⟨⟨by omega, by omega, by omega⟩, fun o19 n20 c21 h19 h20 h21 => ?_⟩
    have q19 : ¬ (c18 : Int) = n11 := by clear h19; omega
    replace h19 := off_of (l := n11) h19 (.inl q19)
    obtain rfl : o19 = n11 := by omega
    refine ⟨⟨by omega, trivial⟩, fun n22 L23 h22 e23 z24 h24 => ?_⟩
    replace h24 := iw h24 (by omega)
    refine ⟨⟨by omega, by omega, by omega⟩, fun o25 n26 c27 h25 h26 h27 => ?_⟩
    have q25 : ¬ (c18 : Int) = z24 := by clear h25; omega
    replace h25 := off_of (l := z24) h25 (.inl q25)
    refine ⟨⟨by omega, by omega, by omega⟩, fun o28 n29 c30 h28 h29 h30 => ?_⟩
    have q28 : ¬ (c12 : Int) = o19 := by clear h28; omega
    replace h28 := off_of (l := o19) h28 (.inl q28)
    obtain ⟨f23, l23⟩ := mid_one e23 (by omega) (by omega)
    clear e23
    obtain rfl : o25 = o19 + 1 := by omega
    obtain rfl : o28 = o19 := by omega
    refine ⟨⟨by omega, (by omega : o28 + n29 ≤ L.length)⟩, fun n31 L32 h31 e32 => ?_⟩
    obtain rfl : n31 = n - o28 := by omega
    obtain ⟨f32, l32⟩ := mid_row (k := n + 1) e32 (by omega) (by omega) (by omega) (by omega)
    rw [List.drop_zero, tk, show z14.toNat = n + 1 - o28 by omega] at e15
    exact hB _ _ (insB h (by omega) e15 e19 e18 f23 f32 hn)
  · replace h8 := iw h8 (by omega)
    replace h31 := iw h31 (by omega)
    refine ⟨⟨by omega, by omega, by omega⟩, fun o32 n33 c34 h32 h33 h34 z35 h35 => ?_⟩
    replace h32 := off_of (l := 0) h32 (.inr rfl)
    replace h35 := iw h35 (by omega)
    obtain rfl : o32 = 0 := by omega
    obtain rfl : n33 = n + 1 := by omega
    obtain rfl : c34 = c := by omega
    refine ⟨⟨by omega, by omega, by omega⟩, fun o36 n37 c38 h36 h37 h38 => ?_⟩
    have q36 : ¬ (c34 : Int) = z35 := by clear h36; omega
    replace h36 := off_of (l := z35) h36 (.inl q36)
    refine ⟨by omega, fun z39 h39 => ?_⟩
    replace h39 := iw h39 (by omega)
    refine ⟨⟨by omega, by omega, by omega⟩, fun o40 n41 c42 h40 h41 h42 => ?_⟩
    have q40 : ¬ (c34 : Int) = z39 := by clear h40; omega
    replace h40 := off_of (l := z39) h40 (.inl q40)
    refine ⟨⟨by omega, by omega, by omega⟩, fun o43 n44 c45 h43 h44 h45 => ?_⟩
    have q43 : ¬ (c34 : Int) = j := by clear h43; omega
    replace h43 := off_of (l := j) h43 (.inl q43)
    obtain rfl : o40 = j + 1 := by omega
    obtain rfl : o43 = j := by omega
    refine ⟨⟨by omega, (by omega : o43 + n44 ≤ L.length)⟩, fun n46 L47 h46 e47 => ⟨⟨by omega, by omega, by omega⟩, fun o48 n49 c50 h48 h49 h50 => ?_⟩⟩
    have q48 : ¬ (c34 : Int) = o43 := by clear h48; omega
    replace h48 := off_of (l := o43) h48 (.inl q48)
    obtain rfl : o48 = o43 := by omega
    obtain rfl : n46 = n - o48 := by omega
    obtain ⟨f47, l47⟩ := mid_row (k := n + 1) e47 (by omega) (by omega) (by omega) (by omega)
    clear e47
    refine ⟨⟨by omega, trivial⟩, fun n51 L52 h51 e52 => ?_⟩
    obtain ⟨f52, l52⟩ := mid_one e52 (by omega) (by omega)
    exact hC _ _ (insC h (by omega) (by omega) f47 f52 hn)
set_option maxHeartbeats 4000000 in
theorem whinsV_run (K : AV → St → Prop) (L A : Rws) (n c : Nat) (i : Int) (v0 : Int) (h : U.Fu L n c A) (hi : 0 ≤ i ∧ i ≤ n) (hn : n + 1 ≤ 1000000)
    (hA : ∀ (L' : Rws) (c' : Nat), U.Fu L' (n + 1) c' (U.insR A i (whR v0)) → K (cell (rslC ⟨1, 1, 0, n + 1, c'⟩)) ⟨[some ⟨42, whC v0, none, 1, false⟩], [], 0, [none, some (whvB L' c')], 0⟩)
    (hB : ∀ (L' : Rws) (c' : Nat), U.Fu L' (n + 1) c' (U.insR A i (whR v0)) → K (cell (rslC ⟨1, 1, 0, n + 1, c'⟩)) ⟨[some ⟨42, whC v0, none, 1, false⟩], [], 0, [some (whvB L c), some (whvB L' c')], 0⟩)
    (hC : ∀ (L' : Rws) (c' : Nat), U.Fu L' (n + 1) c' (U.insR A i (whR v0)) → K (cell (rslC ⟨0, 1, 0, n + 1, c'⟩)) ⟨[some ⟨42, whC v0, none, 1, false⟩], [], 0, [some (whvB L' c')], 0⟩) :
    runV whov inv0 tbl0 112 [cell (rslC ⟨0, 1, 0, n, c⟩), xi .i64 i, sl ⟨0, 0, 1, none, 1⟩] ⟨[some ⟨42, whC v0, none, 1, false⟩], [], 0, [some (whvB L c)], 0⟩ K := by
  rw [whinsV_vc]
  have hl := h.len
  have hle := h.le
  have tk : L.take c = L := List.take_of_length_le (by omega)
  obtain ⟨j, rfl⟩ : ∃ j : Nat, i = j := ⟨i.toNat, by omega⟩
  refine ⟨⟨by omega, by omega, by omega⟩, fun o0 n1 c2 _ h1 h2 z3 h3 => ⟨fun hin => ⟨⟨by omega, by omega⟩, trivial, by omega, by omega, fun L4 T5 n6 c7 e4 e6 e7 e8 => ?_⟩, fun hin z8 h8 z9 h9 => ⟨fun hlt => ⟨⟨by omega, by omega, by omega⟩, fun o10 n11 c12 h10 h11 h12 z13 h13 z14 h14 => ?_⟩, fun hge z31 h31 => ?_⟩⟩⟩
  · subst e6
    rw [List.drop_zero, tk] at e4
    have hj : j = n := by omega
    subst hj
    exact hA _ _ (insA h e4 e8 e7 hn)
  · replace h8 := iw h8 (by omega)
    replace h13 := iw h13 (by omega)
    replace h14 := iw h14 (by omega)
    replace h10 := off_of (l := 0) h10 (.inr rfl)
    obtain rfl : o10 = 0 := by omega
    obtain rfl : n11 = j := by omega
    obtain rfl : c12 = c := by omega
    refine ⟨⟨by omega, by omega⟩, by omega, ⟨by omega, by omega⟩, by omega, fun L15 T16 n17 c18 e15 e17 e18 e19 => ?_⟩
    obtain rfl : n17 = n + 1 := by omega
    refine ⟨⟨by omega, by omega, by omega⟩, fun o19 n20 c21 h19 h20 h21 => ?_⟩
    have q19 : ¬ (c18 : Int) = n11 := by clear h19; omega
    replace h19 := off_of (l := n11) h19 (.inl q19)
    obtain rfl : o19 = n11 := by omega
    refine ⟨⟨by omega, trivial⟩, fun n22 L23 h22 e23 z24 h24 => ?_⟩
    replace h24 := iw h24 (by omega)
    refine ⟨⟨by omega, by omega, by omega⟩, fun o25 n26 c27 h25 h26 h27 => ?_⟩
    have q25 : ¬ (c18 : Int) = z24 := by clear h25; omega
    replace h25 := off_of (l := z24) h25 (.inl q25)
    refine ⟨⟨by omega, by omega, by omega⟩, fun o28 n29 c30 h28 h29 h30 => ?_⟩
    have q28 : ¬ (c12 : Int) = o19 := by clear h28; omega
    replace h28 := off_of (l := o19) h28 (.inl q28)
    obtain ⟨f23, l23⟩ := mid_one e23 (by omega) (by omega)
    clear e23
    obtain rfl : o25 = o19 + 1 := by omega
    obtain rfl : o28 = o19 := by omega
    refine ⟨⟨by omega, (by omega : o28 + n29 ≤ L.length)⟩, fun n31 L32 h31 e32 => ?_⟩
    obtain rfl : n31 = n - o28 := by omega
    obtain ⟨f32, l32⟩ := mid_row (k := n + 1) e32 (by omega) (by omega) (by omega) (by omega)
    rw [List.drop_zero, tk, show z14.toNat = n + 1 - o28 by omega] at e15
    exact hB _ _ (insB h (by omega) e15 e19 e18 f23 f32 hn)
  · replace h8 := iw h8 (by omega)
    replace h31 := iw h31 (by omega)
    refine ⟨⟨by omega, by omega, by omega⟩, fun o32 n33 c34 h32 h33 h34 z35 h35 => ?_⟩
    replace h32 := off_of (l := 0) h32 (.inr rfl)
    replace h35 := iw h35 (by omega)
    obtain rfl : o32 = 0 := by omega
    obtain rfl : n33 = n + 1 := by omega
    obtain rfl : c34 = c := by omega
    refine ⟨⟨by omega, by omega, by omega⟩, fun o36 n37 c38 h36 h37 h38 => ?_⟩
    have q36 : ¬ (c34 : Int) = z35 := by clear h36; omega
    replace h36 := off_of (l := z35) h36 (.inl q36)
    refine ⟨by omega, fun z39 h39 => ?_⟩
    replace h39 := iw h39 (by omega)
    refine ⟨⟨by omega, by omega, by omega⟩, fun o40 n41 c42 h40 h41 h42 => ?_⟩
    have q40 : ¬ (c34 : Int) = z39 := by clear h40; omega
    replace h40 := off_of (l := z39) h40 (.inl q40)
    refine ⟨⟨by omega, by omega, by omega⟩, fun o43 n44 c45 h43 h44 h45 => ?_⟩
    have q43 : ¬ (c34 : Int) = j := by clear h43; omega
    replace h43 := off_of (l := j) h43 (.inl q43)
    obtain rfl : o40 = j + 1 := by omega
    obtain rfl : o43 = j := by omega
    refine ⟨⟨by omega, (by omega : o43 + n44 ≤ L.length)⟩, fun n46 L47 h46 e47 => ⟨⟨by omega, by omega, by omega⟩, fun o48 n49 c50 h48 h49 h50 => ?_⟩⟩
    have q48 : ¬ (c34 : Int) = o43 := by clear h48; omega
    replace h48 := off_of (l := o43) h48 (.inl q48)
    obtain rfl : o48 = o43 := by omega
    obtain rfl : n46 = n - o48 := by omega
    obtain ⟨f47, l47⟩ := mid_row (k := n + 1) e47 (by omega) (by omega) (by omega) (by omega)
    clear e47
    refine ⟨⟨by omega, trivial⟩, fun n51 L52 h51 e52 => ?_⟩
    obtain ⟨f52, l52⟩ := mid_one e52 (by omega) (by omega)
    exact hC _ _ (insC h (by omega) (by omega) f47 f52 hn)
theorem whdelK_run (K : AV → St → Prop) (L A : Rws) (n c : Nat) (i j : Int) (h : U.Fu L n c A) (hi : 0 ≤ i ∧ i < n) (hj : j = i + 1)
    (hK : ∀ (n' : Nat) (L' : Rws), n' + 1 = n → U.Fu L' n' c (A.eraseIdx i.toNat) → K (cell (rslC ⟨1, 1, 0, n', c⟩)) ⟨[], [], 0, [none, some (whkB L' c)], 0⟩) :
    runW whov inv0 tbl0 115 [cell (rslC ⟨0, 1, 0, n, c⟩), xi .i64 i, xi .i64 j] ⟨[], [], 0, [some (whkB L c)], 0⟩ K := by
  rw [whdelK_vc]
  have hl := h.len
  have hle := h.le
  have hsm := h.sm
  have tk : L.take c = L := List.take_of_length_le (by omega)
  obtain ⟨p, rfl⟩ : ∃ p : Nat, i = p := ⟨i.toNat, by omega⟩
  subst hj
  refine fun z0 h0 => ⟨⟨by omega, by omega, by omega, by omega⟩, fun o1 n2 c3 _ _ _ => ⟨fun g => by omega, fun _ z4 h4 => ⟨⟨by omega, by omega, by omega⟩, fun o5 n6 c7 h5 h6 h7 => ⟨⟨by omega, by omega, by omega⟩, fun o8 n9 c10 h8 h9 h10 => ?_⟩⟩⟩⟩
  obtain rfl : o5 = 0 := by split at h5 <;> omega
  obtain rfl : n6 = p := by omega
  obtain rfl : c7 = c := by omega
  have h8' : o8 = n6 + 1 ∨ n - (n6 + 1) = 0 := by
    by_cases hc : (c7 : Int) = (n6 : Int) + 1
    · right; omega
    · left
      replace h8 := off_of (l := (n6 : Int) + 1) h8 (.inl hc)
      omega
  have h8b : o8 + n9 ≤ L.length := by
    rcases h8' with h | h
    · omega
    · replace h8 : (o8 : Int) ≤ n6 + 1 := by split at h8 <;> omega
      omega
  clear h8
  obtain rfl : n9 = n - (n6 + 1) := by omega
  refine ⟨⟨by omega, by omega⟩, h8b, ⟨by omega, by omega, by omega⟩, fun L11 n12 e11 e12 z13 h13 => ⟨⟨by omega, by omega, by omega⟩, fun o14 n15 c16 h14 h15 h16 => ?_⟩⟩
  have q14 : ¬ (c7 : Int) = z13 := by clear h14; omega
  replace h14 := off_of (l := z13) h14 (.inl q14)
  obtain rfl : o14 = n - 1 := by omega
  obtain rfl : n15 = 1 := by omega
  rw [List.drop_zero, tk, show n6 + (n - (n6 + 1)) = n - 1 by omega] at e11
  have l11 : L11.length = c7 := by
    rw [e11, List.length_append, List.length_append, List.length_take, List.length_take, List.length_drop, List.length_drop]; omega
  refine ⟨by omega, fun L17 e17 => hK n12 L17 (by omega) ?_⟩
  have := del_fin h (by omega) h8' e11 (L2 := L17) (by rw [e17, show n - 1 + 1 = n by omega])
  rw [Int.toNat_natCast, show n12 = n - 1 by omega]
  exact this
theorem whdelV_run (K : AV → St → Prop) (L A : Rws) (n c : Nat) (i j : Int) (h : U.Fu L n c A) (hi : 0 ≤ i ∧ i < n) (hj : j = i + 1)
    (hK : ∀ (n' : Nat) (L' : Rws), n' + 1 = n → U.Fu L' n' c (A.eraseIdx i.toNat) → K (cell (rslC ⟨1, 1, 0, n', c⟩)) ⟨[], [], 0, [none, some (whvB L' c)], 0⟩) :
    runW whov inv0 tbl0 117 [cell (rslC ⟨0, 1, 0, n, c⟩), xi .i64 i, xi .i64 j] ⟨[], [], 0, [some (whvB L c)], 0⟩ K := by
  rw [whdelV_vc]
  have hl := h.len
  have hle := h.le
  have hsm := h.sm
  have tk : L.take c = L := List.take_of_length_le (by omega)
  obtain ⟨p, rfl⟩ : ∃ p : Nat, i = p := ⟨i.toNat, by omega⟩
  subst hj
  refine fun z0 h0 => ⟨⟨by omega, by omega, by omega, by omega⟩, fun o1 n2 c3 _ _ _ => ⟨fun g => by omega, fun _ z4 h4 => ⟨⟨by omega, by omega, by omega⟩, fun o5 n6 c7 h5 h6 h7 => ⟨⟨by omega, by omega, by omega⟩, fun o8 n9 c10 h8 h9 h10 => ?_⟩⟩⟩⟩
  obtain rfl : o5 = 0 := by split at h5 <;> omega
  obtain rfl : n6 = p := by omega
  obtain rfl : c7 = c := by omega
  have h8' : o8 = n6 + 1 ∨ n - (n6 + 1) = 0 := by
    by_cases hc : (c7 : Int) = (n6 : Int) + 1
    · right; omega
    · left
      replace h8 := off_of (l := (n6 : Int) + 1) h8 (.inl hc)
      omega
  have h8b : o8 + n9 ≤ L.length := by
    rcases h8' with h | h
    · omega
    · replace h8 : (o8 : Int) ≤ n6 + 1 := by split at h8 <;> omega
      omega
  clear h8
  obtain rfl : n9 = n - (n6 + 1) := by omega
  refine ⟨⟨by omega, by omega⟩, h8b, ⟨by omega, by omega, by omega⟩, fun L11 n12 e11 e12 z13 h13 => ⟨⟨by omega, by omega, by omega⟩, fun o14 n15 c16 h14 h15 h16 => ?_⟩⟩
  have q14 : ¬ (c7 : Int) = z13 := by clear h14; omega
  replace h14 := off_of (l := z13) h14 (.inl q14)
  obtain rfl : o14 = n - 1 := by omega
  obtain rfl : n15 = 1 := by omega
  rw [List.drop_zero, tk, show n6 + (n - (n6 + 1)) = n - 1 by omega] at e11
  have l11 : L11.length = c7 := by
    rw [e11, List.length_append, List.length_append, List.length_take, List.length_take, List.length_drop, List.length_drop]; omega
  refine ⟨by omega, fun L17 e17 => hK n12 L17 (by omega) ?_⟩
  have := del_fin h (by omega) h8' e11 (L2 := L17) (by rw [e17, show n - 1 + 1 = n by omega])
  rw [Int.toNat_natCast, show n12 = n - 1 by omega]
  exact this
end Go.Proofs.YtcjcdimlcfegbaaGreatDoor
end

section
set_option linter.unusedVariables false
set_option linter.unusedSimpArgs false
set_option maxRecDepth 10000
namespace Go.Proofs.YtcjcdimlcfegbaaGreatDoor
open Go Reck Ost
/-- A thing of the shelf. -/
structure WHv where
  (v0 : Int)
def WHv.cells (e : WHv) : List Cell := whC e.v0
def WHv.row (e : WHv) : List CV := whR e.v0
def whX (l : List Cell) : Option WHv :=
  match l with
  | [v0] => match xiX (cell v0) with
    | some (.u64, v0) => some ⟨v0⟩
    | _ => none
  | _ => none
theorem whX_eq {l : List Cell} {e : WHv} (h : whX l = some e) : l = e.cells := by
  unfold whX at h
  split at h
  · split at h
    · rename_i h0
      simp only [Option.some.injEq] at h; subst h
      rw [cInj (xiX_eq h0)]; rfl
    · cases h
  · cases h
def whsV (k : List Int) : Option Blk := some ⟨9, [strC k], none, 1, false⟩
def wheV (e : WHv) : Option Blk := some ⟨42, e.cells, none, 1, false⟩
def whpInsK : Pat := fun args σ => match args, σ with
  | [s, i, .inl (.inl (.inr (.inr (.inl ⟨0, 0, 1, none, 1⟩))))], ⟨[some ⟨9, [v], none, 1, false⟩], [], 0, [some ⟨9, .o (.rows [.s] L), [], c0, false⟩], 0⟩ => match rslX s, intX i, cStr v with
    | some ⟨0, 1, 0, n, c⟩, some (.i64, i), some k => some fun K => ∃ A, (c0 = c ∧ U.Fu L n c A ∧ (0 ≤ i ∧ i ≤ n) ∧ n + 1 ≤ 1000000) ∧ ∀ (n' c' : Nat) (L' : Rws), n' = n + 1 → U.Fu L' n' c' (U.insR A i [.s k]) → K (cell (rslC ⟨1, 1, 0, n', c'⟩)) ⟨[whsV k], [], 0, [none, some (whkB L' c')], 0⟩
    | _, _, _ => none
  | _, _ => none
theorem whpInsK_ok : PatOk 109 whpInsK := by
  intro tm σ C h K hK w0 e w hk vs hvs
  unfold whpInsK at h
  split at h
  · rename_i s i v L c0
    split at h
    · rename_i n c i' k hs hi hv
      obtain rfl := rslX_eq hs
      obtain rfl := cStr_eq hv
      simp only [Option.some.injEq] at h; subst h
      obtain ⟨A, ⟨rfl, h1, h2, h3⟩, hK⟩ := hK
      obtain ⟨x, y, z, rfl, q1, q2, q3⟩ := threes hvs
      refine ins_fin (old := some (whkB L c0)) (u := 1) (Q := fun n' c' L' => n' = n + 1 ∧ U.Fu L' n' c' (U.insR A i' [.s k])) (knownD noOv names (opMV_ok whovOk) (conOk_ofR tbl0_ok) (whinsK_run _ L A n c0 i' k h1 h2 h3 ?_ ?_ ?_) w0 e w hk _ (map3 q1 (as_int hi q2) q3)) (fun n' c' L' hq => hK n' c' L' hq.1 hq.2)
      · exact fun L' c' hF => ⟨n + 1, c', L', ⟨rfl, hF⟩, .inl ⟨rfl, rfl⟩⟩
      · exact fun L' c' hF => ⟨n + 1, c', L', ⟨rfl, hF⟩, .inr (.inl ⟨rfl, rfl⟩)⟩
      · exact fun L' c' hF => ⟨n + 1, c', L', ⟨rfl, hF⟩, .inr (.inr ⟨rfl, rfl⟩)⟩
    · cases h
  · cases h
def whpInsV : Pat := fun args σ => match args, σ with
  | [s, i, .inl (.inl (.inr (.inr (.inl ⟨0, 0, 1, none, 1⟩))))], ⟨[some ⟨42, l, none, 1, false⟩], [], 0, [some ⟨42, .o (.rows ks L), [], c0, false⟩], 0⟩ => match rslX s, intX i, whX l, sameK ks whvK with
    | some ⟨0, 1, 0, n, c⟩, some (.i64, i), some e, true => some fun K => ∃ A, (c0 = c ∧ U.Fu L n c A ∧ (0 ≤ i ∧ i ≤ n) ∧ n + 1 ≤ 1000000) ∧ ∀ (n' c' : Nat) (L' : Rws), n' = n + 1 → U.Fu L' n' c' (U.insR A i e.row) → K (cell (rslC ⟨1, 1, 0, n', c'⟩)) ⟨[wheV e], [], 0, [none, some (whvB L' c')], 0⟩
    | _, _, _, _ => none
  | _, _ => none
theorem whpInsV_ok : PatOk 112 whpInsV := by
  intro tm σ C h K hK w0 e w hk vs hvs
  unfold whpInsV at h
  split at h
  · rename_i s i l ks L c0
    split at h
    · rename_i n c i' en hs hi hv hks
      obtain rfl := rslX_eq hs
      obtain rfl := whX_eq hv
      obtain rfl := sameK_eq hks
      simp only [Option.some.injEq] at h; subst h
      obtain ⟨A, ⟨rfl, h1, h2, h3⟩, hK⟩ := hK
      obtain ⟨x, y, z, rfl, q1, q2, q3⟩ := threes hvs
      refine ins_fin (old := some (whvB L c0)) (u := 1) (Q := fun n' c' L' => n' = n + 1 ∧ U.Fu L' n' c' (U.insR A i' en.row)) (knownD noOv names (opMV_ok whovOk) (conOk_ofR tbl0_ok) (whinsV_run _ L A n c0 i' en.v0 h1 h2 h3 ?_ ?_ ?_) w0 e w hk _ (map3 q1 (as_int hi q2) q3)) (fun n' c' L' hq => hK n' c' L' hq.1 hq.2)
      · exact fun L' c' hF => ⟨n + 1, c', L', ⟨rfl, hF⟩, .inl ⟨rfl, rfl⟩⟩
      · exact fun L' c' hF => ⟨n + 1, c', L', ⟨rfl, hF⟩, .inr (.inl ⟨rfl, rfl⟩)⟩
      · exact fun L' c' hF => ⟨n + 1, c', L', ⟨rfl, hF⟩, .inr (.inr ⟨rfl, rfl⟩)⟩
    · cases h
  · cases h
def whpDelK : Pat := fun args σ => match args, σ with
  | [s, i, j], ⟨[], [], 0, [some ⟨9, .o (.rows ks L), [], c0, false⟩], 0⟩ => match rslX s, intX i, intX j, sameK ks [.s] with
    | some ⟨0, 1, 0, n, c⟩, some (.i64, i), some (.i64, j), true => some fun K => ∃ A, (c0 = c ∧ U.Fu L n c A ∧ (0 ≤ i ∧ i < n) ∧ j = i + 1) ∧ ∀ (n' : Nat) (L' : Rws), n' + 1 = n → U.Fu L' n' c (U.erR A i) → K (cell (rslC ⟨1, 1, 0, n', c⟩)) ⟨[], [], 0, [none, some (whkB L' c)], 0⟩
    | _, _, _, _ => none
  | _, _ => none
theorem whpDelK_ok : PatOk 115 whpDelK := by
  intro tm σ C h K hK w0 e w hk vs hvs
  unfold whpDelK at h
  split at h
  · rename_i s i j ks L c0
    split at h
    · rename_i n c i' j' hs hi hj hks
      obtain rfl := rslX_eq hs
      obtain rfl := sameK_eq hks
      simp only [Option.some.injEq] at h; subst h
      obtain ⟨A, ⟨rfl, h1, h2, h3⟩, hK⟩ := hK
      obtain ⟨x, y, z, rfl, q1, q2, q3⟩ := threes hvs
      exact knownD noOv names (opMW_ok whovOk) (conOk_ofR tbl0_ok) (whdelK_run _ L A n c0 i' j' h1 h2 h3 hK) w0 e w hk _ (map3 q1 (as_int hi q2) (as_int hj q3))
    · cases h
  · cases h
def whpDelV : Pat := fun args σ => match args, σ with
  | [s, i, j], ⟨[], [], 0, [some ⟨42, .o (.rows ks L), [], c0, false⟩], 0⟩ => match rslX s, intX i, intX j, sameK ks whvK with
    | some ⟨0, 1, 0, n, c⟩, some (.i64, i), some (.i64, j), true => some fun K => ∃ A, (c0 = c ∧ U.Fu L n c A ∧ (0 ≤ i ∧ i < n) ∧ j = i + 1) ∧ ∀ (n' : Nat) (L' : Rws), n' + 1 = n → U.Fu L' n' c (U.erR A i) → K (cell (rslC ⟨1, 1, 0, n', c⟩)) ⟨[], [], 0, [none, some (whvB L' c)], 0⟩
    | _, _, _, _ => none
  | _, _ => none
theorem whpDelV_ok : PatOk 117 whpDelV := by
  intro tm σ C h K hK w0 e w hk vs hvs
  unfold whpDelV at h
  split at h
  · rename_i s i j ks L c0
    split at h
    · rename_i n c i' j' hs hi hj hks
      obtain rfl := rslX_eq hs
      obtain rfl := sameK_eq hks
      simp only [Option.some.injEq] at h; subst h
      obtain ⟨A, ⟨rfl, h1, h2, h3⟩, hK⟩ := hK
      obtain ⟨x, y, z, rfl, q1, q2, q3⟩ := threes hvs
      exact knownD noOv names (opMW_ok whovOk) (conOk_ofR tbl0_ok) (whdelV_run _ L A n c0 i' j' h1 h2 h3 hK) w0 e w hk _ (map3 q1 (as_int hi q2) (as_int hj q3))
    · cases h
  · cases h
def whtID : Tbl := tblOr (tblIf 109 whpInsK) (tblOr (tblIf 112 whpInsV) (tblOr (tblIf 115 whpDelK) (tblIf 117 whpDelV)))
theorem whtID_ok : TblOk Tryz.prog whtID := tblOr_ok (tblIf_ok whpInsK_ok) (tblOr_ok (tblIf_ok whpInsV_ok) (tblOr_ok (tblIf_ok whpDelK_ok) (tblIf_ok whpDelV_ok)))
end Go.Proofs.YtcjcdimlcfegbaaGreatDoor
end

section
namespace Go.Proofs.YtcjcdimlcfegbaaGreatDoor
open Go Reck Ost
set_option linter.unusedVariables false
set_option maxRecDepth 100000
def whpLess : Pat := fun args σ => match args, σ with
  | [a, b], ⟨[], [], 0, [], 0⟩ => match strX a, strX b with
    | some a, some b => some fun K => (LtS a b → K (lit (.bool true)) emptySt) ∧ (¬ LtS a b → K (lit (.bool false)) emptySt)
    | _, _ => none
  | _, _ => none
def whtLess : Tbl := tblIf 126 whpLess
structure U.whbsR (L : Rws) (n : Nat) (k : List Int) (i j : Int) : Prop where
  out : 0 ≤ i ∧ i ≤ j ∧ j ≤ n ∧ (∀ m : Nat, (m : Int) < i → LtS (U.fs L m 0) k) ∧ (∀ m : Nat, j ≤ (m : Int) → m < n → ¬ LtS (U.fs L m 0) k)
def whbsInv (c : Code) (tm : List AV) (σ : St) : Inv where
  X := Int × Int
  tags := [0]
  tag _ _ := 0
  J := wrBut [7, 8] c
  val _ x := [(7, xi .i64 x.1), (8, xi .i64 x.2)]
  st _ _ σ' := σ'
  I _ x := U.whbsR (rowsAt σ (slotR tm 0).a) (slotR tm 0).n (slotSt tm 1) x.1 x.2
  m _ x := (x.2 - x.1).toNat
  ren := noRen
def whinvBS : InvF := fun c tm σ => match tm.length, firstReg c with
  | 54, some 3 => some (whbsInv c tm σ)
  | _, _ => none
--PLAIN
theorem whless_vc (K : AV → St → Prop) (a b : List Int) : (runR inv0 tbl0 126 [cell (strC a), cell (strC b)] emptySt K) = ((¬a = a → (¬b = b → (LtS a b → K (Sum.inl (Sum.inl (Sum.inl (Value.bool true)))) { heap := [], ints := [], opqs := (0 : Nat), arrs := [], junks := (0 : Nat) }) ∧ (¬LtS a b → K (Sum.inl (Sum.inl (Sum.inl (Value.bool false)))) { heap := [], ints := [], opqs := (0 : Nat), arrs := [], junks := (0 : Nat) })) ∧ (¬¬b = b → K (Sum.inl (Sum.inl (Sum.inl (Value.bool true)))) { heap := [], ints := [], opqs := (0 : Nat), arrs := [], junks := (0 : Nat) })) ∧ (¬¬a = a → (LtS a b → K (Sum.inl (Sum.inl (Sum.inl (Value.bool true)))) { heap := [], ints := [], opqs := (0 : Nat), arrs := [], junks := (0 : Nat) }) ∧ (¬LtS a b → K (Sum.inl (Sum.inl (Sum.inl (Value.bool false)))) { heap := [], ints := [], opqs := (0 : Nat), arrs := [], junks := (0 : Nat) }))) := by kernel_rfl
theorem whbs_vc (K : AV → St → Prop) (L : Rws) (n c : Nat) (k : List Int) : (runR whinvBS whtLess 102 [cell (rslC ⟨0, 1, 0, n, c⟩), cell (strC k)] ⟨[], [], 0, [some (whkB L c)], 0⟩ K) = (∀ (z0 : Int), z0 = (↑n : Int) → (∃ (y1 : Int × Int), ((0 : Nat) = (0 : Nat) ∧ n = n ∧ c = c) ∧ k = k ∧ false = false ∧ z0 = z0 ∧ (0 : Int) = Prod.fst y1 ∧ z0 = Prod.snd y1 ∧ ((0 : Nat) = (0 : Nat) ∧ n = n ∧ c = c) ∧ z0 = z0 ∧ z0 = z0 ∧ (L = L ∧ c = c ∧ false = false) ∧ U.whbsR L n k (Prod.fst y1) (Prod.snd y1)) ∧ ∀ (x2 : Int × Int), U.whbsR L n k (Prod.fst x2) (Prod.snd x2) → (Prod.fst x2 < Prod.snd x2 → ∀ (z3 : Int), z3 = IntKind.wrap IntKind.i64 (Prod.fst x2 + Prod.snd x2) → ∀ (z4 : Int), z4 = IntKind.wrap IntKind.u64 z3 → (0 : Int) ≤ (1 : Int) ∧ ∀ (z5 : Int), z5 = shrI IntKind.u64 z4 (1 : Int) → ∀ (z6 : Int), z6 = IntKind.wrap IntKind.i64 z5 → ((0 : Int) ≤ z6 ∧ z6 < (↑n : Int)) ∧ ∀ (j7 : Nat), (↑j7 : Int) = (↑((0 : Nat)) : Int) + z6 → j7 < List.length L ∧ ∀ (z8 : List Int), z8 = U.fs L j7 ((0 : Nat)) → (LtS z8 k → ∀ (z9 : Int), z9 = IntKind.wrap IntKind.i64 (z6 + (1 : Int)) → ∃ (y10 : Int × Int), ((0 : Nat) = (0 : Nat) ∧ n = n ∧ c = c) ∧ k = k ∧ false = false ∧ z0 = z0 ∧ z9 = Prod.fst y10 ∧ Prod.snd x2 = Prod.snd y10 ∧ ((0 : Nat) = (0 : Nat) ∧ n = n ∧ c = c) ∧ z0 = z0 ∧ z0 = z0 ∧ (L = L ∧ c = c ∧ false = false) ∧ U.whbsR L n k (Prod.fst y10) (Prod.snd y10) ∧ Int.toNat (Prod.snd y10 - Prod.fst y10) < Int.toNat (Prod.snd x2 - Prod.fst x2)) ∧ (¬LtS z8 k → ∃ (y11 : Int × Int), ((0 : Nat) = (0 : Nat) ∧ n = n ∧ c = c) ∧ k = k ∧ false = false ∧ z0 = z0 ∧ Prod.fst x2 = Prod.fst y11 ∧ z6 = Prod.snd y11 ∧ ((0 : Nat) = (0 : Nat) ∧ n = n ∧ c = c) ∧ z0 = z0 ∧ z0 = z0 ∧ (L = L ∧ c = c ∧ false = false) ∧ U.whbsR L n k (Prod.fst y11) (Prod.snd y11) ∧ Int.toNat (Prod.snd y11 - Prod.fst y11) < Int.toNat (Prod.snd x2 - Prod.fst x2))) ∧ (¬Prod.fst x2 < Prod.snd x2 → (Prod.fst x2 < z0 → ((0 : Int) ≤ Prod.fst x2 ∧ Prod.fst x2 < (↑n : Int)) ∧ ∀ (j12 : Nat), (↑j12 : Int) = (↑((0 : Nat)) : Int) + Prod.fst x2 → j12 < List.length L ∧ ∀ (z13 : List Int), z13 = U.fs L j12 ((0 : Nat)) → (z13 = k → K (Sum.inr [Sum.inl (Sum.inr (Sum.inr (Sum.inr (Sum.inr (Sum.inr (Sum.inr (Sum.inl (IntKind.i64, Prod.fst x2)))))))), Sum.inl (Sum.inl (Value.bool true))]) { heap := [], ints := [], opqs := (0 : Nat), arrs := [some { elem := (9 : Nat), k := AK.o (Obj.rows [CK.s] L), l := [], cap := c, ro := false }], junks := (0 : Nat) }) ∧ (¬z13 = k → ((0 : Int) ≤ Prod.fst x2 ∧ Prod.fst x2 < (↑n : Int)) ∧ ∀ (j14 : Nat), (↑j14 : Int) = (↑((0 : Nat)) : Int) + Prod.fst x2 → j14 < List.length L ∧ ∀ (z15 : List Int), z15 = U.fs L j14 ((0 : Nat)) → (¬z15 = z15 → (¬k = k → K (Sum.inr [Sum.inl (Sum.inr (Sum.inr (Sum.inr (Sum.inr (Sum.inr (Sum.inr (Sum.inl (IntKind.i64, Prod.fst x2)))))))), Sum.inl (Sum.inl (Value.bool true))]) { heap := [], ints := [], opqs := (0 : Nat), arrs := [some { elem := (9 : Nat), k := AK.o (Obj.rows [CK.s] L), l := [], cap := c, ro := false }], junks := (0 : Nat) }) ∧ (¬¬k = k → K (Sum.inr [Sum.inl (Sum.inr (Sum.inr (Sum.inr (Sum.inr (Sum.inr (Sum.inr (Sum.inl (IntKind.i64, Prod.fst x2)))))))), Sum.inl (Sum.inl (Value.bool false))]) { heap := [], ints := [], opqs := (0 : Nat), arrs := [some { elem := (9 : Nat), k := AK.o (Obj.rows [CK.s] L), l := [], cap := c, ro := false }], junks := (0 : Nat) })) ∧ (¬¬z15 = z15 → K (Sum.inr [Sum.inl (Sum.inr (Sum.inr (Sum.inr (Sum.inr (Sum.inr (Sum.inr (Sum.inl (IntKind.i64, Prod.fst x2)))))))), Sum.inl (Sum.inl (Value.bool false))]) { heap := [], ints := [], opqs := (0 : Nat), arrs := [some { elem := (9 : Nat), k := AK.o (Obj.rows [CK.s] L), l := [], cap := c, ro := false }], junks := (0 : Nat) }))) ∧ (¬Prod.fst x2 < z0 → K (Sum.inr [Sum.inl (Sum.inr (Sum.inr (Sum.inr (Sum.inr (Sum.inr (Sum.inr (Sum.inl (IntKind.i64, Prod.fst x2)))))))), Sum.inl (Sum.inl (Value.bool false))]) { heap := [], ints := [], opqs := (0 : Nat), arrs := [some { elem := (9 : Nat), k := AK.o (Obj.rows [CK.s] L), l := [], cap := c, ro := false }], junks := (0 : Nat) }))) := by kernel_rfl
end Go.Proofs.YtcjcdimlcfegbaaGreatDoor
end

section
set_option linter.unusedVariables false
set_option linter.unusedSimpArgs false
set_option maxRecDepth 10000
namespace Go.Proofs.YtcjcdimlcfegbaaGreatDoor
open Go Reck Ost
theorem whltL_irr : ∀ a : List Int, ltL a a = false
  | [] => rfl
  | x :: a => by simp [ltL, whltL_irr a]
theorem whltL_tr : ∀ a b c : List Int, ltL a b = true → ltL b c = true → ltL a c = true
  | _, [], _, h, _ => by cases ‹List Int› <;> simp [ltL] at h
  | _, _ :: _, [], _, h => by simp [ltL] at h
  | [], _ :: _, _ :: _, _, _ => rfl
  | x :: a, y :: b, z :: c, h1, h2 => by
    simp only [ltL, Bool.or_eq_true, Bool.and_eq_true, decide_eq_true_eq] at h1 h2 ⊢
    rcases h1 with h1 | ⟨rfl, h1⟩ <;> rcases h2 with h2 | ⟨rfl, h2⟩
    · left; omega
    · left; omega
    · left; omega
    · right; exact ⟨rfl, whltL_tr a b c h1 h2⟩
theorem whltL_tri : ∀ a b : List Int, ltL a b = false → ltL b a = false → a = b
  | [], [], _, _ => rfl
  | [], _ :: _, h, _ => by simp [ltL] at h
  | _ :: _, [], _, h => by simp [ltL] at h
  | x :: a, y :: b, h1, h2 => by
    simp only [ltL, Bool.or_eq_false_iff, Bool.and_eq_false_iff, decide_eq_false_iff_not] at h1 h2
    obtain rfl : x = y := by omega
    rw [whltL_tri a b (by rcases h1.2 with h | h <;> simp_all) (by rcases h2.2 with h | h <;> simp_all)]
theorem whltS_irr {a : List Int} (h : LtS a a) : False := by have := h.out; rw [whltL_irr] at this; cases this
theorem whltS_tr {a b c : List Int} (h : LtS a b) (k : LtS b c) : LtS a c := ⟨whltL_tr _ _ _ h.out k.out⟩
theorem whltS_tri {a b : List Int} (h : ¬ LtS a b) (k : ¬ LtS b a) : a = b := whltL_tri a b (by
  cases hx : ltL a b with
  | false => rfl
  | true => exact (h ⟨hx⟩).elim) (by
  cases hx : ltL b a with
  | false => rfl
  | true => exact (k ⟨hx⟩).elim)
theorem whpLess_ok : PatOk 126 whpLess := by
  intro tm σ C h K hK w0 e w hk vs hvs
  unfold whpLess at h
  split at h
  · split at h
    · rename_i a b ha hb
      simp only [Option.some.injEq] at h; subst h
      obtain ⟨v, u, rfl, hv, hu⟩ := twos hvs
      refine knownC noOv names (conOk_ofR tbl0_ok) (show runR inv0 tbl0 126 [cell (strC a), cell (strC b)] emptySt K from ?_) w0 e w hk [v, u] (map2 (as_str ha hv) (as_str hb hu))
      rw [whless_vc]
      exact ⟨fun h => absurd rfl h, fun _ => hK⟩
    · cases h
  · cases h
/-- Keys that rise. -/
structure U.whSrtR (L : Rws) (n : Nat) : Prop where
  out : ∀ i j : Nat, i < j → j < n → LtS (U.fs L i 0) (U.fs L j 0)
/-- Where a key stands, or would stand. -/
structure U.whAt (L : Rws) (n : Nat) (k : List Int) (z : Int) : Prop where
  b : 0 ≤ z ∧ z ≤ n
  lo : ∀ m : Nat, (m : Int) < z → LtS (U.fs L m 0) k
  hi : ∀ m : Nat, z ≤ (m : Int) → m < n → ¬ LtS (U.fs L m 0) k
structure U.whHasAt (L : Rws) (n : Nat) (k : List Int) (z : Int) : Prop where
  out : z < n ∧ U.fs L z.toNat 0 = k
set_option maxHeartbeats 1000000 in
theorem whbs_run (K : AV → St → Prop) (L : Rws) (n c : Nat) (k : List Int) (hl : n ≤ L.length) (hsm : n ≤ 1000000) (hs : U.whSrtR L n)
    (hK : ∀ z : Int, U.whAt L n k z → (U.whHasAt L n k z → K (zbA z true) ⟨[], [], 0, [some (whkB L c)], 0⟩) ∧ (¬ U.whHasAt L n k z → K (zbA z false) ⟨[], [], 0, [some (whkB L c)], 0⟩)) :
    runR whinvBS whtLess 102 [cell (rslC ⟨0, 1, 0, n, c⟩), cell (strC k)] ⟨[], [], 0, [some (whkB L c)], 0⟩ K := by
  rw [whbs_vc]
  intro z0 h0
  refine ⟨⟨(0, z0), ?_⟩, ?_⟩
  · repeat' (first | exact rfl | with_reducible apply And.intro)
    exact ⟨Int.le_refl _, by dsimp only; omega, by dsimp only; omega, fun m hm => by dsimp only at hm; omega, fun m hm hm2 => by dsimp only at hm; omega⟩
  rintro ⟨i, j⟩ ⟨b1, b2, b3, b4, b5⟩
  dsimp only at b1 b2 b3 b4 b5 ⊢
  refine ⟨fun hij z3 h3 z4 h4 => ⟨by decide, fun z5 h5 z6 h6 => ?_⟩, fun hij => ?_⟩
  · have e3 := iw h3 (by omega)
    have e4 : z4 = i + j := by
      rw [h4, e3]; show IntKind.wrap .u64 _ = _
      rw [IntKind.wrap]; simp [IntKind.signed, IntKind.bits]; omega
    have e5 : z5 = (i + j) / 2 := by
      rw [h5, e4]
      unfold shrI
      rw [show min (1 : Int).toNat (IntKind.bits .u64) = 1 from rfl, Int.fdiv_eq_ediv_of_nonneg _ (by decide)]
      rfl
    clear h3 h4 h5
    replace h6 := iw h6 (by omega)
    refine ⟨by omega, fun j7 h7 => ⟨by omega, fun z8 h8 => ?_⟩⟩
    obtain ⟨p, hp⟩ : ∃ p : Nat, z6 = p := ⟨z6.toNat, by omega⟩
    obtain rfl : j7 = p := by omega
    refine ⟨fun hlt z9 h9 => ⟨(z9, j), ?_⟩, fun hge => ⟨(i, z6), ?_⟩⟩
    · replace h9 := iw h9 (by omega)
      repeat' (first | exact rfl | with_reducible apply And.intro)
      · refine ⟨by dsimp only; omega, by dsimp only; omega, b3, fun m hm => ?_, b5⟩
        dsimp only at hm
        rw [h8] at hlt
        by_cases hmp : m = j7
        · rw [hmp]; exact hlt
        · exact whltS_tr (hs.out m j7 (by omega) (by omega)) hlt
      · dsimp only; omega
    · repeat' (first | exact rfl | with_reducible apply And.intro)
      · refine ⟨b1, by dsimp only; omega, by dsimp only; omega, b4, fun m hm hm2 => ?_⟩
        dsimp only at hm
        rw [h8] at hge
        by_cases hmp : m = j7
        · rw [hmp]; exact hge
        · exact fun hx => hge (whltS_tr (hs.out j7 m (by omega) hm2) hx)
      · dsimp only; omega
  · obtain rfl : i = j := by omega
    obtain ⟨p, rfl⟩ : ∃ p : Nat, i = p := ⟨i.toNat, by omega⟩
    have hK := hK p ⟨⟨b1, b3⟩, b4, b5⟩
    refine ⟨fun hlt => ⟨by omega, fun j12 h12 => ⟨by omega, fun z13 h13 => ?_⟩⟩, fun hge => hK.2 (fun hx => by have := hx.out.1; omega)⟩
    obtain rfl : j12 = p := by omega
    refine ⟨fun heq => hK.1 ⟨by omega, by rw [Int.toNat_natCast, ← h13]; exact heq⟩, fun hne => ?_⟩
    have hno : ¬ U.whHasAt L n k j12 := fun hx => hne (by have := hx.out.2; rw [Int.toNat_natCast] at this; rw [h13]; exact this)
    repeat' (first | with_reducible apply And.intro | intro _)
    all_goals (first | exact hK.2 hno | omega | (exfalso; rename_i hx; exact hx rfl) | (exfalso; rename_i hx _; exact hx rfl))
end Go.Proofs.YtcjcdimlcfegbaaGreatDoor
end

section
namespace Go.Proofs.YtcjcdimlcfegbaaGreatDoor
open Go Reck Ost
set_option linter.unusedVariables false
set_option maxRecDepth 100000
def whpBS : Pat := fun args σ => match args, σ with
  | [s, k], ⟨[], [], 0, [some ⟨9, .o (.rows [.s] L), [], c0, false⟩], 0⟩ => match rslX s, strX k with
    | some ⟨0, 1, 0, n, c⟩, some k => some fun K => (c0 = c ∧ n ≤ L.length ∧ n ≤ 1000000 ∧ U.whSrtR L n) ∧ ∀ z : Int, U.whAt L n k z → (U.whHasAt L n k z → K (zbA z true) ⟨[], [], 0, [some (whkB L c)], 0⟩) ∧ (¬ U.whHasAt L n k z → K (zbA z false) ⟨[], [], 0, [some (whkB L c)], 0⟩)
    | _, _ => none
  | _, _ => none
theorem whpBS_ok : PatOk 102 whpBS := by
  intro tm σ C h K hK w0 e w hk vs hvs
  unfold whpBS at h
  split at h
  · split at h
    · rename_i n c k hs hk'
      obtain rfl := rslX_eq hs
      simp only [Option.some.injEq] at h; subst h
      obtain ⟨⟨rfl, h1, h2, h3⟩, h4⟩ := hK
      obtain ⟨v, u, rfl, hv, hu⟩ := twos hvs
      exact knownC noOv names (conOk_ofR (tblIf_ok whpLess_ok)) (whbs_run K _ _ _ k h1 h2 h3 h4) w0 e w hk _ (map2 hv (as_str hk' hu))
    · cases h
  · cases h
def whtSh : Tbl := tblOr whtID (tblIf 102 whpBS)
theorem whtSh_ok : TblOk Tryz.prog whtSh := tblOr_ok whtID_ok (tblIf_ok whpBS_ok)
def whB (a b : Cell) (m : Int) : Option Blk := some ⟨133, [a, b, xintC .i64 m], none, 3, false⟩
def whSt (n c : Nat) (L : Rws) (d : Nat) (M : Rws) (m : Int) : St := ⟨[whB (rslC ⟨0, 1, 0, n, c⟩) (rslC ⟨1, 1, 0, n, d⟩) m], [], 0, [some (whkB L c), some (whvB M d)], 0⟩
--PLAIN
theorem whNew_vc (K : AV → St → Prop) (m : Int) : (runV whov inv0 tbl0 40 [xi .i64 m] emptySt K) = (K (Sum.inl (Sum.inl (Sum.inr (Sum.inl ((0 : Nat), (0 : Nat)))))) { heap := [some { elem := nat_lit 133, cells := [Sum.inl (Value.slice none (0 : Nat) (0 : Nat)), Sum.inl (Value.slice none (0 : Nat) (0 : Nat)), Sum.inr (Sum.inr (Sum.inr (Sum.inr (Sum.inr (Sum.inr (Sum.inl (IntKind.i64, m)))))))], j := none, c := (0 : Nat) + (1 : Nat) + (1 : Nat) + (1 : Nat), z := false }], ints := [], opqs := (0 : Nat), arrs := [], junks := (0 : Nat) }) := by kernel_rfl
theorem whSet_vc (K : AV → St → Prop) (L M : Rws) (n c d : Nat) (m : Int) (k : List Int) (v0 : Int) : (runV whov inv0 whtSh 78 [ptr 0 0, cell (strC k), xi .u64 v0] (whSt n c L d M m) K) = ((c = c ∧ n ≤ List.length L ∧ n ≤ (1000000 : Nat) ∧ U.whSrtR L n) ∧ ∀ (z0 : Int), U.whAt L n k z0 → (U.whHasAt L n k z0 → ((0 : Int) ≤ z0 ∧ z0 < (↑n : Int)) ∧ ∀ (j1 : Nat), (↑j1 : Int) = (↑((0 : Nat)) : Int) + z0 → j1 < List.length M ∧ ∀ (L'2 : List (List CV)), L'2 = U.put M j1 ((0 : Nat)) [CV.i v0] → K (Sum.inl (Sum.inl (Sum.inr (Sum.inr (Sum.inr (Sum.inr (Sum.inr (Sum.inr (Sum.inl (IntKind.i64, (0 : Int))))))))))) { heap := [some { elem := nat_lit 133, cells := [Sum.inr (Sum.inr (Sum.inr (Sum.inr (Sum.inr (Sum.inr (Sum.inr (Sum.inr (Sum.inr (Sum.inr (Sum.inr (Sum.inl { a := (0 : Nat), u := (1 : Nat), o := (0 : Nat), n := n, c := c }))))))))))), Sum.inr (Sum.inr (Sum.inr (Sum.inr (Sum.inr (Sum.inr (Sum.inr (Sum.inr (Sum.inr (Sum.inr (Sum.inr (Sum.inl { a := (1 : Nat), u := (1 : Nat), o := (0 : Nat), n := n, c := d }))))))))))), Sum.inr (Sum.inr (Sum.inr (Sum.inr (Sum.inr (Sum.inr (Sum.inl (IntKind.i64, m)))))))], j := none, c := (3 : Nat), z := false }], ints := [], opqs := (0 : Nat), arrs := [some { elem := (9 : Nat), k := AK.o (Obj.rows [CK.s] L), l := [], cap := c, ro := false }, some { elem := nat_lit 42, k := AK.o (Obj.rows [CK.n IntKind.u64] L'2), l := [], cap := d, ro := false }], junks := (0 : Nat) }) ∧ (¬U.whHasAt L n k z0 → ∀ (z3 : Int), z3 = (↑n : Int) → (m ≤ z3 → K (Sum.inl (Sum.inl (Sum.inr (Sum.inr (Sum.inr (Sum.inr (Sum.inr (Sum.inr (Sum.inl (IntKind.i64, (4 : Int))))))))))) { heap := [some { elem := nat_lit 133, cells := [Sum.inr (Sum.inr (Sum.inr (Sum.inr (Sum.inr (Sum.inr (Sum.inr (Sum.inr (Sum.inr (Sum.inr (Sum.inr (Sum.inl { a := (0 : Nat), u := (1 : Nat), o := (0 : Nat), n := n, c := c }))))))))))), Sum.inr (Sum.inr (Sum.inr (Sum.inr (Sum.inr (Sum.inr (Sum.inr (Sum.inr (Sum.inr (Sum.inr (Sum.inr (Sum.inl { a := (1 : Nat), u := (1 : Nat), o := (0 : Nat), n := n, c := d }))))))))))), Sum.inr (Sum.inr (Sum.inr (Sum.inr (Sum.inr (Sum.inr (Sum.inl (IntKind.i64, m)))))))], j := none, c := (3 : Nat), z := false }], ints := [], opqs := (0 : Nat), arrs := [some { elem := (9 : Nat), k := AK.o (Obj.rows [CK.s] L), l := [], cap := c, ro := false }, some { elem := (42 : Nat), k := AK.o (Obj.rows [CK.n IntKind.u64] M), l := [], cap := d, ro := false }], junks := (0 : Nat) }) ∧ (¬m ≤ z3 → ∃ (y4 : Rws), (c = c ∧ U.Fu L n c y4 ∧ ((0 : Int) ≤ z0 ∧ z0 ≤ (↑n : Int)) ∧ n + (1 : Nat) ≤ (1000000 : Nat)) ∧ ∀ (n'5 c'6 : Nat) (L'7 : Rws), n'5 = n + (1 : Nat) → U.Fu L'7 n'5 c'6 (U.insR y4 z0 [CV.s k]) → ∃ (y8 : Rws), (d = d ∧ U.Fu M n d y8 ∧ ((0 : Int) ≤ z0 ∧ z0 ≤ (↑n : Int)) ∧ n + (1 : Nat) ≤ (1000000 : Nat)) ∧ ∀ (n'9 c'10 : Nat) (L'11 : Rws), n'9 = n + (1 : Nat) → U.Fu L'11 n'9 c'10 (U.insR y8 z0 [CV.i v0]) → K (Sum.inl (Sum.inl (Sum.inr (Sum.inr (Sum.inr (Sum.inr (Sum.inr (Sum.inr (Sum.inl (IntKind.i64, (0 : Int))))))))))) { heap := [some { elem := nat_lit 133, cells := [Sum.inr (Sum.inr (Sum.inr (Sum.inr (Sum.inr (Sum.inr (Sum.inr (Sum.inr (Sum.inr (Sum.inr (Sum.inr (Sum.inl { a := (2 : Nat), u := (1 : Nat), o := (0 : Nat), n := n'5, c := c'6 }))))))))))), Sum.inr (Sum.inr (Sum.inr (Sum.inr (Sum.inr (Sum.inr (Sum.inr (Sum.inr (Sum.inr (Sum.inr (Sum.inr (Sum.inl { a := (3 : Nat), u := (1 : Nat), o := (0 : Nat), n := n'9, c := c'10 }))))))))))), Sum.inr (Sum.inr (Sum.inr (Sum.inr (Sum.inr (Sum.inr (Sum.inl (IntKind.i64, m)))))))], j := none, c := (3 : Nat), z := false }], ints := [], opqs := (0 : Nat), arrs := [none, none, some { elem := (9 : Nat), k := AK.o (Obj.rows [CK.s] L'7), l := [], cap := c'6, ro := false }, some { elem := (42 : TypeId), k := AK.o (Obj.rows [CK.n IntKind.u64] L'11), l := [], cap := c'10, ro := false }], junks := (0 : Nat) }))) := by kernel_rfl
theorem whGet_vc (K : AV → St → Prop) (L M : Rws) (n c d : Nat) (m : Int) (k : List Int) : (runV whov inv0 whtSh 56 [ptr 0 0, cell (strC k)] (whSt n c L d M m) K) = ((c = c ∧ n ≤ List.length L ∧ n ≤ (1000000 : Nat) ∧ U.whSrtR L n) ∧ ∀ (z0 : Int), U.whAt L n k z0 → (U.whHasAt L n k z0 → ((0 : Int) ≤ z0 ∧ z0 < (↑n : Int)) ∧ ∀ (j1 : Nat), (↑j1 : Int) = (↑((0 : Nat)) : Int) + z0 → j1 < List.length M ∧ ∀ (z2 : Int), z2 = U.fi M j1 ((0 : Nat)) → K (Sum.inr [Sum.inl (Sum.inr (Sum.inr (Sum.inr (Sum.inr (Sum.inr (Sum.inr (Sum.inl (IntKind.u64, z2)))))))), Sum.inl (Sum.inl (Value.bool true))]) { heap := [some { elem := nat_lit 133, cells := [Sum.inr (Sum.inr (Sum.inr (Sum.inr (Sum.inr (Sum.inr (Sum.inr (Sum.inr (Sum.inr (Sum.inr (Sum.inr (Sum.inl { a := (0 : Nat), u := (1 : Nat), o := (0 : Nat), n := n, c := c }))))))))))), Sum.inr (Sum.inr (Sum.inr (Sum.inr (Sum.inr (Sum.inr (Sum.inr (Sum.inr (Sum.inr (Sum.inr (Sum.inr (Sum.inl { a := (1 : Nat), u := (1 : Nat), o := (0 : Nat), n := n, c := d }))))))))))), Sum.inr (Sum.inr (Sum.inr (Sum.inr (Sum.inr (Sum.inr (Sum.inl (IntKind.i64, m)))))))], j := none, c := (3 : Nat), z := false }], ints := [], opqs := (0 : Nat), arrs := [some { elem := (9 : TypeId), k := AK.o (Obj.rows [CK.s] L), l := [], cap := c, ro := false }, some { elem := (42 : TypeId), k := AK.o (Obj.rows [CK.n IntKind.u64] M), l := [], cap := d, ro := false }], junks := (0 : Nat) }) ∧ (¬U.whHasAt L n k z0 → K (Sum.inr [Sum.inl (Sum.inr (Sum.inr (Sum.inr (Sum.inr (Sum.inr (Sum.inr (Sum.inl (IntKind.u64, (0 : Int))))))))), Sum.inl (Sum.inl (Value.bool false))]) { heap := [some { elem := nat_lit 133, cells := [Sum.inr (Sum.inr (Sum.inr (Sum.inr (Sum.inr (Sum.inr (Sum.inr (Sum.inr (Sum.inr (Sum.inr (Sum.inr (Sum.inl { a := (0 : Nat), u := (1 : Nat), o := (0 : Nat), n := n, c := c }))))))))))), Sum.inr (Sum.inr (Sum.inr (Sum.inr (Sum.inr (Sum.inr (Sum.inr (Sum.inr (Sum.inr (Sum.inr (Sum.inr (Sum.inl { a := (1 : Nat), u := (1 : Nat), o := (0 : Nat), n := n, c := d }))))))))))), Sum.inr (Sum.inr (Sum.inr (Sum.inr (Sum.inr (Sum.inr (Sum.inl (IntKind.i64, m)))))))], j := none, c := (3 : Nat), z := false }], ints := [], opqs := (0 : Nat), arrs := [some { elem := (9 : TypeId), k := AK.o (Obj.rows [CK.s] L), l := [], cap := c, ro := false }, some { elem := (42 : TypeId), k := AK.o (Obj.rows [CK.n IntKind.u64] M), l := [], cap := d, ro := false }], junks := (0 : Nat) })) := by kernel_rfl
theorem whDel_vc (K : AV → St → Prop) (L M : Rws) (n c d : Nat) (m : Int) (k : List Int) : (runV whov inv0 whtSh 82 [ptr 0 0, sl ⟨1, 0, 1, none, 1⟩] ⟨[whB (rslC ⟨0, 1, 0, n, c⟩) (rslC ⟨1, 1, 0, n, d⟩) m, whsV k], [], 0, [some (whkB L c), some (whvB M d)], 0⟩ K) = ((c = c ∧ n ≤ List.length L ∧ n ≤ (1000000 : Nat) ∧ U.whSrtR L n) ∧ ∀ (z0 : Int), U.whAt L n k z0 → (U.whHasAt L n k z0 → ∀ (z1 : Int), z1 = IntKind.wrap IntKind.i64 (z0 + (1 : Int)) → ∃ (y2 : Rws), (c = c ∧ U.Fu L n c y2 ∧ ((0 : Int) ≤ z0 ∧ z0 < (↑n : Int)) ∧ z1 = z0 + (1 : Int)) ∧ ∀ (n'3 : Nat) (L'4 : Rws), n'3 + (1 : Nat) = n → U.Fu L'4 n'3 c (U.erR y2 z0) → ∀ (z5 : Int), z5 = IntKind.wrap IntKind.i64 (z0 + (1 : Int)) → ∃ (y6 : Rws), (d = d ∧ U.Fu M n d y6 ∧ ((0 : Int) ≤ z0 ∧ z0 < (↑n : Int)) ∧ z5 = z0 + (1 : Int)) ∧ ∀ (n'7 : Nat) (L'8 : Rws), n'7 + (1 : Nat) = n → U.Fu L'8 n'7 d (U.erR y6 z0) → K (Sum.inl (Sum.inl (Sum.inr (Sum.inr (Sum.inr (Sum.inr (Sum.inr (Sum.inr (Sum.inl (IntKind.i64, (1 : Int))))))))))) { heap := [some { elem := nat_lit 133, cells := [Sum.inr (Sum.inr (Sum.inr (Sum.inr (Sum.inr (Sum.inr (Sum.inr (Sum.inr (Sum.inr (Sum.inr (Sum.inr (Sum.inl { a := (2 : Nat), u := (1 : Nat), o := (0 : Nat), n := n'3, c := c }))))))))))), Sum.inr (Sum.inr (Sum.inr (Sum.inr (Sum.inr (Sum.inr (Sum.inr (Sum.inr (Sum.inr (Sum.inr (Sum.inr (Sum.inl { a := (3 : Nat), u := (1 : Nat), o := (0 : Nat), n := n'7, c := d }))))))))))), Sum.inr (Sum.inr (Sum.inr (Sum.inr (Sum.inr (Sum.inr (Sum.inl (IntKind.i64, m)))))))], j := none, c := (3 : Nat), z := false }, some { elem := nat_lit 9, cells := [Sum.inr (Sum.inr (Sum.inr (Sum.inr (Sum.inr (Sum.inr (Sum.inr (Sum.inr (Sum.inr (Sum.inr (Sum.inl k))))))))))], j := none, c := (1 : Nat), z := false }], ints := [], opqs := (0 : Nat), arrs := [none, none, some { elem := (9 : TypeId), k := AK.o (Obj.rows [CK.s] L'4), l := [], cap := c, ro := false }, some { elem := (42 : TypeId), k := AK.o (Obj.rows [CK.n IntKind.u64] L'8), l := [], cap := d, ro := false }], junks := (0 : Nat) }) ∧ (¬U.whHasAt L n k z0 → K (Sum.inl (Sum.inl (Sum.inr (Sum.inr (Sum.inr (Sum.inr (Sum.inr (Sum.inr (Sum.inl (IntKind.i64, (0 : Int))))))))))) { heap := [some { elem := nat_lit 133, cells := [Sum.inr (Sum.inr (Sum.inr (Sum.inr (Sum.inr (Sum.inr (Sum.inr (Sum.inr (Sum.inr (Sum.inr (Sum.inr (Sum.inl { a := (0 : Nat), u := (1 : Nat), o := (0 : Nat), n := n, c := c }))))))))))), Sum.inr (Sum.inr (Sum.inr (Sum.inr (Sum.inr (Sum.inr (Sum.inr (Sum.inr (Sum.inr (Sum.inr (Sum.inr (Sum.inl { a := (1 : Nat), u := (1 : Nat), o := (0 : Nat), n := n, c := d }))))))))))), Sum.inr (Sum.inr (Sum.inr (Sum.inr (Sum.inr (Sum.inr (Sum.inl (IntKind.i64, m)))))))], j := none, c := (3 : Nat), z := false }, some { elem := nat_lit 9, cells := [Sum.inr (Sum.inr (Sum.inr (Sum.inr (Sum.inr (Sum.inr (Sum.inr (Sum.inr (Sum.inr (Sum.inr (Sum.inl k))))))))))], j := none, c := (1 : Nat), z := false }], ints := [], opqs := (0 : Nat), arrs := [some { elem := (9 : TypeId), k := AK.o (Obj.rows [CK.s] L), l := [], cap := c, ro := false }, some { elem := (42 : TypeId), k := AK.o (Obj.rows [CK.n IntKind.u64] M), l := [], cap := d, ro := false }], junks := (0 : Nat) })) := by kernel_rfl
theorem whVals_vc (K : AV → St → Prop) (L M : Rws) (n c d : Nat) (m : Int) : (runQ inv0 tbl0 54 [ptr 0 0] (whSt n c L d M m) K) = ((n = (0 : Nat) → K (Sum.inl (Sum.inl (Sum.inr (Sum.inr (Sum.inr (Sum.inr (Sum.inr (Sum.inr (Sum.inr (Sum.inr (Sum.inr (Sum.inr (Sum.inr (Sum.inl { a := (2 : Nat), u := (0 : Nat) + (1 : Nat), o := (0 : Nat), n := (0 : Nat), c := (0 : Nat) })))))))))))))) { heap := [some { elem := nat_lit 133, cells := [Sum.inr (Sum.inr (Sum.inr (Sum.inr (Sum.inr (Sum.inr (Sum.inr (Sum.inr (Sum.inr (Sum.inr (Sum.inr (Sum.inl { a := (0 : Nat), u := (1 : Nat), o := (0 : Nat), n := n, c := c }))))))))))), Sum.inr (Sum.inr (Sum.inr (Sum.inr (Sum.inr (Sum.inr (Sum.inr (Sum.inr (Sum.inr (Sum.inr (Sum.inr (Sum.inl { a := (1 : Nat), u := (1 : Nat), o := (0 : Nat), n := n, c := d }))))))))))), Sum.inr (Sum.inr (Sum.inr (Sum.inr (Sum.inr (Sum.inr (Sum.inl (IntKind.i64, m)))))))], j := none, c := (3 : Nat), z := false }], ints := [], opqs := (0 : Nat), arrs := [some { elem := (9 : TypeId), k := AK.o (Obj.rows [CK.s] L), l := [], cap := c, ro := false }, some { elem := (42 : TypeId), k := AK.o (Obj.rows [CK.n IntKind.u64] M), l := [], cap := d, ro := false }, some { elem := (42 : Nat), k := AK.o (Obj.rows [CK.n IntKind.u64] U.nilL), l := [], cap := (0 : Nat), ro := false }], junks := (0 : Nat) }) ∧ True ∧ Nat.le ((0 : Nat) + n) (List.length M) ∧ (0 : Nat) ≤ (16777216 : Nat) ∧ n ≤ (16777216 : Nat) ∧ ∀ (L'0 : List (List CV)) (n'1 c'2 : Nat), L'0 = U.nilL ++ List.take n (List.drop ((0 : Nat)) M) → n'1 = (0 : Nat) + n → n'1 ≤ c'2 → K (Sum.inl (Sum.inl (Sum.inr (Sum.inr (Sum.inr (Sum.inr (Sum.inr (Sum.inr (Sum.inr (Sum.inr (Sum.inr (Sum.inr (Sum.inr (Sum.inl { a := (2 : Nat), u := (0 : Nat) + (1 : Nat), o := (0 : Nat), n := n'1, c := c'2 })))))))))))))) { heap := [some { elem := nat_lit 133, cells := [Sum.inr (Sum.inr (Sum.inr (Sum.inr (Sum.inr (Sum.inr (Sum.inr (Sum.inr (Sum.inr (Sum.inr (Sum.inr (Sum.inl { a := (0 : Nat), u := (1 : Nat), o := (0 : Nat), n := n, c := c }))))))))))), Sum.inr (Sum.inr (Sum.inr (Sum.inr (Sum.inr (Sum.inr (Sum.inr (Sum.inr (Sum.inr (Sum.inr (Sum.inr (Sum.inl { a := (1 : Nat), u := (1 : Nat), o := (0 : Nat), n := n, c := d }))))))))))), Sum.inr (Sum.inr (Sum.inr (Sum.inr (Sum.inr (Sum.inr (Sum.inl (IntKind.i64, m)))))))], j := none, c := (3 : Nat), z := false }], ints := [], opqs := (0 : Nat), arrs := [some { elem := (9 : TypeId), k := AK.o (Obj.rows [CK.s] L), l := [], cap := c, ro := false }, some { elem := (42 : TypeId), k := AK.o (Obj.rows [CK.n IntKind.u64] M), l := [], cap := d, ro := false }, some { elem := (42 : Nat), k := AK.o (Obj.rows [CK.n IntKind.u64] L'0), l := [], cap := c'2, ro := false }], junks := (0 : Nat) }) := by kernel_rfl
theorem whKeys_vc (K : AV → St → Prop) (L M : Rws) (n c d : Nat) (m : Int) : (runQ inv0 tbl0 58 [ptr 0 0] (whSt n c L d M m) K) = ((n = (0 : Nat) → K (Sum.inl (Sum.inl (Sum.inr (Sum.inr (Sum.inr (Sum.inr (Sum.inr (Sum.inr (Sum.inr (Sum.inr (Sum.inr (Sum.inr (Sum.inr (Sum.inl { a := (2 : Nat), u := (0 : Nat) + (1 : Nat), o := (0 : Nat), n := (0 : Nat), c := (0 : Nat) })))))))))))))) { heap := [some { elem := nat_lit 133, cells := [Sum.inr (Sum.inr (Sum.inr (Sum.inr (Sum.inr (Sum.inr (Sum.inr (Sum.inr (Sum.inr (Sum.inr (Sum.inr (Sum.inl { a := (0 : Nat), u := (1 : Nat), o := (0 : Nat), n := n, c := c }))))))))))), Sum.inr (Sum.inr (Sum.inr (Sum.inr (Sum.inr (Sum.inr (Sum.inr (Sum.inr (Sum.inr (Sum.inr (Sum.inr (Sum.inl { a := (1 : Nat), u := (1 : Nat), o := (0 : Nat), n := n, c := d }))))))))))), Sum.inr (Sum.inr (Sum.inr (Sum.inr (Sum.inr (Sum.inr (Sum.inl (IntKind.i64, m)))))))], j := none, c := (3 : Nat), z := false }], ints := [], opqs := (0 : Nat), arrs := [some { elem := (9 : TypeId), k := AK.o (Obj.rows [CK.s] L), l := [], cap := c, ro := false }, some { elem := (42 : TypeId), k := AK.o (Obj.rows [CK.n IntKind.u64] M), l := [], cap := d, ro := false }, some { elem := (9 : Nat), k := AK.o (Obj.rows [CK.s] U.nilL), l := [], cap := (0 : Nat), ro := false }], junks := (0 : Nat) }) ∧ True ∧ Nat.le ((0 : Nat) + n) (List.length L) ∧ (0 : Nat) ≤ (16777216 : Nat) ∧ n ≤ (16777216 : Nat) ∧ ∀ (L'0 : List (List CV)) (n'1 c'2 : Nat), L'0 = U.nilL ++ List.take n (List.drop ((0 : Nat)) L) → n'1 = (0 : Nat) + n → n'1 ≤ c'2 → K (Sum.inl (Sum.inl (Sum.inr (Sum.inr (Sum.inr (Sum.inr (Sum.inr (Sum.inr (Sum.inr (Sum.inr (Sum.inr (Sum.inr (Sum.inr (Sum.inl { a := (2 : Nat), u := (0 : Nat) + (1 : Nat), o := (0 : Nat), n := n'1, c := c'2 })))))))))))))) { heap := [some { elem := nat_lit 133, cells := [Sum.inr (Sum.inr (Sum.inr (Sum.inr (Sum.inr (Sum.inr (Sum.inr (Sum.inr (Sum.inr (Sum.inr (Sum.inr (Sum.inl { a := (0 : Nat), u := (1 : Nat), o := (0 : Nat), n := n, c := c }))))))))))), Sum.inr (Sum.inr (Sum.inr (Sum.inr (Sum.inr (Sum.inr (Sum.inr (Sum.inr (Sum.inr (Sum.inr (Sum.inr (Sum.inl { a := (1 : Nat), u := (1 : Nat), o := (0 : Nat), n := n, c := d }))))))))))), Sum.inr (Sum.inr (Sum.inr (Sum.inr (Sum.inr (Sum.inr (Sum.inl (IntKind.i64, m)))))))], j := none, c := (3 : Nat), z := false }], ints := [], opqs := (0 : Nat), arrs := [some { elem := (9 : TypeId), k := AK.o (Obj.rows [CK.s] L), l := [], cap := c, ro := false }, some { elem := (42 : TypeId), k := AK.o (Obj.rows [CK.n IntKind.u64] M), l := [], cap := d, ro := false }, some { elem := (9 : Nat), k := AK.o (Obj.rows [CK.s] L'0), l := [], cap := c'2, ro := false }], junks := (0 : Nat) }) := by kernel_rfl
end Go.Proofs.YtcjcdimlcfegbaaGreatDoor
end

section
set_option linter.unusedVariables false
set_option linter.unusedSimpArgs false
set_option maxRecDepth 10000
namespace Go.Proofs.YtcjcdimlcfegbaaGreatDoor
open Go Reck Ost
abbrev WHP := List (List Int × WHv)
def U.whks (P : WHP) : Rws := P.map fun p => [.s p.1]
def U.whvs (P : WHP) : Rws := P.map fun p => p.2.row
structure U.whSrt (P : WHP) : Prop where
  out : P.Pairwise fun a b => LtS a.1 b.1
structure U.whHasK (P : WHP) (k : List Int) : Prop where
  out : ∃ e, (k, e) ∈ P
/-- P' is P with an entry put in. -/
structure U.whPut (P : WHP) (k : List Int) (e : WHv) (P' : WHP) : Prop where
  srt : U.whSrt P'
  mem : ∀ x y, (x, y) ∈ P' ↔ (x = k ∧ y = e) ∨ ((x, y) ∈ P ∧ x ≠ k)
  has : U.whHasK P k → P'.length = P.length
  non : ¬ U.whHasK P k → P'.length = P.length + 1
/-- What a shelf has. -/
structure U.whshI (n c : Nat) (L : Rws) (d : Nat) (M : Rws) (P : WHP) : Prop where
  kf : U.Fu L n c (U.whks P)
  vf : U.Fu M n d (U.whvs P)
  srt : U.whSrt P
theorem whshI_n {n c d : Nat} {L M : Rws} {P : WHP} (h : U.whshI n c L d M P) : P.length = n := by
  have := h.kf.n; simpa [U.whks] using this
theorem whkey_at {n c d : Nat} {L M : Rws} {P : WHP} (h : U.whshI n c L d M P) {m : Nat} {p : List Int × WHv} (hp : P[m]? = some p) : U.fs L m 0 = p.1 := by
  have hm : m < n := by rw [← whshI_n h]; exact (List.getElem?_eq_some_iff.1 hp).1
  have := fuGet h.kf hm
  unfold U.fs
  rw [List.getD_eq_getElem?_getD, this]
  simp [U.whks, hp]
theorem whrow_at {n c d : Nat} {L M : Rws} {P : WHP} (h : U.whshI n c L d M P) {m : Nat} {p : List Int × WHv} (hp : P[m]? = some p) : M.getD m [] = p.2.row := by
  have hm : m < n := by rw [← whshI_n h]; exact (List.getElem?_eq_some_iff.1 hp).1
  have := fuGet h.vf hm
  rw [List.getD_eq_getElem?_getD, this]
  simp [U.whvs, hp]
theorem whsrt_R {n c d : Nat} {L M : Rws} {P : WHP} (h : U.whshI n c L d M P) : U.whSrtR L n := by
  refine ⟨fun i j hij hj => ?_⟩
  have hn := whshI_n h
  rw [whkey_at h (List.getElem?_eq_getElem (show i < P.length by omega)), whkey_at h (List.getElem?_eq_getElem (show j < P.length by omega))]
  exact List.pairwise_iff_getElem.1 h.srt.out i j (by omega) (by omega) hij
theorem what_lo {n c d : Nat} {L M : Rws} {P : WHP} (h : U.whshI n c L d M P) {k : List Int} {z : Nat} (ha : U.whAt L n k z) {p : List Int × WHv} (hp : p ∈ P.take z) : LtS p.1 k := by
  obtain ⟨m, hm⟩ := List.getElem?_of_mem hp
  rw [List.getElem?_take] at hm
  split at hm
  · rename_i hlt
    have := ha.lo m (by omega)
    rwa [whkey_at h hm] at this
  · cases hm
theorem what_hi {n c d : Nat} {L M : Rws} {P : WHP} (h : U.whshI n c L d M P) {k : List Int} {z : Nat} (ha : U.whAt L n k z) {p : List Int × WHv} (hp : p ∈ P.drop z) : ¬ LtS p.1 k := by
  obtain ⟨m, hm⟩ := List.getElem?_of_mem hp
  rw [List.getElem?_drop] at hm
  have hl := (List.getElem?_eq_some_iff.1 hm).1
  have := ha.hi (z + m) (by omega) (by rw [← whshI_n h]; exact hl)
  rwa [whkey_at h hm] at this
theorem whhas_iff {n c d : Nat} {L M : Rws} {P : WHP} (h : U.whshI n c L d M P) {k : List Int} {z : Nat} (ha : U.whAt L n k z) : U.whHasAt L n k z ↔ U.whHasK P k := by
  have hn := whshI_n h
  constructor
  · rintro ⟨h1, h2⟩
    have hz : z < P.length := by omega
    refine ⟨P[z].2, ?_⟩
    rw [Int.toNat_natCast, whkey_at h (List.getElem?_eq_getElem hz)] at h2
    rw [← h2]; exact List.getElem_mem hz
  · rintro ⟨e, he⟩
    obtain ⟨m, hm⟩ := List.getElem?_of_mem he
    have hl := (List.getElem?_eq_some_iff.1 hm).1
    have hk := whkey_at h hm
    have h1 : ¬ (m < z) := fun hlt => by
      have := ha.lo m (by omega)
      rw [hk] at this; exact whltS_irr this
    have h2 : ¬ (z < m) := fun hlt => by
      have a := ha.hi z (by omega) (by omega)
      have b := (whsrt_R h).out z m hlt (by omega)
      rw [hk] at b; exact a b
    obtain rfl : m = z := by omega
    exact ⟨by omega, by rw [Int.toNat_natCast]; exact hk⟩
theorem whput_non {n c d : Nat} {L M : Rws} {P : WHP} (h : U.whshI n c L d M P) {k : List Int} {z : Nat} (ha : U.whAt L n k z) (hk : ¬ U.whHasK P k) (e : WHv) :
    U.whPut P k e (P.take z ++ [(k, e)] ++ P.drop z) ∧ U.whks (P.take z ++ [(k, e)] ++ P.drop z) = U.insR (U.whks P) z [.s k] ∧ U.whvs (P.take z ++ [(k, e)] ++ P.drop z) = U.insR (U.whvs P) z e.row := by
  have hne : ∀ p ∈ P, p.1 ≠ k := fun p hp he => hk ⟨p.2, he ▸ hp⟩
  have hgt : ∀ p ∈ P.drop z, LtS k p.1 := fun p hp => by
    by_cases hx : LtS k p.1
    · exact hx
    · exact (hne p (List.mem_of_mem_drop hp) (whltS_tri (what_hi h ha hp) hx)).elim
  have hs := h.srt.out
  refine ⟨⟨⟨?_⟩, fun x y => ?_, fun hx => (hk hx).elim, fun _ => ?_⟩, ?_, ?_⟩
  · rw [← List.take_append_drop z P, List.pairwise_append] at hs
    rw [List.append_assoc, List.pairwise_append]
    refine ⟨hs.1, ?_, ?_⟩
    · rw [List.singleton_append, List.pairwise_cons]
      exact ⟨hgt, hs.2.1⟩
    · intro a ha' b hb
      rcases List.mem_cons.1 hb with rfl | hb
      · exact what_lo h ha ha'
      · exact hs.2.2 a ha' b hb
  · have hm : (x, y) ∈ P ↔ (x, y) ∈ P.take z ∨ (x, y) ∈ P.drop z := by
      rw [← List.mem_append, List.take_append_drop]
    simp only [List.mem_append, List.mem_singleton, Prod.mk.injEq]
    constructor
    · rintro ((hx | hx) | hx)
      · exact .inr ⟨hm.2 (.inl hx), hne _ (hm.2 (.inl hx))⟩
      · exact .inl hx
      · exact .inr ⟨hm.2 (.inr hx), hne _ (hm.2 (.inr hx))⟩
    · rintro (hx | ⟨hx, _⟩)
      · exact .inl (.inr hx)
      · rcases hm.1 hx with hx | hx
        · exact .inl (.inl hx)
        · exact .inr hx
  · have := ha.b
    have hn := whshI_n h
    simp; omega
  · simp [U.whks, U.insR, List.map_take, List.map_drop]
  · simp [U.whvs, U.insR, List.map_take, List.map_drop]
theorem whput_has {n c d : Nat} {L M : Rws} {P : WHP} (h : U.whshI n c L d M P) {k : List Int} {z : Nat} (ha : U.whAt L n k z) (hk : U.whHasAt L n k z) (e : WHv) :
    U.whPut P k e (P.set z (k, e)) ∧ U.whks (P.set z (k, e)) = U.whks P ∧ U.whvs (P.set z (k, e)) = (U.whvs P).set z e.row := by
  have hn := whshI_n h
  obtain ⟨h1, h2⟩ := hk.out
  have hz : z < P.length := by omega
  have hkz : P[z].1 = k := by
    rw [Int.toNat_natCast, whkey_at h (List.getElem?_eq_getElem hz)] at h2; exact h2
  have hks : U.whks (P.set z (k, e)) = U.whks P := by
    apply List.ext_getElem?
    intro m
    simp only [U.whks, List.getElem?_map, List.getElem?_set]
    by_cases hm : z = m
    · subst hm
      rw [if_pos rfl, if_pos hz, List.getElem?_eq_getElem hz]; simp [hkz]
    · rw [if_neg hm]
  have hlk : ∀ i (hi : i < P.length) (hi' : i < (P.set z (k, e)).length), ((P.set z (k, e))[i]).1 = (P[i]).1 := fun i hi hi' => by
    rw [List.getElem_set]
    split
    · rename_i hzi; subst hzi; exact hkz.symm
    · rfl
  refine ⟨⟨⟨?_⟩, fun x y => ?_, fun _ => List.length_set, fun hx => (hx ((whhas_iff h ha).1 hk)).elim⟩, hks, ?_⟩
  · rw [List.pairwise_iff_getElem]
    intro i j hi hj hij
    rw [List.length_set] at hi hj
    rw [hlk i hi, hlk j hj]
    exact List.pairwise_iff_getElem.1 h.srt.out i j hi hj hij
  · constructor
    · intro hx
      obtain ⟨m, hm⟩ := List.getElem?_of_mem hx
      rw [List.getElem?_set] at hm
      split at hm
      · try rw [if_pos hz] at hm
        simp only [Option.some.injEq, Prod.mk.injEq] at hm
        exact .inl ⟨hm.1.symm, hm.2.symm⟩
      · rename_i hne
        refine .inr ⟨List.mem_of_getElem? hm, fun he => ?_⟩
        have hl := (List.getElem?_eq_some_iff.1 hm).1
        have e1 := whkey_at h hm
        have e2 := whkey_at h (List.getElem?_eq_getElem hz)
        rw [hkz] at e2
        dsimp only at e1
        rcases Nat.lt_or_gt_of_ne hne with hlt | hlt
        · have := (whsrt_R h).out z m hlt (by omega)
          rw [e1, e2, he] at this; exact whltS_irr this
        · have := (whsrt_R h).out m z hlt (by omega)
          rw [e1, e2, he] at this; exact whltS_irr this
    · rintro (⟨rfl, rfl⟩ | ⟨hx, hne⟩)
      · exact List.mem_of_getElem? (i := z) (by rw [List.getElem?_set, if_pos rfl, if_pos hz])
      · obtain ⟨m, hm⟩ := List.getElem?_of_mem hx
        refine List.mem_of_getElem? (i := m) ?_
        rw [List.getElem?_set]
        by_cases hmz : z = m
        · subst hmz
          rw [List.getElem?_eq_getElem hz] at hm
          simp only [Option.some.injEq] at hm
          exact (hne (by rw [hm] at hkz; exact hkz)).elim
        · rw [if_neg hmz]; exact hm
  · apply List.ext_getElem?
    intro m
    simp only [U.whvs, List.getElem?_map, List.getElem?_set, List.length_map]
    by_cases hm : z = m
    · subst hm
      rw [if_pos rfl, if_pos rfl, if_pos hz, if_pos hz]; rfl
    · rw [if_neg hm, if_neg hm]
theorem whput_row {n c d : Nat} {L M M' : Rws} {P : WHP} (h : U.whshI n c L d M P) {z : Nat} (hz : z < n) (e : WHv) {r : List CV} (hr : r = e.row) (hM : M' = U.put M z 0 r) : U.Fu M' n d ((U.whvs P).set z e.row) := by
  subst hr
  have hn := whshI_n h
  have hrow := whrow_at h (List.getElem?_eq_getElem (show z < P.length by omega))
  have hp1 : put1 (M.getD z []) 0 e.row = e.row := by
    rw [hrow]
    simp [put1, WHv.row, whR]
  unfold U.put at hM
  rw [hp1] at hM
  obtain ⟨v1, v2, v3, v4⟩ := h.vf
  exact ⟨by rw [hM, v1, List.take_set], by rw [hM, List.length_set]; exact v2, v3, v4⟩
def whshNw (n c : Nat) (L : Rws) (d : Nat) (M : Rws) (m : Int) : St := ⟨[whB (rslC ⟨2, 1, 0, n, c⟩) (rslC ⟨3, 1, 0, n, d⟩) m], [], 0, [none, none, some (whkB L c), some (whvB M d)], 0⟩
/-- P' is P with a key taken out. -/
structure U.whRem (P : WHP) (k : List Int) (P' : WHP) : Prop where
  srt : U.whSrt P'
  mem : ∀ x y, (x, y) ∈ P' ↔ (x, y) ∈ P ∧ x ≠ k
  len : P'.length + 1 = P.length
theorem whrem_has {n c d : Nat} {L M : Rws} {P : WHP} (h : U.whshI n c L d M P) {k : List Int} {z : Nat} (ha : U.whAt L n k z) (hk : U.whHasAt L n k z) :
    U.whRem P k (P.eraseIdx z) ∧ U.whks (P.eraseIdx z) = U.erR (U.whks P) z ∧ U.whvs (P.eraseIdx z) = U.erR (U.whvs P) z := by
  have hn := whshI_n h
  obtain ⟨h1, h2⟩ := hk.out
  have hz : z < P.length := by omega
  have hkz : P[z].1 = k := by
    rw [Int.toNat_natCast, whkey_at h (List.getElem?_eq_getElem hz)] at h2; exact h2
  have hlt : ∀ i j (hi : i < P.length) (hj : j < P.length), i < j → LtS (P[i]).1 (P[j]).1 := fun i j hi hj hij => List.pairwise_iff_getElem.1 h.srt.out i j hi hj hij
  refine ⟨⟨⟨List.Pairwise.sublist (List.eraseIdx_sublist _ _) h.srt.out⟩, fun x y => ?_, by rw [List.length_eraseIdx_of_lt hz]; omega⟩, ?_, ?_⟩
  · rw [List.mem_eraseIdx_iff_getElem?]
    constructor
    · rintro ⟨i, hi, hx⟩
      refine ⟨List.mem_of_getElem? hx, fun he => ?_⟩
      obtain ⟨hl, hx⟩ := List.getElem?_eq_some_iff.1 hx
      have e1 : (P[i]).1 = k := by rw [hx]; exact he
      rcases Nat.lt_or_gt_of_ne hi with g | g
      · have := hlt i z hl hz g
        rw [e1, hkz] at this; exact whltS_irr this
      · have := hlt z i hz hl g
        rw [e1, hkz] at this; exact whltS_irr this
    · rintro ⟨hx, hne⟩
      obtain ⟨i, hi⟩ := List.getElem?_of_mem hx
      refine ⟨i, fun he => hne ?_, hi⟩
      subst he
      rw [List.getElem?_eq_getElem hz] at hi
      simp only [Option.some.injEq] at hi
      rw [hi] at hkz; exact hkz
  · unfold U.erR U.whks
    rw [Int.toNat_natCast]; simp [List.eraseIdx_eq_take_drop_succ, List.map_take, List.map_drop]
  · unfold U.erR U.whvs
    rw [Int.toNat_natCast]; simp [List.eraseIdx_eq_take_drop_succ, List.map_take, List.map_drop]
theorem whSet_run (K : AV → St → Prop) (L M : Rws) (n c d : Nat) (m : Int) (k : List Int) (e : WHv) (P : WHP) (h : U.whshI n c L d M P) (hn : n ≤ 100000)
    (h1 : U.whHasK P k → ∀ (M' : Rws) (P' : WHP), U.whPut P k e P' → U.whshI n c L d M' P' → K (xi .i64 0) (whSt n c L d M' m))
    (h2 : ¬ U.whHasK P k → m ≤ n → K (xi .i64 4) (whSt n c L d M m))
    (h3 : ¬ U.whHasK P k → (n : Int) < m → ∀ (L' : Rws) (n' c' : Nat) (M' : Rws) (d' : Nat) (P' : WHP), n' = n + 1 → U.whPut P k e P' → U.whshI n' c' L' d' M' P' → K (xi .i64 0) (whshNw n' c' L' d' M' m)) :
    runV whov inv0 whtSh 78 [ptr 0 0, cell (strC k), xi .u64 e.v0] (whSt n c L d M m) K := by
  obtain ⟨v0⟩ := e
  have hPn := whshI_n h
  have hl := h.kf.len
  have hle := h.kf.le
  have hl2 := h.vf.len
  have hle2 := h.vf.le
  have G : ∀ (z : Nat), U.whAt L n k z → (U.whHasAt L n k z ↔ U.whHasK P k) := fun z ha => whhas_iff h ha
  show runV whov inv0 whtSh 78 [ptr 0 0, cell (strC k), xi .u64 v0] (whSt n c L d M m) K
  rw [whSet_vc]
  refine ⟨⟨rfl, by omega, by omega, whsrt_R h⟩, fun z hz => ?_⟩
  have hb := hz.b
  obtain ⟨z, rfl⟩ : ∃ y : Nat, z = y := ⟨z.toNat, by omega⟩
  refine ⟨fun hx => ⟨by have := hx.out.1; omega, fun j1 hj1 => ⟨by have := hx.out.1; omega, fun M' hM => ?_⟩⟩, fun hx z3 h3' => ⟨fun hfull => ?_, fun hroom => ⟨U.whks P, ⟨rfl, h.kf, by omega, by omega⟩, fun n5 c6 L7 e5 e7 => ?_⟩⟩⟩
  · obtain rfl : j1 = z := by omega
    obtain ⟨q1, q2, q3⟩ := whput_has h hz hx ⟨v0⟩
    exact h1 ((G j1 hz).1 hx) M' _ q1 ⟨by rw [q2]; exact h.kf, by rw [q3]; exact whput_row h (by have := hx.out.1; omega) _ rfl hM, q1.srt⟩
  · exact h2 (fun hy => hx ((G z hz).2 hy)) (by omega)
  · repeat (first | refine ⟨rfl, ?_⟩ | refine ⟨⟨rfl, rfl, rfl⟩, ?_⟩)
    refine ⟨U.whvs P, ⟨rfl, h.vf, by omega, by omega⟩, fun n9 d10 M11 e9 e11 => ?_⟩
    obtain rfl : n9 = n5 := by omega
    obtain ⟨q1, q2, q3⟩ := whput_non h hz (fun hy => hx ((G z hz).2 hy)) ⟨v0⟩
    repeat' (first | exact rfl | with_reducible apply And.intro)
    exact h3 (fun hy => hx ((G z hz).2 hy)) (by omega) _ _ _ _ _ _ e5 q1 ⟨by rw [q2]; exact e7, by rw [q3]; exact e11, q1.srt⟩
/-- This thing is there by this key. -/
structure U.whHasE (P : WHP) (k : List Int) (v0 : Int) : Prop where
  out : (k, (⟨v0⟩ : WHv)) ∈ P
theorem whof {M : Rws} {j : Nat} {e : WHv} (h : M.getD j [] = e.row) : (⟨U.fi M j 0⟩ : WHv) = e := by
  unfold U.fi
  rw [h]
  rfl
abbrev whge (v0 : Int) (ok : Bool) : AV := .inr [.inl (xintC .u64 v0), .inl (.inl (.bool ok))]
theorem whGet_run (K : AV → St → Prop) (L M : Rws) (n c d : Nat) (m : Int) (k : List Int) (P : WHP) (h : U.whshI n c L d M P) (hn : n ≤ 100000)
    (hT : ∀ (v0 : Int), U.whHasE P k v0 → K (whge v0 true) (whSt n c L d M m)) (hF : ¬ U.whHasK P k → K (whge 0 false) (whSt n c L d M m)) :
    runV whov inv0 whtSh 56 [ptr 0 0, cell (strC k)] (whSt n c L d M m) K := by
  rw [whGet_vc]
  have hPn := whshI_n h
  have hl := h.kf.len
  have hle := h.kf.le
  have hl2 := h.vf.len
  have hle2 := h.vf.le
  refine ⟨⟨rfl, by omega, by omega, whsrt_R h⟩, fun z hz => ?_⟩
  have hb := hz.b
  obtain ⟨z, rfl⟩ : ∃ y : Nat, z = y := ⟨z.toNat, by omega⟩
  refine ⟨fun hx => ⟨by have := hx.out.1; omega, fun j1 hj1 => ⟨by have := hx.out.1; omega, ?_⟩⟩, fun hx => hF (fun hy => hx ((whhas_iff h hz).2 hy))⟩
  obtain rfl : j1 = z := by omega
  obtain ⟨g1, g2⟩ := hx.out
  have hzl : j1 < P.length := by omega
  have hP := List.getElem?_eq_getElem hzl
  have hrow := whrow_at h hP
  have hkz := whkey_at h hP
  rw [Int.toNat_natCast, hkz] at g2
  have hmem : (k, P[j1].2) ∈ P := by rw [← g2]; exact List.getElem_mem hzl
  have hT := hT (U.fi M j1 0) ⟨by rw [whof hrow]; exact hmem⟩
  rintro _ rfl
  exact hT
theorem whDel_run (K : AV → St → Prop) (L M : Rws) (n c d : Nat) (m : Int) (k : List Int) (P : WHP) (h : U.whshI n c L d M P) (hn : n ≤ 100000)
    (h1 : U.whHasK P k → ∀ (L' : Rws) (n' : Nat) (M' : Rws) (P' : WHP), n' + 1 = n → U.whRem P k P' → U.whshI n' c L' d M' P' → K (xi .i64 1) ⟨[whB (rslC ⟨2, 1, 0, n', c⟩) (rslC ⟨3, 1, 0, n', d⟩) m, whsV k], [], 0, [none, none, some (whkB L' c), some (whvB M' d)], 0⟩)
    (h0 : ¬ U.whHasK P k → K (xi .i64 0) ⟨[whB (rslC ⟨0, 1, 0, n, c⟩) (rslC ⟨1, 1, 0, n, d⟩) m, whsV k], [], 0, [some (whkB L c), some (whvB M d)], 0⟩) :
    runV whov inv0 whtSh 82 [ptr 0 0, sl ⟨1, 0, 1, none, 1⟩] ⟨[whB (rslC ⟨0, 1, 0, n, c⟩) (rslC ⟨1, 1, 0, n, d⟩) m, whsV k], [], 0, [some (whkB L c), some (whvB M d)], 0⟩ K := by
  rw [whDel_vc]
  have hPn := whshI_n h
  have hl := h.kf.len
  have hle := h.kf.le
  have hl2 := h.vf.len
  have hle2 := h.vf.le
  refine ⟨⟨rfl, by omega, by omega, whsrt_R h⟩, fun z hz => ?_⟩
  have hb := hz.b
  obtain ⟨z, rfl⟩ : ∃ y : Nat, z = y := ⟨z.toNat, by omega⟩
  refine ⟨fun hx z1 hz1 => ?_, fun hx => h0 (fun hy => hx ((whhas_iff h hz).2 hy))⟩
  have hlt := hx.out.1
  have e1 := iw hz1 (by omega)
  obtain ⟨q1, q2, q3⟩ := whrem_has h hz hx
  refine ⟨U.whks P, ⟨rfl, h.kf, by omega, e1⟩, fun n3 L4 e3 f4 z5 h5 => ⟨U.whvs P, ⟨rfl, h.vf, by omega, iw h5 (by omega)⟩, fun n7 L8 e7 f8 => ?_⟩⟩
  obtain rfl : n7 = n3 := by omega
  exact h1 ((whhas_iff h hz).1 hx) L4 n7 L8 _ e3 q1 ⟨by rw [q2]; exact f4, by rw [q3]; exact f8, q1.srt⟩
theorem whVals_run (K : AV → St → Prop) (L M : Rws) (n c d : Nat) (m : Int) (P : WHP) (h : U.whshI n c L d M P)
    (hK : ∀ (L' : Rws) (n' c' : Nat), n' = n → n' ≤ c' → L' = U.whvs P → K (cell (rslC ⟨2, 1, 0, n', c'⟩)) ⟨[whB (rslC ⟨0, 1, 0, n, c⟩) (rslC ⟨1, 1, 0, n, d⟩) m], [], 0, [some (whkB L c), some (whvB M d), some (whvB L' c')], 0⟩) :
    runQ inv0 tbl0 54 [ptr 0 0] (whSt n c L d M m) K := by
  rw [whVals_vc]
  have hPn := whshI_n h
  have hv := h.vf.n
  have hl2 := h.vf.len
  have hle2 := h.vf.le
  have hsm := h.vf.sm
  refine ⟨fun h0 => hK [] 0 0 h0.symm (Nat.le_refl _) (List.eq_nil_of_length_eq_zero (by omega)).symm, trivial, (by omega : 0 + n ≤ M.length), by omega, by omega, fun L0 n1 c2 e0 e1 e2 => ?_⟩
  obtain rfl : n1 = n := by omega
  refine hK L0 n1 c2 rfl e2 ?_
  rw [e0, List.drop_zero, h.vf.eq]; rfl
theorem whKeys_run (K : AV → St → Prop) (L M : Rws) (n c d : Nat) (m : Int) (P : WHP) (h : U.whshI n c L d M P)
    (hK : ∀ (L' : Rws) (n' c' : Nat), n' = n → n' ≤ c' → L' = U.whks P → K (cell (rslC ⟨2, 1, 0, n', c'⟩)) ⟨[whB (rslC ⟨0, 1, 0, n, c⟩) (rslC ⟨1, 1, 0, n, d⟩) m], [], 0, [some (whkB L c), some (whvB M d), some (whkB L' c')], 0⟩) :
    runQ inv0 tbl0 58 [ptr 0 0] (whSt n c L d M m) K := by
  rw [whKeys_vc]
  have hPn := whshI_n h
  have hv := h.kf.n
  have hl2 := h.kf.len
  have hle2 := h.kf.le
  have hsm := h.kf.sm
  refine ⟨fun h0 => hK [] 0 0 h0.symm (Nat.le_refl _) (List.eq_nil_of_length_eq_zero (by omega)).symm, trivial, (by omega : 0 + n ≤ L.length), by omega, by omega, fun L0 n1 c2 e0 e1 e2 => ?_⟩
  obtain rfl : n1 = n := by omega
  refine hK L0 n1 c2 rfl e2 ?_
  rw [e0, List.drop_zero, h.kf.eq]; rfl
end Go.Proofs.YtcjcdimlcfegbaaGreatDoor
end

section
set_option linter.unusedVariables false
set_option linter.unusedSimpArgs false
set_option maxRecDepth 10000
namespace Go.Proofs.YtcjcdimlcfegbaaGreatDoor
open Go Reck Ost
/-- The state of a shelf. -/
def whshC (p : Option Blk) (a1 a2 : Option ABlk) : Option (Nat × Nat × Rws × Nat × Rws × Int) :=
  match p, a1, a2 with
  | some ⟨133, [a, b, m], none, 3, false⟩, some ⟨9, .o (.rows [.s] L), [], c0, false⟩, some ⟨42, .o (.rows ks M), [], d0, false⟩ => match cRsl a, cRsl b, cInt m, sameK ks whvK with
    | some ⟨0, 1, 0, n, c⟩, some ⟨1, 1, 0, n2, d⟩, some m, true => some (n, c0, L, d0, M, m)
    | _, _, _, _ => none
  | _, _, _ => none
/-- Its slices tell the same. -/
def whshD (p : Option Blk) (a1 a2 : Option ABlk) : Prop :=
  match p, a1, a2 with
  | some ⟨_, [a, b, _], _, _, _⟩, some ⟨_, _, _, c0, _⟩, some ⟨_, _, _, d0, _⟩ => match cRsl a, cRsl b with
    | some ⟨_, _, _, n, c⟩, some ⟨_, _, _, n2, d⟩ => c = c0 ∧ d = d0 ∧ n2 = n
    | _, _ => False
  | _, _, _ => False
theorem whshC_eq {p : Option Blk} {a1 a2 : Option ABlk} {n c d : Nat} {L M : Rws} {m : Int} (h : whshC p a1 a2 = some (n, c, L, d, M, m)) (hy : whshD p a1 a2) : p = whB (rslC ⟨0, 1, 0, n, c⟩) (rslC ⟨1, 1, 0, n, d⟩) m ∧ a1 = some (whkB L c) ∧ a2 = some (whvB M d) := by
  unfold whshC at h
  split at h
  · split at h
    · rename_i h1 h2 h3 h4
      simp only [Option.some.injEq, Prod.mk.injEq] at h
      obtain ⟨rfl, rfl, rfl, rfl, rfl, rfl⟩ := h
      simp only [whshD, h1, h2] at hy
      obtain ⟨rfl, rfl, rfl⟩ := hy
      rw [cRsl_eq h1, cRsl_eq h2, cInt_eq h3, sameK_eq h4]
      exact ⟨rfl, rfl, rfl⟩
    · cases h
  · cases h
theorem whmv {w0 w : World} {e : Env} {n c d : Nat} {L M : Rws} {m : Int} {H : List (Option Blk)} (h : Ok w0 e ⟨whB (rslC ⟨0, 1, 0, n, c⟩) (rslC ⟨1, 1, 0, n, d⟩) m :: H, [], 0, [some (whkB L c), some (whvB M d)], 0⟩ w) :
    ∃ e', e.le e' ∧ Ok w0 e' ⟨whB (rslC ⟨2, 1, 0, n, c⟩) (rslC ⟨3, 1, 0, n, d⟩) m :: H, [], 0, [none, none, some (whkB L c), some (whvB M d)], 0⟩ w := by
  have hb : ∃ q, e.blk[0]? = some q := by
    have := h.blks
    exact ⟨_, List.getElem?_eq_getElem (by rw [this]; exact Nat.succ_pos _)⟩
  obtain ⟨q, hq⟩ := hb
  obtain ⟨_, cur, fz, _, hc, _⟩ := h.blk 0 _ q rfl hq
  obtain ⟨v0, a0, _⟩ := hc 0 _ rfl
  obtain ⟨v1, a1, _⟩ := hc 1 _ rfl
  have b0 : Reck.av e (cell (rslC ⟨0, 1, 0, n, c⟩)) = some v0 := a0
  obtain ⟨q1, m1, k1⟩ := h.mvRows (i := 0) (b := whkB L c) rfl rfl rfl b0
  have b1 := av_mono (le_arr e q1) (cell (rslC ⟨1, 1, 0, n, d⟩)) v1 a1
  obtain ⟨q2, m2, k2⟩ := k1.mvRows (i := 1) (b := whvB M d) rfl rfl rfl b1
  have l2 := le_arr ⟨e.blk, e.int, e.opq, e.arr ++ [q1], e.S, e.junk, e.Z⟩ q2
  have m1 := av_mono l2 _ _ m1
  have le := (le_arr e q1).trans l2
  refine ⟨_, le, ?_⟩
  exact k2.reCell (i := 0) (cells' := [rslC ⟨2, 1, 0, n, c⟩, rslC ⟨3, 1, 0, n, d⟩, xintC .i64 m]) rfl (by
    intro j c' hc'
    match j, hc' with
    | 0, hc' => simp at hc'; subst hc'; exact ⟨_, _, rfl, cv_mono le _ _ a0, m1⟩
    | 1, hc' => simp at hc'; subst hc'; exact ⟨_, _, rfl, cv_mono le _ _ a1, m2⟩
    | 2, hc' => simp at hc'; subst hc'; exact ⟨_, _, rfl, rfl, rfl⟩
    | n + 3, hc' => simp at hc')
def U.whlen (P : WHP) : Nat := P.length
/-- There is room for a key. -/
structure U.whRoom (P : WHP) (k : List Int) (m : Int) : Prop where
  out : U.whHasK P k ∨ (P.length : Int) < m
def whpNew : Pat := fun args σ => match args, σ with
  | [m], ⟨[], [], 0, [], 0⟩ => match aInt m with
    | some m => some fun K => K (ptr 0 0) ⟨[whB (rslC ⟨0, 1, 0, 0, 0⟩) (rslC ⟨1, 1, 0, 0, 0⟩) m], [], 0, [some (whkB [] 0), some (whvB [] 0)], 0⟩
    | _ => none
  | _, _ => none
theorem whpNew_ok : PatOk 40 whpNew := by
  intro tm σ C h K hK w0 e w hk vs hvs
  unfold whpNew at h
  split at h
  · split at h
    · rename_i m hm
      simp only [Option.some.injEq] at h; subst h
      obtain ⟨v, rfl, hv⟩ := ones hvs
      refine (knownD noOv names (opMV_ok whovOk) (conOk_ofR tbl0_ok) (show runV whov inv0 tbl0 40 [xi .i64 m] emptySt (fun x σ' => x = ptr 0 0 ∧ σ' = ⟨[whB (.inl (.slice none 0 0)) (.inl (.slice none 0 0)) m], [], 0, [], 0⟩) by rw [whNew_vc]; exact ⟨rfl, rfl⟩) w0 e w hk _ (map1 (as_aInt hm hv))).mono ?_
      rintro en w' ⟨x, σ', e', v', h1, h2, h3, h4, rfl, rfl⟩
      obtain ⟨k1, c1⟩ := h4.addNone 9 [.s] 1
      obtain ⟨k2, c2⟩ := k1.addNone 42 whvK 1
      have l2 := le_arr ⟨e'.blk, e'.int, e'.opq, e'.arr ++ [.inl none], e'.S, e'.junk, e'.Z⟩ (.inl none)
      have c1 := cv_mono l2 _ _ c1
      have k3 := k2.reCell (i := 0) (cells' := [rslC ⟨0, 1, 0, 0, 0⟩, rslC ⟨1, 1, 0, 0, 0⟩, xintC .i64 m]) rfl (by
        intro j c' hc'
        match j, hc' with
        | 0, hc' => simp at hc'; subst hc'; exact ⟨_, _, rfl, rfl, c1⟩
        | 1, hc' => simp at hc'; subst hc'; exact ⟨_, _, rfl, rfl, c2⟩
        | 2, hc' => simp at hc'; subst hc'; exact ⟨_, _, rfl, rfl, rfl⟩
        | n + 3, hc' => simp at hc')
      exact ⟨_, _, _, v', h1, h2.trans ((le_arr e' (.inl none)).trans l2), av_mono ((le_arr e' (.inl none)).trans l2) _ _ h3, k3, hK⟩
    · cases h
  · cases h
def whpSet : Pat := fun args σ => match args, σ with
  | [.inl (.inl (.inr (.inl (0, 0)))), k, v], ⟨[p], [], 0, [a1, a2], 0⟩ => match strX k, aIntK .u64 v, whshC p a1 a2 with
    | some k, some v0, some (n, c, L, d, M, m) => some fun K => ∃ P, (whshD p a1 a2 ∧ U.whshI n c L d M P ∧ n ≤ 100000) ∧
      (U.whRoom P k m → ∀ (L' : Rws) (n' c' : Nat) (M' : Rws) (d' : Nat) (P' : WHP), n' = U.whlen P' → U.whPut P k (⟨v0⟩ : WHv) P' → U.whshI n' c' L' d' M' P' → K (xi .i64 0) (whshNw n' c' L' d' M' m)) ∧
      (¬ U.whRoom P k m → K (xi .i64 4) (whSt n c L d M m))
    | _, _, _ => none
  | _, _ => none
theorem whpSet_ok : PatOk 78 whpSet := by
  intro tm σ C h K hK w0 e w hk vs hvs
  unfold whpSet at h
  split at h
  · split at h
    · rename_i k en n c L d M m hkk hl hσ
      simp only [Option.some.injEq] at h; subst h
      obtain ⟨P, ⟨hy, h1, h2⟩, h3, h4⟩ := hK
      obtain ⟨rfl, rfl, rfl⟩ := whshC_eq hσ hy
      obtain ⟨x, y, z, rfl, q1, q2, q3⟩ := threes hvs
      have hn := whshI_n h1
      refine (knownD noOv names (opMV_ok whovOk) (conOk_ofR whtSh_ok) (whSet_run (fun x σ' => (x = xi .i64 0 ∧ U.whRoom P k m ∧ ∃ (L' : Rws) (n' c' : Nat) (M' : Rws) (d' : Nat) (P' : WHP), n' = P'.length ∧ U.whPut P k ⟨en⟩ P' ∧ U.whshI n' c' L' d' M' P' ∧ (σ' = whSt n' c' L' d' M' m ∨ σ' = whshNw n' c' L' d' M' m)) ∨ (x = xi .i64 4 ∧ ¬ U.whRoom P k m ∧ σ' = whSt n c L d M m)) L M n c d m k ⟨en⟩ P h1 h2 ?_ ?_ ?_) w0 e w hk _ (map3 q1 (as_str hkk q2) (as_aIntK hl q3))).mono ?_
      · exact fun hh M' P' hp hi => .inl ⟨rfl, ⟨.inl hh⟩, L, n, c, M', d, P', by rw [hp.has hh, hn], hp, hi, .inl rfl⟩
      · exact fun hh hm => .inr ⟨rfl, fun ⟨hx⟩ => hx.elim hh (fun h => by omega), rfl⟩
      · exact fun hh hm L' n' c' M' d' P' he hp hi => .inl ⟨rfl, ⟨.inr (by omega)⟩, L', n', c', M', d', P', by rw [hp.non hh]; omega, hp, hi, .inr rfl⟩
      · rintro en' w' ⟨x, σ', e', v, g1, g2, g3, g4, hw⟩
        rcases hw with ⟨rfl, hr, L', n', c', M', d', P', f1, f2, f3, rfl | rfl⟩ | ⟨rfl, hr, rfl⟩
        · obtain ⟨e2, l2, k2⟩ := whmv g4
          exact ⟨_, _, e2, v, g1, g2.trans l2, av_mono l2 _ _ g3, k2, h3 hr L' n' c' M' d' P' f1 f2 f3⟩
        · exact ⟨_, _, e', v, g1, g2, g3, g4, h3 hr L' n' c' M' d' P' f1 f2 f3⟩
        · exact ⟨_, _, e', v, g1, g2, g3, g4, h4 hr⟩
    · cases h
  · cases h
def whpGet : Pat := fun args σ => match args, σ with
  | [.inl (.inl (.inr (.inl (0, 0)))), k], ⟨[p], [], 0, [a1, a2], 0⟩ => match strX k, whshC p a1 a2 with
    | some k, some (n, c, L, d, M, m) => some fun K => ∃ P, (whshD p a1 a2 ∧ U.whshI n c L d M P ∧ n ≤ 100000) ∧ (∀ (v0 : Int), U.whHasE P k v0 → K (whge v0 true) (whSt n c L d M m)) ∧ (¬ U.whHasK P k → K (whge 0 false) (whSt n c L d M m))
    | _, _ => none
  | _, _ => none
theorem whpGet_ok : PatOk 56 whpGet := by
  intro tm σ C h K hK w0 e w hk vs hvs
  unfold whpGet at h
  split at h
  · split at h
    · rename_i hkk hσ
      simp only [Option.some.injEq] at h; subst h
      obtain ⟨P, ⟨hy, h1, h2⟩, h3, h4⟩ := hK
      obtain ⟨rfl, rfl, rfl⟩ := whshC_eq hσ hy
      obtain ⟨x, y, rfl, q1, q2⟩ := twos hvs
      exact knownD noOv names (opMV_ok whovOk) (conOk_ofR whtSh_ok) (whGet_run K _ _ _ _ _ _ _ P h1 h2 h3 h4) w0 e w hk _ (map2 q1 (as_str hkk q2))
    · cases h
  · cases h
/-- P' is P without a key. -/
structure U.whRm (P : WHP) (k : List Int) (P' : WHP) : Prop where
  srt : U.whSrt P'
  mem : ∀ x y, (x, y) ∈ P' ↔ (x, y) ∈ P ∧ x ≠ k
  len : P'.length ≤ P.length
structure U.whRmN (P : WHP) (k : List Int) (z : Int) : Prop where
  yes : U.whHasK P k → z = 1
  no : ¬ U.whHasK P k → z = 0
theorem whrm_of {P P' : WHP} {k : List Int} (h : U.whRem P k P') : U.whRm P k P' := ⟨h.srt, h.mem, by have := h.len; omega⟩
theorem whrm_non {P : WHP} {k : List Int} (hs : U.whSrt P) (h : ¬ U.whHasK P k) : U.whRm P k P :=
  ⟨hs, fun x y => ⟨fun hx => ⟨hx, fun he => h ⟨y, he ▸ hx⟩⟩, fun hx => hx.1⟩, Nat.le_refl _⟩
def whpDel : Pat := fun args σ => match args, σ with
  | [.inl (.inl (.inr (.inl (0, 0)))), .inl (.inl (.inr (.inr (.inl ⟨1, 0, 1, none, 1⟩))))], ⟨[p, some ⟨9, [v], none, 1, false⟩], [], 0, [a1, a2], 0⟩ => match strX (cell v), whshC p a1 a2 with
    | some k, some (n, c, L, d, M, m) => some fun K => ∃ P, (whshD p a1 a2 ∧ U.whshI n c L d M P ∧ n ≤ 100000) ∧ ∀ (z : Int) (L' : Rws) (n' : Nat) (M' : Rws) (P' : WHP), n' = U.whlen P' → U.whRmN P k z → U.whRm P k P' → U.whshI n' c L' d M' P' → K (xi .i64 z) ⟨[whB (rslC ⟨2, 1, 0, n', c⟩) (rslC ⟨3, 1, 0, n', d⟩) m, whsV k], [], 0, [none, none, some (whkB L' c), some (whvB M' d)], 0⟩
    | _, _ => none
  | _, _ => none
theorem whpDel_ok : PatOk 82 whpDel := by
  intro tm σ C h K hK w0 e w hk vs hvs
  unfold whpDel at h
  split at h
  · split at h
    · rename_i k n c L d M m hkk hσ
      simp only [Option.some.injEq] at h; subst h
      obtain ⟨P, ⟨hy, h1, h2⟩, h3⟩ := hK
      obtain ⟨rfl, rfl, rfl⟩ := whshC_eq hσ hy
      have hb1 : ∃ q, e.blk[1]? = some q := by
        have := hk.blks
        exact ⟨_, List.getElem?_eq_getElem (by rw [this]; exact Nat.succ_lt_succ (Nat.succ_pos _))⟩
      obtain ⟨qb, hqb⟩ := hb1
      obtain ⟨_, curb, fzb, _, hcb, _⟩ := hk.blk 1 _ qb rfl hqb
      obtain ⟨vb, gb, _⟩ := hcb 0 _ rfl
      obtain ⟨rfl, hbz⟩ := strX_ok hkk gb
      have hk := hk.reCell (i := 1) (cells' := [strC k]) rfl (by
        intro j c' hc'
        match j, hc' with
        | 0, hc' => simp at hc'; subst hc'; exact ⟨_, _, rfl, gb, strC_av hbz e⟩
        | n + 1, hc' => simp at hc')
      obtain ⟨x, y, rfl, q1, q2⟩ := twos hvs
      have hn := whshI_n h1
      refine (knownD noOv names (opMV_ok whovOk) (conOk_ofR whtSh_ok) (whDel_run (fun x σ' => ∃ (z : Int) (L' : Rws) (n' : Nat) (M' : Rws) (P' : WHP), x = xi .i64 z ∧ n' = U.whlen P' ∧ U.whRmN P k z ∧ U.whRm P k P' ∧ U.whshI n' c L' d M' P' ∧ (σ' = ⟨[whB (rslC ⟨0, 1, 0, n', c⟩) (rslC ⟨1, 1, 0, n', d⟩) m, whsV k], [], 0, [some (whkB L' c), some (whvB M' d)], 0⟩ ∨ σ' = ⟨[whB (rslC ⟨2, 1, 0, n', c⟩) (rslC ⟨3, 1, 0, n', d⟩) m, whsV k], [], 0, [none, none, some (whkB L' c), some (whvB M' d)], 0⟩)) L M n c d m k P h1 h2 ?_ ?_) w0 e w hk _ (map2 q1 q2)).mono ?_
      · exact fun hh L' n' M' P' he hr hi => ⟨1, L', n', M', P', rfl, by have := whshI_n hi; exact this.symm, ⟨fun _ => rfl, fun g => (g hh).elim⟩, whrm_of hr, hi, .inr rfl⟩
      · exact fun hh => ⟨0, L, n, M, P, rfl, hn.symm, ⟨fun g => (hh g).elim, fun _ => rfl⟩, whrm_non h1.srt hh, h1, .inl rfl⟩
      · rintro en' w' ⟨x, σ', e', v, g1, g2, g3, g4, z, L', n', M', P', rfl, f1, f2, f3, f4, rfl | rfl⟩
        · obtain ⟨e2, l2, k2⟩ := whmv g4
          exact ⟨_, _, e2, v, g1, g2.trans l2, av_mono l2 _ _ g3, k2, h3 z L' n' M' P' f1 f2 f3 f4⟩
        · exact ⟨_, _, e', v, g1, g2, g3, g4, h3 z L' n' M' P' f1 f2 f3 f4⟩
    · cases h
  · cases h
def whpVals : Pat := fun args σ => match args, σ with
  | [.inl (.inl (.inr (.inl (0, 0))))], ⟨[p], [], 0, [a1, a2], 0⟩ => match whshC p a1 a2 with
    | some (n, c, L, d, M, m) => some fun K => ∃ P, (whshD p a1 a2 ∧ U.whshI n c L d M P) ∧ ∀ (L' : Rws) (n' c' : Nat), n' = n → n' ≤ c' → L' = U.whvs P → K (cell (rslC ⟨2, 1, 0, n', c'⟩)) ⟨[whB (rslC ⟨0, 1, 0, n, c⟩) (rslC ⟨1, 1, 0, n, d⟩) m], [], 0, [some (whkB L c), some (whvB M d), some (whvB L' c')], 0⟩
    | _ => none
  | _, _ => none
theorem whpVals_ok : PatOk 54 whpVals := by
  intro tm σ C h K hK w0 e w hk vs hvs
  unfold whpVals at h
  split at h
  · split at h
    · rename_i hσ
      simp only [Option.some.injEq] at h; subst h
      obtain ⟨P, ⟨hy, h1⟩, h2⟩ := hK
      obtain ⟨rfl, rfl, rfl⟩ := whshC_eq hσ hy
      exact knownD noOv names opMK_ok (conOk_ofR tbl0_ok) (whVals_run K _ _ _ _ _ _ P h1 h2) w0 e w hk vs hvs
    · cases h
  · cases h
def whpKeys : Pat := fun args σ => match args, σ with
  | [.inl (.inl (.inr (.inl (0, 0))))], ⟨[p], [], 0, [a1, a2], 0⟩ => match whshC p a1 a2 with
    | some (n, c, L, d, M, m) => some fun K => ∃ P, (whshD p a1 a2 ∧ U.whshI n c L d M P) ∧ ∀ (L' : Rws) (n' c' : Nat), n' = n → n' ≤ c' → L' = U.whks P → K (cell (rslC ⟨2, 1, 0, n', c'⟩)) ⟨[whB (rslC ⟨0, 1, 0, n, c⟩) (rslC ⟨1, 1, 0, n, d⟩) m], [], 0, [some (whkB L c), some (whvB M d), some (whkB L' c')], 0⟩
    | _ => none
  | _, _ => none
theorem whpKeys_ok : PatOk 58 whpKeys := by
  intro tm σ C h K hK w0 e w hk vs hvs
  unfold whpKeys at h
  split at h
  · split at h
    · rename_i hσ
      simp only [Option.some.injEq] at h; subst h
      obtain ⟨P, ⟨hy, h1⟩, h2⟩ := hK
      obtain ⟨rfl, rfl, rfl⟩ := whshC_eq hσ hy
      exact knownD noOv names opMK_ok (conOk_ofR tbl0_ok) (whKeys_run K _ _ _ _ _ _ P h1 h2) w0 e w hk vs hvs
    · cases h
  · cases h
def whtS : Tbl := tblOr (tblIf 40 whpNew) (tblOr (tblIf 78 whpSet) (tblOr (tblIf 56 whpGet) (tblOr (tblIf 82 whpDel) (tblOr (tblIf 54 whpVals) (tblIf 58 whpKeys)))))
theorem whtS_ok : TblOk Tryz.prog whtS := tblOr_ok (tblIf_ok whpNew_ok) (tblOr_ok (tblIf_ok whpSet_ok) (tblOr_ok (tblIf_ok whpGet_ok) (tblOr_ok (tblIf_ok whpDel_ok) (tblOr_ok (tblIf_ok whpVals_ok) (tblIf_ok whpKeys_ok)))))
end Go.Proofs.YtcjcdimlcfegbaaGreatDoor
end
