/- Parts of a proof, one behind the other: LR1 LR2 LR3 LR4. No condition. -/
import Derived.Test.YtbhdckphfgabiaaGB
section
namespace Go.Proofs.Ytbhdckphfgabiaa
open Go Reck Ost
set_option linter.unusedVariables false
set_option maxRecDepth 100000
/-- Two paths are the same, so far; all. -/
structure U.hE (A : Rws) (o n : Nat) (B : Rws) (p m : Nat) : Prop where
  out : n = m ∧ ∀ k : Nat, k < n → U.fi A (o + k) 0 = U.fi B (p + k) 0 ∧ U.fi A (o + k) (0 + 1) = U.fi B (p + k) (0 + 1) ∧ U.fi A (o + k) (0 + 1 + 1) = U.fi B (p + k) (0 + 1 + 1)
structure U.hI (A : Rws) (o n : Nat) (B : Rws) (p : Nat) (x : Int) : Prop where
  out : 0 ≤ x ∧ x ≤ n ∧ ∀ k : Nat, (k : Int) < x → U.fi A (o + k) 0 = U.fi B (p + k) 0 ∧ U.fi A (o + k) (0 + 1) = U.fi B (p + k) (0 + 1) ∧ U.fi A (o + k) (0 + 1 + 1) = U.fi B (p + k) (0 + 1 + 1)
def hInv (tm : List AV) (σ : St) : Inv where
  X := Int
  tags := [0]
  tag _ _ := 0
  J := [2, 3, 4, 5, 6, 7, 8, 9, 10, 14, 15, 16, 17, 18, 19, 20, 21, 22, 23, 24, 25]
  val _ x := [(13, xi .i64 x)]
  st _ _ σ' := σ'
  I _ x := U.hI (rowsAt σ (slotR tm 0).a) (slotR tm 0).o (slotR tm 0).n (rowsAt σ (slotR tm 1).a) (slotR tm 1).o x
  m _ x := ((slotR tm 0).n : Int).toNat - x.toNat
  ren := noRen
def invH : InvF := fun c tm σ => match tm.length, firstReg c with
  | 26, some 4 => some (hInv tm σ)
  | _, _ => none
def hpB (A : Rws) (c : Nat) (r : Bool) : ABlk := ⟨94, .o (.rows hopKs A), [], c, r⟩
--PLAIN
theorem hops_vc (K : AV → St → Prop) (A B : Rws) (o n c p m d e f : Nat) (r s : Bool) : (runR invH tbl0 42 [cell (rslC ⟨0, 3, o, n, c⟩), cell (rslC ⟨1, 3, p, m, d⟩)] ⟨[], [], 0, [some (hpB A e r), some (hpB B f s)], 0⟩ K) = (∀ (z0 : Int), z0 = (↑n : Int) → ∀ (z1 : Int), z1 = (↑m : Int) → (¬z0 = z1 → K (Sum.inl (Sum.inl (Sum.inl (Value.bool false)))) { heap := [], ints := [], opqs := (0 : Nat), arrs := [some { elem := (94 : Nat), k := AK.o (Obj.rows [CK.n IntKind.i64, CK.n IntKind.i64, CK.n IntKind.i64] A), l := [], cap := e, ro := r }, some { elem := (94 : Nat), k := AK.o (Obj.rows [CK.n IntKind.i64, CK.n IntKind.i64, CK.n IntKind.i64] B), l := [], cap := f, ro := s }], junks := (0 : Nat) }) ∧ (¬¬z0 = z1 → ∀ (z2 : Int), z2 = (↑n : Int) → (∃ (y3 : Int), (o = o ∧ n = n ∧ c = c) ∧ (p = p ∧ m = m ∧ d = d) ∧ (o = o ∧ n = n ∧ c = c) ∧ z2 = z2 ∧ (0 : Int) = y3 ∧ (A = A ∧ e = e ∧ r = r) ∧ (B = B ∧ f = f ∧ s = s) ∧ U.hI A o n B p y3) ∧ ∀ (x4 : Int), U.hI A o n B p x4 → (x4 < z2 → ((0 : Int) ≤ x4 ∧ x4 < (↑n : Int)) ∧ ∀ (j5 : Nat), (↑j5 : Int) = (↑o : Int) + x4 → j5 < List.length A ∧ ∀ (z6 : Int), z6 = U.fi A j5 ((0 : Nat)) → ∀ (z7 : Int), z7 = U.fi A j5 ((0 : Nat) + (1 : Nat)) → ∀ (z8 : Int), z8 = U.fi A j5 ((0 : Nat) + (1 : Nat) + (1 : Nat)) → ((0 : Int) ≤ x4 ∧ x4 < (↑m : Int)) ∧ ∀ (j9 : Nat), (↑j9 : Int) = (↑p : Int) + x4 → j9 < List.length B ∧ ∀ (z10 : Int), z10 = U.fi B j9 ((0 : Nat)) → ∀ (z11 : Int), z11 = U.fi B j9 ((0 : Nat) + (1 : Nat)) → ∀ (z12 : Int), z12 = U.fi B j9 ((0 : Nat) + (1 : Nat) + (1 : Nat)) → (¬(z6 = z10 ∧ z7 = z11 ∧ z8 = z12 ∧ True) → K (Sum.inl (Sum.inl (Sum.inl (Value.bool false)))) { heap := [], ints := [], opqs := (0 : Nat), arrs := [some { elem := (94 : Nat), k := AK.o (Obj.rows [CK.n IntKind.i64, CK.n IntKind.i64, CK.n IntKind.i64] A), l := [], cap := e, ro := r }, some { elem := (94 : Nat), k := AK.o (Obj.rows [CK.n IntKind.i64, CK.n IntKind.i64, CK.n IntKind.i64] B), l := [], cap := f, ro := s }], junks := (0 : Nat) }) ∧ (¬¬(z6 = z10 ∧ z7 = z11 ∧ z8 = z12 ∧ True) → ∀ (z13 : Int), z13 = IntKind.wrap IntKind.i64 (x4 + (1 : Int)) → ∃ (y14 : Int), (o = o ∧ n = n ∧ c = c) ∧ (p = p ∧ m = m ∧ d = d) ∧ (o = o ∧ n = n ∧ c = c) ∧ z2 = z2 ∧ z13 = y14 ∧ (A = A ∧ e = e ∧ r = r) ∧ (B = B ∧ f = f ∧ s = s) ∧ U.hI A o n B p y14 ∧ Int.toNat (↑n : Int) - Int.toNat y14 < Int.toNat (↑n : Int) - Int.toNat x4)) ∧ (¬x4 < z2 → K (Sum.inl (Sum.inl (Sum.inl (Value.bool true)))) { heap := [], ints := [], opqs := (0 : Nat), arrs := [some { elem := (94 : Nat), k := AK.o (Obj.rows [CK.n IntKind.i64, CK.n IntKind.i64, CK.n IntKind.i64] A), l := [], cap := e, ro := r }, some { elem := (94 : Nat), k := AK.o (Obj.rows [CK.n IntKind.i64, CK.n IntKind.i64, CK.n IntKind.i64] B), l := [], cap := f, ro := s }], junks := (0 : Nat) }))) := by kernel_rfl
theorem hequ_vc (K : AV → St → Prop) (A B : Rws) (o n c p m d e f : Nat) (r s : Bool) : (runR invH tbl0 43 [cell (rslC ⟨0, 3, o, n, c⟩), cell (rslC ⟨1, 3, p, m, d⟩)] ⟨[], [], 0, [some (hpB A e r), some (hpB B f s)], 0⟩ K) = (∀ (z0 : Int), z0 = (↑n : Int) → ∀ (z1 : Int), z1 = (↑m : Int) → (¬z0 = z1 → K (Sum.inl (Sum.inl (Sum.inl (Value.bool false)))) { heap := [], ints := [], opqs := (0 : Nat), arrs := [some { elem := (94 : Nat), k := AK.o (Obj.rows [CK.n IntKind.i64, CK.n IntKind.i64, CK.n IntKind.i64] A), l := [], cap := e, ro := r }, some { elem := (94 : Nat), k := AK.o (Obj.rows [CK.n IntKind.i64, CK.n IntKind.i64, CK.n IntKind.i64] B), l := [], cap := f, ro := s }], junks := (0 : Nat) }) ∧ (¬¬z0 = z1 → ∀ (z2 : Int), z2 = (↑n : Int) → (∃ (y3 : Int), (o = o ∧ n = n ∧ c = c) ∧ (p = p ∧ m = m ∧ d = d) ∧ (o = o ∧ n = n ∧ c = c) ∧ z2 = z2 ∧ (0 : Int) = y3 ∧ (A = A ∧ e = e ∧ r = r) ∧ (B = B ∧ f = f ∧ s = s) ∧ U.hI A o n B p y3) ∧ ∀ (x4 : Int), U.hI A o n B p x4 → (x4 < z2 → ((0 : Int) ≤ x4 ∧ x4 < (↑n : Int)) ∧ ∀ (j5 : Nat), (↑j5 : Int) = (↑o : Int) + x4 → j5 < List.length A ∧ ∀ (z6 : Int), z6 = U.fi A j5 ((0 : Nat)) → ∀ (z7 : Int), z7 = U.fi A j5 ((0 : Nat) + (1 : Nat)) → ∀ (z8 : Int), z8 = U.fi A j5 ((0 : Nat) + (1 : Nat) + (1 : Nat)) → ((0 : Int) ≤ x4 ∧ x4 < (↑m : Int)) ∧ ∀ (j9 : Nat), (↑j9 : Int) = (↑p : Int) + x4 → j9 < List.length B ∧ ∀ (z10 : Int), z10 = U.fi B j9 ((0 : Nat)) → ∀ (z11 : Int), z11 = U.fi B j9 ((0 : Nat) + (1 : Nat)) → ∀ (z12 : Int), z12 = U.fi B j9 ((0 : Nat) + (1 : Nat) + (1 : Nat)) → (¬(z6 = z10 ∧ z7 = z11 ∧ z8 = z12 ∧ True) → K (Sum.inl (Sum.inl (Sum.inl (Value.bool false)))) { heap := [], ints := [], opqs := (0 : Nat), arrs := [some { elem := (94 : Nat), k := AK.o (Obj.rows [CK.n IntKind.i64, CK.n IntKind.i64, CK.n IntKind.i64] A), l := [], cap := e, ro := r }, some { elem := (94 : Nat), k := AK.o (Obj.rows [CK.n IntKind.i64, CK.n IntKind.i64, CK.n IntKind.i64] B), l := [], cap := f, ro := s }], junks := (0 : Nat) }) ∧ (¬¬(z6 = z10 ∧ z7 = z11 ∧ z8 = z12 ∧ True) → ∀ (z13 : Int), z13 = IntKind.wrap IntKind.i64 (x4 + (1 : Int)) → ∃ (y14 : Int), (o = o ∧ n = n ∧ c = c) ∧ (p = p ∧ m = m ∧ d = d) ∧ (o = o ∧ n = n ∧ c = c) ∧ z2 = z2 ∧ z13 = y14 ∧ (A = A ∧ e = e ∧ r = r) ∧ (B = B ∧ f = f ∧ s = s) ∧ U.hI A o n B p y14 ∧ Int.toNat (↑n : Int) - Int.toNat y14 < Int.toNat (↑n : Int) - Int.toNat x4)) ∧ (¬x4 < z2 → K (Sum.inl (Sum.inl (Sum.inl (Value.bool true)))) { heap := [], ints := [], opqs := (0 : Nat), arrs := [some { elem := (94 : Nat), k := AK.o (Obj.rows [CK.n IntKind.i64, CK.n IntKind.i64, CK.n IntKind.i64] A), l := [], cap := e, ro := r }, some { elem := (94 : Nat), k := AK.o (Obj.rows [CK.n IntKind.i64, CK.n IntKind.i64, CK.n IntKind.i64] B), l := [], cap := f, ro := s }], junks := (0 : Nat) }))) := by kernel_rfl
theorem hequ1_vc (K : AV → St → Prop) (A : Rws) (o n c e : Nat) (r : Bool) : (runR invH tbl0 43 [cell (rslC ⟨0, 3, o, n, c⟩), cell (rslC ⟨0, 3, o, n, c⟩)] ⟨[], [], 0, [some (hpB A e r)], 0⟩ K) = (∀ (z0 : Int), z0 = (↑n : Int) → ∀ (z1 : Int), z1 = (↑n : Int) → (¬z0 = z1 → K (Sum.inl (Sum.inl (Sum.inl (Value.bool false)))) { heap := [], ints := [], opqs := (0 : Nat), arrs := [some { elem := (94 : Nat), k := AK.o (Obj.rows [CK.n IntKind.i64, CK.n IntKind.i64, CK.n IntKind.i64] A), l := [], cap := e, ro := r }], junks := (0 : Nat) }) ∧ (¬¬z0 = z1 → ∀ (z2 : Int), z2 = (↑n : Int) → (∃ (y3 : Int), (o = o ∧ n = n ∧ c = c) ∧ (o = o ∧ n = n ∧ c = c) ∧ (o = o ∧ n = n ∧ c = c) ∧ z2 = z2 ∧ (0 : Int) = y3 ∧ (A = A ∧ e = e ∧ r = r) ∧ U.hI A o n A o y3) ∧ ∀ (x4 : Int), U.hI A o n A o x4 → (x4 < z2 → ((0 : Int) ≤ x4 ∧ x4 < (↑n : Int)) ∧ ∀ (j5 : Nat), (↑j5 : Int) = (↑o : Int) + x4 → j5 < List.length A ∧ ∀ (z6 : Int), z6 = U.fi A j5 ((0 : Nat)) → ∀ (z7 : Int), z7 = U.fi A j5 ((0 : Nat) + (1 : Nat)) → ∀ (z8 : Int), z8 = U.fi A j5 ((0 : Nat) + (1 : Nat) + (1 : Nat)) → ((0 : Int) ≤ x4 ∧ x4 < (↑n : Int)) ∧ ∀ (j9 : Nat), (↑j9 : Int) = (↑o : Int) + x4 → j9 < List.length A ∧ ∀ (z10 : Int), z10 = U.fi A j9 ((0 : Nat)) → ∀ (z11 : Int), z11 = U.fi A j9 ((0 : Nat) + (1 : Nat)) → ∀ (z12 : Int), z12 = U.fi A j9 ((0 : Nat) + (1 : Nat) + (1 : Nat)) → (¬(z6 = z10 ∧ z7 = z11 ∧ z8 = z12 ∧ True) → K (Sum.inl (Sum.inl (Sum.inl (Value.bool false)))) { heap := [], ints := [], opqs := (0 : Nat), arrs := [some { elem := (94 : Nat), k := AK.o (Obj.rows [CK.n IntKind.i64, CK.n IntKind.i64, CK.n IntKind.i64] A), l := [], cap := e, ro := r }], junks := (0 : Nat) }) ∧ (¬¬(z6 = z10 ∧ z7 = z11 ∧ z8 = z12 ∧ True) → ∀ (z13 : Int), z13 = IntKind.wrap IntKind.i64 (x4 + (1 : Int)) → ∃ (y14 : Int), (o = o ∧ n = n ∧ c = c) ∧ (o = o ∧ n = n ∧ c = c) ∧ (o = o ∧ n = n ∧ c = c) ∧ z2 = z2 ∧ z13 = y14 ∧ (A = A ∧ e = e ∧ r = r) ∧ U.hI A o n A o y14 ∧ Int.toNat (↑n : Int) - Int.toNat y14 < Int.toNat (↑n : Int) - Int.toNat x4)) ∧ (¬x4 < z2 → K (Sum.inl (Sum.inl (Sum.inl (Value.bool true)))) { heap := [], ints := [], opqs := (0 : Nat), arrs := [some { elem := (94 : Nat), k := AK.o (Obj.rows [CK.n IntKind.i64, CK.n IntKind.i64, CK.n IntKind.i64] A), l := [], cap := e, ro := r }], junks := (0 : Nat) }))) := by kernel_rfl
end Go.Proofs.Ytbhdckphfgabiaa
end

section
set_option linter.unusedVariables false
set_option linter.unusedSimpArgs false
set_option maxRecDepth 10000
namespace Go.Proofs.Ytbhdckphfgabiaa
open Go Reck Ost
theorem hops_run (K : AV → St → Prop) (A B : Rws) (o n c p m d e f : Nat) (r s : Bool) (hA : o + n ≤ A.length) (hB : p + m ≤ B.length) (hn : n ≤ 4611686018427387904) (h1 : U.hE A o n B p m → K (lit (.bool true)) ⟨[], [], 0, [some (hpB A e r), some (hpB B f s)], 0⟩) (h2 : ¬ U.hE A o n B p m → K (lit (.bool false)) ⟨[], [], 0, [some (hpB A e r), some (hpB B f s)], 0⟩) : runR invH tbl0 42 [cell (rslC ⟨0, 3, o, n, c⟩), cell (rslC ⟨1, 3, p, m, d⟩)] ⟨[], [], 0, [some (hpB A e r), some (hpB B f s)], 0⟩ K := by
  rw [hops_vc]
  refine fun z0 h0 z1 h1' => ⟨fun h => h2 fun g => h (by have := g.out.1; omega), fun hnn z2 h2' => ⟨?_, ?_⟩⟩
  · refine ⟨0, ?_⟩
    repeat' (first | exact rfl | with_reducible apply And.intro)
    exact ⟨by omega, by omega, fun k hk => by omega⟩
  have hz : z0 = z1 := Classical.not_not.1 hnn
  rintro x ⟨x1, x2, x3⟩
  refine ⟨fun hi => ⟨⟨by omega, by omega⟩, fun j hj => ⟨by omega, fun z6 e6 z7 e7 z8 e8 => ⟨⟨by omega, by omega⟩, fun j9 hj9 => ⟨by omega, fun y6 g6 y7 g7 y8 g8 => ⟨fun hx => h2 fun g => hx ?_, fun hx z13 h13 => ?_⟩⟩⟩⟩⟩, fun hi => h1 ⟨by omega, fun k hk => x3 k (by omega)⟩⟩
  · have := g.out.2 (x.toNat) (by omega)
    rw [show o + x.toNat = j by omega, show p + x.toNat = j9 by omega, ← e6, ← e7, ← e8, ← g6, ← g7, ← g8] at this
    exact ⟨this.1, this.2.1, this.2.2, trivial⟩
  have hx := Classical.not_not.1 hx
  have e13 := iw h13 (by omega)
  refine ⟨z13, ?_⟩
  repeat' (first | exact rfl | with_reducible apply And.intro)
  · refine ⟨by omega, by omega, fun k hk => ?_⟩
    by_cases ek : (k : Int) = x
    · rw [show o + k = j by omega, show p + k = j9 by omega, ← e6, ← e7, ← e8, ← g6, ← g7, ← g8]
      exact ⟨hx.1, hx.2.1, hx.2.2.1⟩
    · exact x3 k (by omega)
  · omega
theorem hequ_run (K : AV → St → Prop) (A B : Rws) (o n c p m d e f : Nat) (r s : Bool) (hA : o + n ≤ A.length) (hB : p + m ≤ B.length) (hn : n ≤ 4611686018427387904) (h1 : U.hE A o n B p m → K (lit (.bool true)) ⟨[], [], 0, [some (hpB A e r), some (hpB B f s)], 0⟩) (h2 : ¬ U.hE A o n B p m → K (lit (.bool false)) ⟨[], [], 0, [some (hpB A e r), some (hpB B f s)], 0⟩) : runR invH tbl0 43 [cell (rslC ⟨0, 3, o, n, c⟩), cell (rslC ⟨1, 3, p, m, d⟩)] ⟨[], [], 0, [some (hpB A e r), some (hpB B f s)], 0⟩ K := by
  rw [hequ_vc]
  refine fun z0 h0 z1 h1' => ⟨fun h => h2 fun g => h (by have := g.out.1; omega), fun hnn z2 h2' => ⟨?_, ?_⟩⟩
  · refine ⟨0, ?_⟩
    repeat' (first | exact rfl | with_reducible apply And.intro)
    exact ⟨by omega, by omega, fun k hk => by omega⟩
  have hz : z0 = z1 := Classical.not_not.1 hnn
  rintro x ⟨x1, x2, x3⟩
  refine ⟨fun hi => ⟨⟨by omega, by omega⟩, fun j hj => ⟨by omega, fun z6 e6 z7 e7 z8 e8 => ⟨⟨by omega, by omega⟩, fun j9 hj9 => ⟨by omega, fun y6 g6 y7 g7 y8 g8 => ⟨fun hx => h2 fun g => hx ?_, fun hx z13 h13 => ?_⟩⟩⟩⟩⟩, fun hi => h1 ⟨by omega, fun k hk => x3 k (by omega)⟩⟩
  · have := g.out.2 (x.toNat) (by omega)
    rw [show o + x.toNat = j by omega, show p + x.toNat = j9 by omega, ← e6, ← e7, ← e8, ← g6, ← g7, ← g8] at this
    exact ⟨this.1, this.2.1, this.2.2, trivial⟩
  have hx := Classical.not_not.1 hx
  have e13 := iw h13 (by omega)
  refine ⟨z13, ?_⟩
  repeat' (first | exact rfl | with_reducible apply And.intro)
  · refine ⟨by omega, by omega, fun k hk => ?_⟩
    by_cases ek : (k : Int) = x
    · rw [show o + k = j by omega, show p + k = j9 by omega, ← e6, ← e7, ← e8, ← g6, ← g7, ← g8]
      exact ⟨hx.1, hx.2.1, hx.2.2.1⟩
    · exact x3 k (by omega)
  · omega
theorem hequ1_run (K : AV → St → Prop) (A : Rws) (o n c e : Nat) (r : Bool) (hA : o + n ≤ A.length) (hn : n ≤ 4611686018427387904) (h1 : U.hE A o n A o n → K (lit (.bool true)) ⟨[], [], 0, [some (hpB A e r)], 0⟩) (h2 : ¬ U.hE A o n A o n → K (lit (.bool false)) ⟨[], [], 0, [some (hpB A e r)], 0⟩) : runR invH tbl0 43 [cell (rslC ⟨0, 3, o, n, c⟩), cell (rslC ⟨0, 3, o, n, c⟩)] ⟨[], [], 0, [some (hpB A e r)], 0⟩ K := by
  rw [hequ1_vc]
  refine fun z0 h0 z1 h1' => ⟨fun h => h2 fun g => h (by have := g.out.1; omega), fun hnn z2 h2' => ⟨?_, ?_⟩⟩
  · refine ⟨0, ?_⟩
    repeat' (first | exact rfl | with_reducible apply And.intro)
    exact ⟨by omega, by omega, fun k hk => by omega⟩
  have hz : z0 = z1 := Classical.not_not.1 hnn
  rintro x ⟨x1, x2, x3⟩
  refine ⟨fun hi => ⟨⟨by omega, by omega⟩, fun j hj => ⟨by omega, fun z6 e6 z7 e7 z8 e8 => ⟨⟨by omega, by omega⟩, fun j9 hj9 => ⟨by omega, fun y6 g6 y7 g7 y8 g8 => ⟨fun hx => h2 fun g => hx ?_, fun hx z13 h13 => ?_⟩⟩⟩⟩⟩, fun hi => h1 ⟨by omega, fun k hk => x3 k (by omega)⟩⟩
  · obtain rfl : j9 = j := by omega
    exact ⟨e6.trans g6.symm, e7.trans g7.symm, e8.trans g8.symm, trivial⟩
  have hx := Classical.not_not.1 hx
  have e13 := iw h13 (by omega)
  refine ⟨z13, ?_⟩
  repeat' (first | exact rfl | with_reducible apply And.intro)
  · exact ⟨by omega, by omega, fun _ _ => ⟨rfl, rfl, rfl⟩⟩
  · omega
def phops : Pat := fun args σ => match args, σ with
  | [x, y], ⟨[], [], 0, [some ⟨94, .o (.rows ks A), [], e, r⟩, some ⟨94, .o (.rows ls B), [], f, s⟩], 0⟩ => match rslX x, rslX y, sameK ks hopKs, sameK ls hopKs with
    | some ⟨0, 3, o, n, c⟩, some ⟨1, 3, p, m, d⟩, true, true => some fun K => (o + n ≤ A.length ∧ p + m ≤ B.length ∧ n ≤ 4611686018427387904) ∧ (U.hE A o n B p m → K (lit (.bool true)) ⟨[], [], 0, [some (hpB A e r), some (hpB B f s)], 0⟩) ∧ (¬ U.hE A o n B p m → K (lit (.bool false)) ⟨[], [], 0, [some (hpB A e r), some (hpB B f s)], 0⟩)
    | _, _, _, _ => none
  | _, _ => none
theorem phops_ok : PatOk 42 phops := by
  intro tm σ C h K hK w0 ev w hk vs hvs
  unfold phops at h
  split at h
  · split at h
    · rename_i h0 h1 h2 h3
      simp only [Option.some.injEq] at h; subst h
      obtain ⟨⟨a1, a2, a3⟩, a4, a5⟩ := hK
      obtain rfl := rslX_eq h0
      obtain rfl := rslX_eq h1
      obtain rfl := sameK_eq h2
      obtain rfl := sameK_eq h3
      exact knownC noOv names (conOk_ofR tbl0_ok) (hops_run K _ _ _ _ _ _ _ _ _ _ _ _ a1 a2 a3 a4 a5) w0 ev w hk vs hvs
    · cases h
  · cases h
def phequ : Pat := fun args σ => match args, σ with
  | [x, y], ⟨[], [], 0, [some ⟨94, .o (.rows ks A), [], e, r⟩, some ⟨94, .o (.rows ls B), [], f, s⟩], 0⟩ => match rslX x, rslX y, sameK ks hopKs, sameK ls hopKs with
    | some ⟨0, 3, o, n, c⟩, some ⟨1, 3, p, m, d⟩, true, true => some fun K => (o + n ≤ A.length ∧ p + m ≤ B.length ∧ n ≤ 4611686018427387904) ∧ (U.hE A o n B p m → K (lit (.bool true)) ⟨[], [], 0, [some (hpB A e r), some (hpB B f s)], 0⟩) ∧ (¬ U.hE A o n B p m → K (lit (.bool false)) ⟨[], [], 0, [some (hpB A e r), some (hpB B f s)], 0⟩)
    | _, _, _, _ => none
  | _, _ => none
theorem phequ_ok : PatOk 43 phequ := by
  intro tm σ C h K hK w0 ev w hk vs hvs
  unfold phequ at h
  split at h
  · split at h
    · rename_i h0 h1 h2 h3
      simp only [Option.some.injEq] at h; subst h
      obtain ⟨⟨a1, a2, a3⟩, a4, a5⟩ := hK
      obtain rfl := rslX_eq h0
      obtain rfl := rslX_eq h1
      obtain rfl := sameK_eq h2
      obtain rfl := sameK_eq h3
      exact knownC noOv names (conOk_ofR tbl0_ok) (hequ_run K _ _ _ _ _ _ _ _ _ _ _ _ a1 a2 a3 a4 a5) w0 ev w hk vs hvs
    · cases h
  · cases h
theorem hE_refl (A : Rws) (o n : Nat) : U.hE A o n A o n := ⟨rfl, fun _ _ => ⟨rfl, rfl, rfl⟩⟩
def phequ1 : Pat := fun args σ => match args, σ with
  | [x, y], ⟨[], [], 0, [some ⟨94, .o (.rows ks A), [], e, r⟩], 0⟩ => match rslX x, rslX y, sameK ks hopKs with
    | some ⟨0, 3, o, n, c⟩, some ⟨0, 3, p, m, d⟩, true => some fun K => (o + n ≤ A.length ∧ n ≤ 4611686018427387904 ∧ p = o ∧ m = n ∧ d = c) ∧ K (lit (.bool true)) ⟨[], [], 0, [some (hpB A e r)], 0⟩
    | _, _, _ => none
  | _, _ => none
theorem phequ1_ok : PatOk 43 phequ1 := by
  intro tm σ C h K hK w0 ev w hk vs hvs
  unfold phequ1 at h
  split at h
  · split at h
    · rename_i h0 h1 h2
      simp only [Option.some.injEq] at h; subst h
      obtain ⟨⟨a1, a3, rfl, rfl, rfl⟩, a4⟩ := hK
      obtain rfl := rslX_eq h0
      obtain rfl := rslX_eq h1
      obtain rfl := sameK_eq h2
      exact knownC noOv names (conOk_ofR tbl0_ok) (hequ1_run K _ _ _ _ _ _ a1 a3 (fun _ => a4) (fun h => (h (hE_refl _ _ _)).elim)) w0 ev w hk vs hvs
    · cases h
  · cases h
def tH : Tbl := tblOr (tblIf 42 phops) (tblOr (tblIf 43 phequ) (tblIf 43 phequ1))
theorem tH_ok : TblOk Try.prog tH := tblOr_ok (tblIf_ok phops_ok) (tblOr_ok (tblIf_ok phequ_ok) (tblIf_ok phequ1_ok))
end Go.Proofs.Ytbhdckphfgabiaa
end

section
namespace Go.Proofs.Ytbhdckphfgabiaa
open Go Reck Ost
set_option linter.unusedVariables false
set_option maxRecDepth 100000
--PLAIN
theorem lsame_vc (K : AV → St → Prop) (z0 : Int) (z1 : Int) (z2 : Int) (z3 : Int) (z4 : Int) (z5 : Int) (z6 : Int) (z7 : Int) (z8 : Int) (z9 : Int) (z10 : Int) (z11 : Int) (z12 : Int) (l13 : List Int) (l14 : List Int) (l15 : List Int) (l16 : List Int) (z17 : Int) (z18 : Int) (z0b : Int) (z1b : Int) (z2b : Int) (z3b : Int) (z4b : Int) (z5b : Int) (z6b : Int) (z7b : Int) (z8b : Int) (z9b : Int) (z10b : Int) (z11b : Int) (z12b : Int) (l13b : List Int) (l14b : List Int) (l15b : List Int) (l16b : List Int) (z17b : Int) (z18b : Int) (A B : Rws) (o n c p m d e f : Nat) : (runR inv0 tH 21 [.inl (.inr (flC z0 z1 z2 z3 z4 z5 z6 z7 z8 z9 z10 z11 z12 l13 l14 l15 l16 z17 z18 (rslC ⟨0, 3, o, n, c⟩))), .inl (.inr (flC z0b z1b z2b z3b z4b z5b z6b z7b z8b z9b z10b z11b z12b l13b l14b l15b l16b z17b z18b (rslC ⟨1, 3, p, m, d⟩)))] ⟨[], [], 0, [some (hpB A e true), some (hpB B f true)], 0⟩ K) = ((z0 = z0b → (z1 = z1b → (z2 = z2b ∧ z3 = z3b ∧ z4 = z4b ∧ z5 = z5b ∧ z6 = z6b ∧ z7 = z7b ∧ z8 = z8b ∧ True → (z9 = z9b ∧ z10 = z10b ∧ True → (z11 = z11b ∧ z12 = z12b ∧ True → (l13 = l13b ∧ l14 = l14b ∧ True → (l15 = l15b ∧ l16 = l16b ∧ True → (z17 = z17b → (z18 = z18b → (o + n ≤ List.length A ∧ p + m ≤ List.length B ∧ n ≤ (4611686018427387904 : Nat)) ∧ (U.hE A o n B p m → K (Sum.inl (Sum.inl (Sum.inl (Value.bool true)))) { heap := [], ints := [], opqs := (0 : Nat), arrs := [some { elem := (94 : Nat), k := AK.o (Obj.rows [CK.n IntKind.i64, CK.n IntKind.i64, CK.n IntKind.i64] A), l := [], cap := e, ro := true }, some { elem := (94 : Nat), k := AK.o (Obj.rows [CK.n IntKind.i64, CK.n IntKind.i64, CK.n IntKind.i64] B), l := [], cap := f, ro := true }], junks := (0 : Nat) }) ∧ (¬U.hE A o n B p m → K (Sum.inl (Sum.inl (Sum.inl (Value.bool false)))) { heap := [], ints := [], opqs := (0 : Nat), arrs := [some { elem := (94 : Nat), k := AK.o (Obj.rows [CK.n IntKind.i64, CK.n IntKind.i64, CK.n IntKind.i64] A), l := [], cap := e, ro := true }, some { elem := (94 : Nat), k := AK.o (Obj.rows [CK.n IntKind.i64, CK.n IntKind.i64, CK.n IntKind.i64] B), l := [], cap := f, ro := true }], junks := (0 : Nat) })) ∧ (¬z18 = z18b → K (Sum.inl (Sum.inl (Sum.inl (Value.bool false)))) { heap := [], ints := [], opqs := (0 : Nat), arrs := [some { elem := (94 : Nat), k := AK.o (Obj.rows [CK.n IntKind.i64, CK.n IntKind.i64, CK.n IntKind.i64] A), l := [], cap := e, ro := true }, some { elem := (94 : Nat), k := AK.o (Obj.rows [CK.n IntKind.i64, CK.n IntKind.i64, CK.n IntKind.i64] B), l := [], cap := f, ro := true }], junks := (0 : Nat) })) ∧ (¬z17 = z17b → K (Sum.inl (Sum.inl (Sum.inl (Value.bool false)))) { heap := [], ints := [], opqs := (0 : Nat), arrs := [some { elem := (94 : Nat), k := AK.o (Obj.rows [CK.n IntKind.i64, CK.n IntKind.i64, CK.n IntKind.i64] A), l := [], cap := e, ro := true }, some { elem := (94 : Nat), k := AK.o (Obj.rows [CK.n IntKind.i64, CK.n IntKind.i64, CK.n IntKind.i64] B), l := [], cap := f, ro := true }], junks := (0 : Nat) })) ∧ (¬(l15 = l15b ∧ l16 = l16b ∧ True) → K (Sum.inl (Sum.inl (Sum.inl (Value.bool false)))) { heap := [], ints := [], opqs := (0 : Nat), arrs := [some { elem := (94 : Nat), k := AK.o (Obj.rows [CK.n IntKind.i64, CK.n IntKind.i64, CK.n IntKind.i64] A), l := [], cap := e, ro := true }, some { elem := (94 : Nat), k := AK.o (Obj.rows [CK.n IntKind.i64, CK.n IntKind.i64, CK.n IntKind.i64] B), l := [], cap := f, ro := true }], junks := (0 : Nat) })) ∧ (¬(l13 = l13b ∧ l14 = l14b ∧ True) → K (Sum.inl (Sum.inl (Sum.inl (Value.bool false)))) { heap := [], ints := [], opqs := (0 : Nat), arrs := [some { elem := (94 : Nat), k := AK.o (Obj.rows [CK.n IntKind.i64, CK.n IntKind.i64, CK.n IntKind.i64] A), l := [], cap := e, ro := true }, some { elem := (94 : Nat), k := AK.o (Obj.rows [CK.n IntKind.i64, CK.n IntKind.i64, CK.n IntKind.i64] B), l := [], cap := f, ro := true }], junks := (0 : Nat) })) ∧ (¬(z11 = z11b ∧ z12 = z12b ∧ True) → K (Sum.inl (Sum.inl (Sum.inl (Value.bool false)))) { heap := [], ints := [], opqs := (0 : Nat), arrs := [some { elem := (94 : Nat), k := AK.o (Obj.rows [CK.n IntKind.i64, CK.n IntKind.i64, CK.n IntKind.i64] A), l := [], cap := e, ro := true }, some { elem := (94 : Nat), k := AK.o (Obj.rows [CK.n IntKind.i64, CK.n IntKind.i64, CK.n IntKind.i64] B), l := [], cap := f, ro := true }], junks := (0 : Nat) })) ∧ (¬(z9 = z9b ∧ z10 = z10b ∧ True) → K (Sum.inl (Sum.inl (Sum.inl (Value.bool false)))) { heap := [], ints := [], opqs := (0 : Nat), arrs := [some { elem := (94 : Nat), k := AK.o (Obj.rows [CK.n IntKind.i64, CK.n IntKind.i64, CK.n IntKind.i64] A), l := [], cap := e, ro := true }, some { elem := (94 : Nat), k := AK.o (Obj.rows [CK.n IntKind.i64, CK.n IntKind.i64, CK.n IntKind.i64] B), l := [], cap := f, ro := true }], junks := (0 : Nat) })) ∧ (¬(z2 = z2b ∧ z3 = z3b ∧ z4 = z4b ∧ z5 = z5b ∧ z6 = z6b ∧ z7 = z7b ∧ z8 = z8b ∧ True) → K (Sum.inl (Sum.inl (Sum.inl (Value.bool false)))) { heap := [], ints := [], opqs := (0 : Nat), arrs := [some { elem := (94 : Nat), k := AK.o (Obj.rows [CK.n IntKind.i64, CK.n IntKind.i64, CK.n IntKind.i64] A), l := [], cap := e, ro := true }, some { elem := (94 : Nat), k := AK.o (Obj.rows [CK.n IntKind.i64, CK.n IntKind.i64, CK.n IntKind.i64] B), l := [], cap := f, ro := true }], junks := (0 : Nat) })) ∧ (¬z1 = z1b → K (Sum.inl (Sum.inl (Sum.inl (Value.bool false)))) { heap := [], ints := [], opqs := (0 : Nat), arrs := [some { elem := (94 : Nat), k := AK.o (Obj.rows [CK.n IntKind.i64, CK.n IntKind.i64, CK.n IntKind.i64] A), l := [], cap := e, ro := true }, some { elem := (94 : Nat), k := AK.o (Obj.rows [CK.n IntKind.i64, CK.n IntKind.i64, CK.n IntKind.i64] B), l := [], cap := f, ro := true }], junks := (0 : Nat) })) ∧ (¬z0 = z0b → K (Sum.inl (Sum.inl (Sum.inl (Value.bool false)))) { heap := [], ints := [], opqs := (0 : Nat), arrs := [some { elem := (94 : Nat), k := AK.o (Obj.rows [CK.n IntKind.i64, CK.n IntKind.i64, CK.n IntKind.i64] A), l := [], cap := e, ro := true }, some { elem := (94 : Nat), k := AK.o (Obj.rows [CK.n IntKind.i64, CK.n IntKind.i64, CK.n IntKind.i64] B), l := [], cap := f, ro := true }], junks := (0 : Nat) })) := by kernel_rfl
theorem lsame1_vc (K : AV → St → Prop) (z0 : Int) (z1 : Int) (z2 : Int) (z3 : Int) (z4 : Int) (z5 : Int) (z6 : Int) (z7 : Int) (z8 : Int) (z9 : Int) (z10 : Int) (z11 : Int) (z12 : Int) (l13 : List Int) (l14 : List Int) (l15 : List Int) (l16 : List Int) (z17 : Int) (z18 : Int) (A : Rws) (o n c e : Nat) : (runR inv0 tH 21 [.inl (.inr (flC z0 z1 z2 z3 z4 z5 z6 z7 z8 z9 z10 z11 z12 l13 l14 l15 l16 z17 z18 (rslC ⟨0, 3, o, n, c⟩))), .inl (.inr (flC z0 z1 z2 z3 z4 z5 z6 z7 z8 z9 z10 z11 z12 l13 l14 l15 l16 z17 z18 (rslC ⟨0, 3, o, n, c⟩)))] ⟨[], [], 0, [some (hpB A e true)], 0⟩ K) = ((z0 = z0 → (z1 = z1 → (z2 = z2 ∧ z3 = z3 ∧ z4 = z4 ∧ z5 = z5 ∧ z6 = z6 ∧ z7 = z7 ∧ z8 = z8 ∧ True → (z9 = z9 ∧ z10 = z10 ∧ True → (z11 = z11 ∧ z12 = z12 ∧ True → (l13 = l13 ∧ l14 = l14 ∧ True → (l15 = l15 ∧ l16 = l16 ∧ True → (z17 = z17 → (z18 = z18 → (o + n ≤ List.length A ∧ n ≤ (4611686018427387904 : Nat) ∧ o = o ∧ n = n ∧ c = c) ∧ K (Sum.inl (Sum.inl (Sum.inl (Value.bool true)))) { heap := [], ints := [], opqs := (0 : Nat), arrs := [some { elem := (94 : Nat), k := AK.o (Obj.rows [CK.n IntKind.i64, CK.n IntKind.i64, CK.n IntKind.i64] A), l := [], cap := e, ro := true }], junks := (0 : Nat) }) ∧ (¬z18 = z18 → K (Sum.inl (Sum.inl (Sum.inl (Value.bool false)))) { heap := [], ints := [], opqs := (0 : Nat), arrs := [some { elem := (94 : Nat), k := AK.o (Obj.rows [CK.n IntKind.i64, CK.n IntKind.i64, CK.n IntKind.i64] A), l := [], cap := e, ro := true }], junks := (0 : Nat) })) ∧ (¬z17 = z17 → K (Sum.inl (Sum.inl (Sum.inl (Value.bool false)))) { heap := [], ints := [], opqs := (0 : Nat), arrs := [some { elem := (94 : Nat), k := AK.o (Obj.rows [CK.n IntKind.i64, CK.n IntKind.i64, CK.n IntKind.i64] A), l := [], cap := e, ro := true }], junks := (0 : Nat) })) ∧ (¬(l15 = l15 ∧ l16 = l16 ∧ True) → K (Sum.inl (Sum.inl (Sum.inl (Value.bool false)))) { heap := [], ints := [], opqs := (0 : Nat), arrs := [some { elem := (94 : Nat), k := AK.o (Obj.rows [CK.n IntKind.i64, CK.n IntKind.i64, CK.n IntKind.i64] A), l := [], cap := e, ro := true }], junks := (0 : Nat) })) ∧ (¬(l13 = l13 ∧ l14 = l14 ∧ True) → K (Sum.inl (Sum.inl (Sum.inl (Value.bool false)))) { heap := [], ints := [], opqs := (0 : Nat), arrs := [some { elem := (94 : Nat), k := AK.o (Obj.rows [CK.n IntKind.i64, CK.n IntKind.i64, CK.n IntKind.i64] A), l := [], cap := e, ro := true }], junks := (0 : Nat) })) ∧ (¬(z11 = z11 ∧ z12 = z12 ∧ True) → K (Sum.inl (Sum.inl (Sum.inl (Value.bool false)))) { heap := [], ints := [], opqs := (0 : Nat), arrs := [some { elem := (94 : Nat), k := AK.o (Obj.rows [CK.n IntKind.i64, CK.n IntKind.i64, CK.n IntKind.i64] A), l := [], cap := e, ro := true }], junks := (0 : Nat) })) ∧ (¬(z9 = z9 ∧ z10 = z10 ∧ True) → K (Sum.inl (Sum.inl (Sum.inl (Value.bool false)))) { heap := [], ints := [], opqs := (0 : Nat), arrs := [some { elem := (94 : Nat), k := AK.o (Obj.rows [CK.n IntKind.i64, CK.n IntKind.i64, CK.n IntKind.i64] A), l := [], cap := e, ro := true }], junks := (0 : Nat) })) ∧ (¬(z2 = z2 ∧ z3 = z3 ∧ z4 = z4 ∧ z5 = z5 ∧ z6 = z6 ∧ z7 = z7 ∧ z8 = z8 ∧ True) → K (Sum.inl (Sum.inl (Sum.inl (Value.bool false)))) { heap := [], ints := [], opqs := (0 : Nat), arrs := [some { elem := (94 : Nat), k := AK.o (Obj.rows [CK.n IntKind.i64, CK.n IntKind.i64, CK.n IntKind.i64] A), l := [], cap := e, ro := true }], junks := (0 : Nat) })) ∧ (¬z1 = z1 → K (Sum.inl (Sum.inl (Sum.inl (Value.bool false)))) { heap := [], ints := [], opqs := (0 : Nat), arrs := [some { elem := (94 : Nat), k := AK.o (Obj.rows [CK.n IntKind.i64, CK.n IntKind.i64, CK.n IntKind.i64] A), l := [], cap := e, ro := true }], junks := (0 : Nat) })) ∧ (¬z0 = z0 → K (Sum.inl (Sum.inl (Sum.inl (Value.bool false)))) { heap := [], ints := [], opqs := (0 : Nat), arrs := [some { elem := (94 : Nat), k := AK.o (Obj.rows [CK.n IntKind.i64, CK.n IntKind.i64, CK.n IntKind.i64] A), l := [], cap := e, ro := true }], junks := (0 : Nat) })) := by kernel_rfl
theorem rsame_vc (K : AV → St → Prop) (z0 : Int) (z1 : Int) (z2 : Int) (z3 : Int) (z4 : Int) (z5 : Int) (z6 : Int) (z7 : Int) (z8 : Int) (z9 : Int) (z10 : Int) (z11 : Int) (z12 : Int) (l13 : List Int) (l14 : List Int) (l15 : List Int) (l16 : List Int) (z17 : Int) (z18 : Int) (z0b : Int) (z1b : Int) (z2b : Int) (z3b : Int) (z4b : Int) (z5b : Int) (z6b : Int) (z7b : Int) (z8b : Int) (z9b : Int) (z10b : Int) (z11b : Int) (z12b : Int) (l13b : List Int) (l14b : List Int) (l15b : List Int) (l16b : List Int) (z17b : Int) (z18b : Int) (A B : Rws) (o n c p m d e f : Nat) : (runR inv0 tH 22 [.inl (.inr (flC z0 z1 z2 z3 z4 z5 z6 z7 z8 z9 z10 z11 z12 l13 l14 l15 l16 z17 z18 (rslC ⟨0, 3, o, n, c⟩))), .inl (.inr (flC z0b z1b z2b z3b z4b z5b z6b z7b z8b z9b z10b z11b z12b l13b l14b l15b l16b z17b z18b (rslC ⟨1, 3, p, m, d⟩)))] ⟨[], [], 0, [some (hpB A e true), some (hpB B f true)], 0⟩ K) = ((o + n ≤ List.length A ∧ p + m ≤ List.length B ∧ n ≤ (4611686018427387904 : Nat)) ∧ (U.hE A o n B p m → (z0 = z0b → (z1 = z1b → (z2 = z2b ∧ z3 = z3b ∧ z4 = z4b ∧ z5 = z5b ∧ z6 = z6b ∧ z7 = z7b ∧ z8 = z8b ∧ True → (z9 = z9b ∧ z10 = z10b ∧ True → (z11 = z11b ∧ z12 = z12b ∧ True → (l13 = l13b ∧ l14 = l14b ∧ True → (l15 = l15b ∧ l16 = l16b ∧ True → (z17 = z17b → (z18 = z18b → K (Sum.inl (Sum.inl (Sum.inl (Value.bool true)))) { heap := [], ints := [], opqs := (0 : Nat), arrs := [some { elem := (94 : Nat), k := AK.o (Obj.rows [CK.n IntKind.i64, CK.n IntKind.i64, CK.n IntKind.i64] A), l := [], cap := e, ro := true }, some { elem := (94 : Nat), k := AK.o (Obj.rows [CK.n IntKind.i64, CK.n IntKind.i64, CK.n IntKind.i64] B), l := [], cap := f, ro := true }], junks := (0 : Nat) }) ∧ (¬z18 = z18b → K (Sum.inl (Sum.inl (Sum.inl (Value.bool false)))) { heap := [], ints := [], opqs := (0 : Nat), arrs := [some { elem := (94 : Nat), k := AK.o (Obj.rows [CK.n IntKind.i64, CK.n IntKind.i64, CK.n IntKind.i64] A), l := [], cap := e, ro := true }, some { elem := (94 : Nat), k := AK.o (Obj.rows [CK.n IntKind.i64, CK.n IntKind.i64, CK.n IntKind.i64] B), l := [], cap := f, ro := true }], junks := (0 : Nat) })) ∧ (¬z17 = z17b → K (Sum.inl (Sum.inl (Sum.inl (Value.bool false)))) { heap := [], ints := [], opqs := (0 : Nat), arrs := [some { elem := (94 : Nat), k := AK.o (Obj.rows [CK.n IntKind.i64, CK.n IntKind.i64, CK.n IntKind.i64] A), l := [], cap := e, ro := true }, some { elem := (94 : Nat), k := AK.o (Obj.rows [CK.n IntKind.i64, CK.n IntKind.i64, CK.n IntKind.i64] B), l := [], cap := f, ro := true }], junks := (0 : Nat) })) ∧ (¬(l15 = l15b ∧ l16 = l16b ∧ True) → K (Sum.inl (Sum.inl (Sum.inl (Value.bool false)))) { heap := [], ints := [], opqs := (0 : Nat), arrs := [some { elem := (94 : Nat), k := AK.o (Obj.rows [CK.n IntKind.i64, CK.n IntKind.i64, CK.n IntKind.i64] A), l := [], cap := e, ro := true }, some { elem := (94 : Nat), k := AK.o (Obj.rows [CK.n IntKind.i64, CK.n IntKind.i64, CK.n IntKind.i64] B), l := [], cap := f, ro := true }], junks := (0 : Nat) })) ∧ (¬(l13 = l13b ∧ l14 = l14b ∧ True) → K (Sum.inl (Sum.inl (Sum.inl (Value.bool false)))) { heap := [], ints := [], opqs := (0 : Nat), arrs := [some { elem := (94 : Nat), k := AK.o (Obj.rows [CK.n IntKind.i64, CK.n IntKind.i64, CK.n IntKind.i64] A), l := [], cap := e, ro := true }, some { elem := (94 : Nat), k := AK.o (Obj.rows [CK.n IntKind.i64, CK.n IntKind.i64, CK.n IntKind.i64] B), l := [], cap := f, ro := true }], junks := (0 : Nat) })) ∧ (¬(z11 = z11b ∧ z12 = z12b ∧ True) → K (Sum.inl (Sum.inl (Sum.inl (Value.bool false)))) { heap := [], ints := [], opqs := (0 : Nat), arrs := [some { elem := (94 : Nat), k := AK.o (Obj.rows [CK.n IntKind.i64, CK.n IntKind.i64, CK.n IntKind.i64] A), l := [], cap := e, ro := true }, some { elem := (94 : Nat), k := AK.o (Obj.rows [CK.n IntKind.i64, CK.n IntKind.i64, CK.n IntKind.i64] B), l := [], cap := f, ro := true }], junks := (0 : Nat) })) ∧ (¬(z9 = z9b ∧ z10 = z10b ∧ True) → K (Sum.inl (Sum.inl (Sum.inl (Value.bool false)))) { heap := [], ints := [], opqs := (0 : Nat), arrs := [some { elem := (94 : Nat), k := AK.o (Obj.rows [CK.n IntKind.i64, CK.n IntKind.i64, CK.n IntKind.i64] A), l := [], cap := e, ro := true }, some { elem := (94 : Nat), k := AK.o (Obj.rows [CK.n IntKind.i64, CK.n IntKind.i64, CK.n IntKind.i64] B), l := [], cap := f, ro := true }], junks := (0 : Nat) })) ∧ (¬(z2 = z2b ∧ z3 = z3b ∧ z4 = z4b ∧ z5 = z5b ∧ z6 = z6b ∧ z7 = z7b ∧ z8 = z8b ∧ True) → K (Sum.inl (Sum.inl (Sum.inl (Value.bool false)))) { heap := [], ints := [], opqs := (0 : Nat), arrs := [some { elem := (94 : Nat), k := AK.o (Obj.rows [CK.n IntKind.i64, CK.n IntKind.i64, CK.n IntKind.i64] A), l := [], cap := e, ro := true }, some { elem := (94 : Nat), k := AK.o (Obj.rows [CK.n IntKind.i64, CK.n IntKind.i64, CK.n IntKind.i64] B), l := [], cap := f, ro := true }], junks := (0 : Nat) })) ∧ (¬z1 = z1b → K (Sum.inl (Sum.inl (Sum.inl (Value.bool false)))) { heap := [], ints := [], opqs := (0 : Nat), arrs := [some { elem := (94 : Nat), k := AK.o (Obj.rows [CK.n IntKind.i64, CK.n IntKind.i64, CK.n IntKind.i64] A), l := [], cap := e, ro := true }, some { elem := (94 : Nat), k := AK.o (Obj.rows [CK.n IntKind.i64, CK.n IntKind.i64, CK.n IntKind.i64] B), l := [], cap := f, ro := true }], junks := (0 : Nat) })) ∧ (¬z0 = z0b → K (Sum.inl (Sum.inl (Sum.inl (Value.bool false)))) { heap := [], ints := [], opqs := (0 : Nat), arrs := [some { elem := (94 : Nat), k := AK.o (Obj.rows [CK.n IntKind.i64, CK.n IntKind.i64, CK.n IntKind.i64] A), l := [], cap := e, ro := true }, some { elem := (94 : Nat), k := AK.o (Obj.rows [CK.n IntKind.i64, CK.n IntKind.i64, CK.n IntKind.i64] B), l := [], cap := f, ro := true }], junks := (0 : Nat) })) ∧ (¬U.hE A o n B p m → K (Sum.inl (Sum.inl (Sum.inl (Value.bool false)))) { heap := [], ints := [], opqs := (0 : Nat), arrs := [some { elem := (94 : Nat), k := AK.o (Obj.rows [CK.n IntKind.i64, CK.n IntKind.i64, CK.n IntKind.i64] A), l := [], cap := e, ro := true }, some { elem := (94 : Nat), k := AK.o (Obj.rows [CK.n IntKind.i64, CK.n IntKind.i64, CK.n IntKind.i64] B), l := [], cap := f, ro := true }], junks := (0 : Nat) })) := by kernel_rfl
end Go.Proofs.Ytbhdckphfgabiaa
end

section
set_option linter.unusedVariables false
set_option linter.unusedSimpArgs false
set_option maxRecDepth 10000
namespace Go.Proofs.Ytbhdckphfgabiaa
open Go Reck Ost
structure FlV where
  (z0 z1 z2 z3 z4 z5 z6 z7 z8 z9 z10 z11 z12 : Int)
  (l13 l14 l15 l16 : List Int)
  (z17 z18 : Int)
def cx1 (k : IntKind) : Cell → Option Int
  | .inr (.inr (.inr (.inr (.inr (.inr (.inl (k', x))))))) => if k' = k then some x else none
  | _ => none
theorem cx1_eq {k : IntKind} {c : Cell} {x : Int} (h : cx1 k c = some x) : c = xintC k x := by
  unfold cx1 at h
  split at h
  · split at h
    · rename_i e; simp only [Option.some.injEq] at h; subst h; subst e; rfl
    · cases h
  · cases h
def cs1 : Cell → Option (List Int)
  | .inr (.inr (.inr (.inr (.inr (.inr (.inr (.inr (.inr (.inr (.inl l)))))))))) => some l
  | _ => none
theorem cs1_eq {c : Cell} {x : List Int} (h : cs1 c = some x) : c = strC x := by
  unfold cs1 at h
  split at h
  · simp only [Option.some.injEq] at h; subst h; rfl
  · cases h
def cr1 : Cell → Option RSl
  | .inr (.inr (.inr (.inr (.inr (.inr (.inr (.inr (.inr (.inr (.inr (.inl l))))))))))) => some l
  | _ => none
theorem cr1_eq {c : Cell} {x : RSl} (h : cr1 c = some x) : c = rslC x := by
  unfold cr1 at h
  split at h
  · simp only [Option.some.injEq] at h; subst h; rfl
  · cases h
def flA (v : FlV) (s : RSl) : AV := .inl (.inr (flC v.z0 v.z1 v.z2 v.z3 v.z4 v.z5 v.z6 v.z7 v.z8 v.z9 v.z10 v.z11 v.z12 v.l13 v.l14 v.l15 v.l16 v.z17 v.z18 (rslC s)))
def flX : AV → Option (FlV × RSl)
  | .inl (.inr [c0, c1, c2, c3, c4, c5, c6, c7, c8, c9, c10, c11, c12, c13, c14, c15, c16, c17, c18, c19]) => (cx1 .u32 c0).bind fun z0 => (cx1 .u32 c1).bind fun z1 => (cx1 .u64 c2).bind fun z2 => (cx1 .u64 c3).bind fun z3 => (cx1 .u32 c4).bind fun z4 => (cx1 .u32 c5).bind fun z5 => (cx1 .i64 c6).bind fun z6 => (cx1 .i64 c7).bind fun z7 => (cx1 .i64 c8).bind fun z8 => (cx1 .i64 c9).bind fun z9 => (cx1 .i64 c10).bind fun z10 => (cx1 .i64 c11).bind fun z11 => (cx1 .i64 c12).bind fun z12 => (cs1 c13).bind fun l13 => (cs1 c14).bind fun l14 => (cs1 c15).bind fun l15 => (cs1 c16).bind fun l16 => (cx1 .i64 c17).bind fun z17 => (cx1 .i64 c18).bind fun z18 => (cr1 c19).bind fun s => some (⟨z0, z1, z2, z3, z4, z5, z6, z7, z8, z9, z10, z11, z12, l13, l14, l15, l16, z17, z18⟩, s)
  | _ => none
theorem flX_eq {x : AV} {v : FlV} {s : RSl} (h : flX x = some (v, s)) : x = flA v s := by
  unfold flX at h
  split at h
  · simp only [Option.bind_eq_some_iff, Option.some.injEq, Prod.mk.injEq] at h
    obtain ⟨z0, h0, z1, h1, z2, h2, z3, h3, z4, h4, z5, h5, z6, h6, z7, h7, z8, h8, z9, h9, z10, h10, z11, h11, z12, h12, l13, h13, l14, h14, l15, h15, l16, h16, z17, h17, z18, h18, s, h19, rfl, rfl⟩ := h
    rw [cx1_eq h0, cx1_eq h1, cx1_eq h2, cx1_eq h3, cx1_eq h4, cx1_eq h5, cx1_eq h6, cx1_eq h7, cx1_eq h8, cx1_eq h9, cx1_eq h10, cx1_eq h11, cx1_eq h12, cs1_eq h13, cs1_eq h14, cs1_eq h15, cs1_eq h16, cx1_eq h17, cx1_eq h18, cr1_eq h19]; rfl
  · cases h
def U.flE (v w : FlV) : Prop := (v.z0 = w.z0) ∧ (v.z1 = w.z1) ∧ (v.z2 = w.z2 ∧ v.z3 = w.z3 ∧ v.z4 = w.z4 ∧ v.z5 = w.z5 ∧ v.z6 = w.z6 ∧ v.z7 = w.z7 ∧ v.z8 = w.z8 ∧ True) ∧ (v.z9 = w.z9 ∧ v.z10 = w.z10 ∧ True) ∧ (v.z11 = w.z11 ∧ v.z12 = w.z12 ∧ True) ∧ (v.l13 = w.l13 ∧ v.l14 = w.l14 ∧ True) ∧ (v.l15 = w.l15 ∧ v.l16 = w.l16 ∧ True) ∧ (v.z17 = w.z17) ∧ (v.z18 = w.z18)
theorem lsame_run (K : AV → St → Prop) (v w : FlV) (A B : Rws) (o n c p m d e f : Nat) (hA : o + n ≤ A.length) (hB : p + m ≤ B.length) (hn : n ≤ 4611686018427387904) (h1 : U.flE v w → U.hE A o n B p m → K (lit (.bool true)) ⟨[], [], 0, [some (hpB A e true), some (hpB B f true)], 0⟩) (h2 : ¬ (U.flE v w ∧ U.hE A o n B p m) → K (lit (.bool false)) ⟨[], [], 0, [some (hpB A e true), some (hpB B f true)], 0⟩) : runR inv0 tH 21 [flA v ⟨0, 3, o, n, c⟩, flA w ⟨1, 3, p, m, d⟩] ⟨[], [], 0, [some (hpB A e true), some (hpB B f true)], 0⟩ K := by
  unfold flA
  rw [lsame_vc]
  exact ⟨fun a0 => ⟨fun a1 => ⟨fun a2 => ⟨fun a3 => ⟨fun a4 => ⟨fun a5 => ⟨fun a6 => ⟨fun a7 => ⟨fun a8 => ⟨⟨hA, hB, hn⟩, fun b => h1 ⟨a0, a1, a2, a3, a4, a5, a6, a7, a8⟩ b, fun b => h2 fun h => b h.2⟩, fun b => h2 fun h => b h.1.2.2.2.2.2.2.2.2⟩, fun b => h2 fun h => b h.1.2.2.2.2.2.2.2.1⟩, fun b => h2 fun h => b h.1.2.2.2.2.2.2.1⟩, fun b => h2 fun h => b h.1.2.2.2.2.2.1⟩, fun b => h2 fun h => b h.1.2.2.2.2.1⟩, fun b => h2 fun h => b h.1.2.2.2.1⟩, fun b => h2 fun h => b h.1.2.2.1⟩, fun b => h2 fun h => b h.1.2.1⟩, fun b => h2 fun h => b h.1.1⟩
def plsame : Pat := fun args σ => match args, σ with
  | [x, y], ⟨[], [], 0, [some ⟨94, .o (.rows ks A), [], e, true⟩, some ⟨94, .o (.rows ls B), [], f, true⟩], 0⟩ => match flX x, flX y, sameK ks hopKs, sameK ls hopKs with
    | some (v, ⟨0, 3, o, n, c⟩), some (w, ⟨1, 3, p, m, d⟩), true, true => some fun K => (o + n ≤ A.length ∧ p + m ≤ B.length ∧ n ≤ 4611686018427387904) ∧ (U.flE v w → U.hE A o n B p m → K (lit (.bool true)) ⟨[], [], 0, [some (hpB A e true), some (hpB B f true)], 0⟩) ∧ (¬ (U.flE v w ∧ U.hE A o n B p m) → K (lit (.bool false)) ⟨[], [], 0, [some (hpB A e true), some (hpB B f true)], 0⟩)
    | _, _, _, _ => none
  | _, _ => none
theorem plsame_ok : PatOk 21 plsame := by
  intro tm σ C h K hK w0 ev w hk vs hvs
  unfold plsame at h
  split at h
  · split at h
    · rename_i h0 h1 h2 h3
      simp only [Option.some.injEq] at h; subst h
      obtain ⟨⟨a1, a2, a3⟩, a4, a5⟩ := hK
      obtain rfl := flX_eq h0
      obtain rfl := flX_eq h1
      obtain rfl := sameK_eq h2
      obtain rfl := sameK_eq h3
      exact knownC noOv names (conOk_ofR tH_ok) (lsame_run K _ _ _ _ _ _ _ _ _ _ _ _ a1 a2 a3 a4 a5) w0 ev w hk vs hvs
    · cases h
  · cases h
theorem flE_eq {v w : FlV} (h : U.flE v w) : w = v := by
  obtain ⟨v0, v1, v2, v3, v4, v5, v6, v7, v8, v9, v10, v11, v12, v13, v14, v15, v16, v17, v18⟩ := v
  obtain ⟨w0, w1, w2, w3, w4, w5, w6, w7, w8, w9, w10, w11, w12, w13, w14, w15, w16, w17, w18⟩ := w
  obtain ⟨a0, a1, ⟨a2, a3, a4, a5, a6, a7, a8, _⟩, ⟨a9, a10, _⟩, ⟨a11, a12, _⟩, ⟨a13, a14, _⟩, ⟨a15, a16, _⟩, a17, a18⟩ := h
  dsimp only at a0 a1 a2 a3 a4 a5 a6 a7 a8 a9 a10 a11 a12 a13 a14 a15 a16 a17 a18
  subst a0 a1 a2 a3 a4 a5 a6 a7 a8 a9 a10 a11 a12 a13 a14 a15 a16 a17 a18
  rfl
theorem lsame1_run (K : AV → St → Prop) (v : FlV) (A : Rws) (o n c e : Nat) (hA : o + n ≤ A.length) (hn : n ≤ 4611686018427387904) (h1 : K (lit (.bool true)) ⟨[], [], 0, [some (hpB A e true)], 0⟩) : runR inv0 tH 21 [flA v ⟨0, 3, o, n, c⟩, flA v ⟨0, 3, o, n, c⟩] ⟨[], [], 0, [some (hpB A e true)], 0⟩ K := by
  unfold flA
  rw [lsame1_vc]
  refine ⟨fun _ => ⟨fun _ => ⟨fun _ => ⟨fun _ => ⟨fun _ => ⟨fun _ => ⟨fun _ => ⟨fun _ => ⟨fun _ => ⟨⟨hA, hn, rfl, rfl, rfl⟩, h1⟩, fun g => (g ?_).elim⟩, fun g => (g ?_).elim⟩, fun g => (g ?_).elim⟩, fun g => (g ?_).elim⟩, fun g => (g ?_).elim⟩, fun g => (g ?_).elim⟩, fun g => (g ?_).elim⟩, fun g => (g ?_).elim⟩, fun g => (g ?_).elim⟩
  all_goals repeat' (first | exact rfl | exact trivial | with_reducible apply And.intro)
def plsame1 : Pat := fun args σ => match args, σ with
  | [x, y], ⟨[], [], 0, [some ⟨94, .o (.rows ks A), [], e, true⟩], 0⟩ => match flX x, flX y, sameK ks hopKs with
    | some (v, ⟨0, 3, o, n, c⟩), some (w, ⟨0, 3, p, m, d⟩), true => some fun K => (o + n ≤ A.length ∧ n ≤ 4611686018427387904 ∧ U.flE v w ∧ p = o ∧ m = n ∧ d = c) ∧ K (lit (.bool true)) ⟨[], [], 0, [some (hpB A e true)], 0⟩
    | _, _, _ => none
  | _, _ => none
theorem plsame1_ok : PatOk 21 plsame1 := by
  intro tm σ C h K hK w0 ev w hk vs hvs
  unfold plsame1 at h
  split at h
  · split at h
    · rename_i h0 h1 h2
      simp only [Option.some.injEq] at h; subst h
      obtain ⟨⟨a1, a2, a3, rfl, rfl, rfl⟩, a4⟩ := hK
      obtain rfl := flX_eq h0
      obtain rfl := flX_eq h1
      obtain rfl := sameK_eq h2
      have e := flE_eq a3
      subst e
      exact knownC noOv names (conOk_ofR tH_ok) (lsame1_run K _ _ _ _ _ _ a1 a2 a4) w0 ev w hk vs hvs
    · cases h
  · cases h
theorem rsame_run (K : AV → St → Prop) (v w : FlV) (A B : Rws) (o n c p m d e f : Nat) (hA : o + n ≤ A.length) (hB : p + m ≤ B.length) (hn : n ≤ 4611686018427387904) (h1 : U.flE v w → U.hE A o n B p m → K (lit (.bool true)) ⟨[], [], 0, [some (hpB A e true), some (hpB B f true)], 0⟩) (h2 : ¬ (U.flE v w ∧ U.hE A o n B p m) → K (lit (.bool false)) ⟨[], [], 0, [some (hpB A e true), some (hpB B f true)], 0⟩) : runR inv0 tH 22 [flA v ⟨0, 3, o, n, c⟩, flA w ⟨1, 3, p, m, d⟩] ⟨[], [], 0, [some (hpB A e true), some (hpB B f true)], 0⟩ K := by
  unfold flA
  rw [rsame_vc]
  exact ⟨⟨hA, hB, hn⟩, fun b => ⟨fun a0 => ⟨fun a1 => ⟨fun a2 => ⟨fun a3 => ⟨fun a4 => ⟨fun a5 => ⟨fun a6 => ⟨fun a7 => ⟨fun a8 => h1 ⟨a0, a1, a2, a3, a4, a5, a6, a7, a8⟩ b, fun b => h2 fun h => b h.1.2.2.2.2.2.2.2.2⟩, fun b => h2 fun h => b h.1.2.2.2.2.2.2.2.1⟩, fun b => h2 fun h => b h.1.2.2.2.2.2.2.1⟩, fun b => h2 fun h => b h.1.2.2.2.2.2.1⟩, fun b => h2 fun h => b h.1.2.2.2.2.1⟩, fun b => h2 fun h => b h.1.2.2.2.1⟩, fun b => h2 fun h => b h.1.2.2.1⟩, fun b => h2 fun h => b h.1.2.1⟩, fun b => h2 fun h => b h.1.1⟩, fun b => h2 fun h => b h.2⟩
def prsame : Pat := fun args σ => match args, σ with
  | [x, y], ⟨[], [], 0, [some ⟨94, .o (.rows ks A), [], e, true⟩, some ⟨94, .o (.rows ls B), [], f, true⟩], 0⟩ => match flX x, flX y, sameK ks hopKs, sameK ls hopKs with
    | some (v, ⟨0, 3, o, n, c⟩), some (w, ⟨1, 3, p, m, d⟩), true, true => some fun K => (o + n ≤ A.length ∧ p + m ≤ B.length ∧ n ≤ 4611686018427387904) ∧ (U.flE v w → U.hE A o n B p m → K (lit (.bool true)) ⟨[], [], 0, [some (hpB A e true), some (hpB B f true)], 0⟩) ∧ (¬ (U.flE v w ∧ U.hE A o n B p m) → K (lit (.bool false)) ⟨[], [], 0, [some (hpB A e true), some (hpB B f true)], 0⟩)
    | _, _, _, _ => none
  | _, _ => none
theorem prsame_ok : PatOk 22 prsame := by
  intro tm σ C h K hK w0 ev w hk vs hvs
  unfold prsame at h
  split at h
  · split at h
    · rename_i h0 h1 h2 h3
      simp only [Option.some.injEq] at h; subst h
      obtain ⟨⟨a1, a2, a3⟩, a4, a5⟩ := hK
      obtain rfl := flX_eq h0
      obtain rfl := flX_eq h1
      obtain rfl := sameK_eq h2
      obtain rfl := sameK_eq h3
      exact knownC noOv names (conOk_ofR tH_ok) (rsame_run K _ _ _ _ _ _ _ _ _ _ _ _ a1 a2 a3 a4 a5) w0 ev w hk vs hvs
    · cases h
  · cases h
def tSm : Tbl := tblOr (tblIf 21 plsame) (tblOr (tblIf 21 plsame1) (tblIf 22 prsame))
theorem tSm_ok : TblOk Try.prog tSm := tblOr_ok (tblIf_ok plsame_ok) (tblOr_ok (tblIf_ok plsame1_ok) (tblIf_ok prsame_ok))
def tRec : Tbl := tblOr tSm (tblOr tH (tblIf 12 pAw26))
theorem tRec_ok : TblOk Try.prog tRec := tblOr_ok tSm_ok (tblOr_ok tH_ok (tblIf_ok pAw26_ok))
theorem flE_refl (v : FlV) : U.flE v v := by unfold U.flE; simp
end Go.Proofs.Ytbhdckphfgabiaa
end
