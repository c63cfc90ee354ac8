/- Parts of a proof, one behind the other: H0 SR0 SR1 SR2 SR3. No condition. -/
import Derived.Test.YtopceemfefhkmaaRkN
import Derived.Test.YtopceemfefhkmaaRkO
import Derived.Test.YtopceemfefhkmaaProg
section
set_option linter.unusedVariables false
namespace Go.Proofs.Ytopceemfefhkmaa
open Go Reck

theorem names : namesOk Try.prog = true := by kernel_rfl
def slotS (tm : List AV) (t : Nat) : ASl :=
  match aslX (tm.getD t (lit undef)) with
  | some s => s
  | none => ⟨0, 0, 0, 0⟩
def slotA (tm : List AV) (t : Nat) (σ : St) : List Int :=
  match getArr σ (slotS tm t).a with
  | some b => b.l
  | none => []
def isAsl (v : AV) : Bool := (aslX v).isSome
def isXint (v : AV) : Bool :=
  match v with
  | .inl (.inl (.inr (.inr (.inr (.inr (.inr (.inr (.inl _)))))))) => true
  | _ => false
def xiX : AV → Option (IntKind × Int)
  | .inl (.inl (.inr (.inr (.inr (.inr (.inr (.inr (.inl p)))))))) => some p
  | _ => none
theorem xiX_eq {x : AV} {k : IntKind} {n : Int} (h : xiX x = some (k, n)) : x = xi k n := by
  unfold xiX at h
  split at h
  · simp only [Option.some.injEq] at h; subst h; rfl
  · cases h
def tbl0 : Tbl := fun _ _ _ => none
theorem tbl0_ok : TblOk Try.prog tbl0 := by intro f tm σ C h; cases h
abbrev InvF := Code → List AV → St → Option Inv
def inv0 : InvF := fun _ _ _ => none
abbrev runI (inv : InvF) (tbl : Tbl) (f : Nat) (args : List AV) (σ : St) (K : AV → St → Prop) : Prop := goT Try.prog [] (orcOf inv tbl) (opMem Try.prog) 3000 (.inr (.inr (.inr (.inr f)))) args σ (retC σ K)
abbrev runL (inv : InvF) (tbl : Tbl) (f : Nat) (args : List AV) (σ : St) : Prop := goT Try.prog [] (orcOf inv tbl) (opMem Try.prog) 3000 (.inr (.inr (.inr (.inr f)))) args σ isTrue
def bs (L : List Int) (cap : Nat) (ro : Bool) : ABlk := ⟨5, .n .u8, L, cap, ro⟩
def ar (l : List ABlk) : St := ⟨[], [], 0, l.map some, 0⟩
theorem noOv : ([] : List FuncId).all (isOverlaps Try.prog) = true := rfl
def tblOr (a b : Tbl) : Tbl := fun f args σ => match a f args σ with
  | some c => some c
  | none => b f args σ
theorem tblOr_ok {P : Program} {a b : Tbl} (ha : TblOk P a) (hb : TblOk P b) : TblOk P (tblOr a b) := by
  intro f tm σ C h
  unfold tblOr at h
  split at h
  · rename_i c hc; simp only [Option.some.injEq] at h; subst h; exact ha f tm σ c hc
  · exact hb f tm σ C h
theorem bytes_wf {zs : List Int} (h : ∀ n ∈ zs, (Lit.int .u8 n).wf = true) : ∀ n ∈ zs, 0 ≤ n ∧ n < 256 := fun n hn => by
  have := h n hn
  simp [Lit.wf, IntKind.min, IntKind.max, IntKind.signed, IntKind.bits] at this
  omega
end Go.Proofs.Ytopceemfefhkmaa
end

section
namespace Go.Proofs.Ytopceemfefhkmaa
open Go Reck
set_option linter.unusedVariables false
set_option maxRecDepth 100000
def nmt : Code → List AV → St → Option Inv := fun _ _ _ => none
abbrev runR (inv : InvF) (tbl : Tbl) (f : Nat) (args : List AV) (σ : St) (K : AV → St → Prop) : Prop := goT Try.prog [] (orcR inv nmt tbl) (opMem Try.prog) 3000 (.inr (.inr (.inr (.inr f)))) args σ (retC σ K)
def ib (L : List Int) (cap : Nat) (ro : Bool) : ABlk := ⟨3, .n .i64, L, cap, ro⟩
def rgB (s : Cell) (most : Int) : Option Blk := some ⟨53, [s, xintC .i64 most], none, 2, false⟩
def rgSt (s : ASl) (most : Int) (L : List Int) (cap : Nat) : St := ⟨[rgB (aslC s) most], [], 0, [some (ib L cap false)], 0⟩
def contS (tm : List AV) (σ : St) (t : Nat) : List Int := ((slotA tm t σ).drop (slotS tm t).o).take (slotS tm t).n
structure U.smI (A B : List Int) (k : Int) : Prop where
  out : 0 ≤ k ∧ k ≤ A.length ∧ A.take k.toNat = B.take k.toNat
structure U.ctI (A : List Int) (i k : Int) (B : List Int) (n c : Nat) : Prop where
  out : 0 ≤ k ∧ k ≤ A.length ∧ B = (A.take k.toNat).eraseIdx i.toNat ∧ n = B.length ∧ n ≤ c
def smInv (c : Code) (tm : List AV) (σ : St) : Inv where
  X := Int
  tags := [0]
  tag _ _ := 0
  J := wrBut [13] c
  val _ x := [(13, xi .i64 x)]
  st _ _ σ' := σ'
  I _ x := U.smI (contS tm σ 0) (contS tm σ 1) x
  m _ x := ((slotS tm 0).n : Int).toNat - x.toNat
  ren := noRen
def ctInv (c : Code) (tm : List AV) (σ : St) : Inv where
  X := Int × (List Int × (Nat × Nat))
  tags := [0]
  tag _ _ := 0
  J := wrBut [5, 10] c
  val _ x := [(5, cell (aslC ⟨σ.arrs.length, 0, x.2.2.1, x.2.2.2⟩)), (10, xi .i64 x.1)]
  st _ x σ' := ⟨σ'.heap, σ'.ints, σ'.opqs, σ'.arrs.dropLast ++ [some (ib x.2.1 x.2.2.2 false)], σ'.junks⟩
  I _ x := U.ctI (contS tm σ 0) (slotI tm 1) x.1 x.2.1 x.2.2.1 x.2.2.2
  m _ x := ((slotS tm 0).n : Int).toNat - x.1.toNat
  ren tm' σ' := ([], [(slotS tm' 5).a])
def invSR : InvF := fun c tm σ => match tm.length, firstReg c with
  | 26, some 4 => some (smInv c tm σ)
  | 24, some 3 => some (ctInv c tm σ)
  | _, _ => none
--PLAIN
theorem newRing_vc (K : AV → St → Prop) (m : Int) : (runR inv0 tbl0 21 [xi .i64 m] emptySt K) = (∀ (z0 : Int), z0 = max m (0 : Int) → K (Sum.inl (Sum.inl (Sum.inr (Sum.inl ((0 : Nat), (0 : Nat)))))) { heap := [some { elem := nat_lit 53, cells := [Sum.inl (Value.slice none (0 : Nat) (0 : Nat)), Sum.inr (Sum.inr (Sum.inr (Sum.inr (Sum.inr (Sum.inr (Sum.inl (IntKind.i64, z0)))))))], j := none, c := (0 : Nat) + (1 : Nat) + (1 : Nat), z := false }], ints := [], opqs := (0 : Nat), arrs := [], junks := (0 : Nat) }) := by kernel_rfl
theorem rgAt_vc (K : AV → St → Prop) (L : List Int) (o n c cap : Nat) (m i : Int) : (runR inv0 tbl0 29 [ptr 0 0, xi .i64 i] (rgSt ⟨0, o, n, c⟩ m L cap) K) = ((i < (0 : Int) → K (Sum.inr [Sum.inl (Sum.inr (Sum.inr (Sum.inr (Sum.inr (Sum.inr (Sum.inr (Sum.inl (IntKind.i64, (0 : Int))))))))), Sum.inl (Sum.inl (Value.bool false))]) { heap := [some { elem := nat_lit 53, cells := [Sum.inr (Sum.inr (Sum.inr (Sum.inr (Sum.inr (Sum.inr (Sum.inr (Sum.inl { a := (0 : Nat), o := o, n := n, c := c }))))))), Sum.inr (Sum.inr (Sum.inr (Sum.inr (Sum.inr (Sum.inr (Sum.inl (IntKind.i64, m)))))))], j := none, c := (2 : Nat), z := false }], ints := [], opqs := (0 : Nat), arrs := [some { elem := (3 : Nat), k := AK.n IntKind.i64, l := L, cap := cap, ro := false }], junks := (0 : Nat) }) ∧ (¬i < (0 : Int) → ∀ (z0 : Int), z0 = (↑n : Int) → (z0 ≤ i → K (Sum.inr [Sum.inl (Sum.inr (Sum.inr (Sum.inr (Sum.inr (Sum.inr (Sum.inr (Sum.inl (IntKind.i64, (0 : Int))))))))), Sum.inl (Sum.inl (Value.bool false))]) { heap := [some { elem := nat_lit 53, cells := [Sum.inr (Sum.inr (Sum.inr (Sum.inr (Sum.inr (Sum.inr (Sum.inr (Sum.inl { a := (0 : Nat), o := o, n := n, c := c }))))))), Sum.inr (Sum.inr (Sum.inr (Sum.inr (Sum.inr (Sum.inr (Sum.inl (IntKind.i64, m)))))))], j := none, c := (2 : Nat), z := false }], ints := [], opqs := (0 : Nat), arrs := [some { elem := (3 : Nat), k := AK.n IntKind.i64, l := L, cap := cap, ro := false }], junks := (0 : Nat) }) ∧ (¬z0 ≤ i → ((0 : Int) ≤ i ∧ i < (↑n : Int)) ∧ ∀ (j1 : Nat), (↑j1 : Int) = (↑o : Int) + i → j1 < List.length L ∧ ∀ (z2 : Int), z2 = List.getD L j1 (0 : Int) → K (Sum.inr [Sum.inl (Sum.inr (Sum.inr (Sum.inr (Sum.inr (Sum.inr (Sum.inr (Sum.inl (IntKind.i64, z2)))))))), Sum.inl (Sum.inl (Value.bool true))]) { heap := [some { elem := nat_lit 53, cells := [Sum.inr (Sum.inr (Sum.inr (Sum.inr (Sum.inr (Sum.inr (Sum.inr (Sum.inl { a := (0 : Nat), o := o, n := n, c := c }))))))), Sum.inr (Sum.inr (Sum.inr (Sum.inr (Sum.inr (Sum.inr (Sum.inl (IntKind.i64, m)))))))], j := none, c := (2 : Nat), z := false }], ints := [], opqs := (0 : Nat), arrs := [some { elem := (3 : Nat), k := AK.n IntKind.i64, l := L, cap := cap, ro := false }], junks := (0 : Nat) }))) := by kernel_rfl
theorem rgCut_vc (K : AV → St → Prop) (L : List Int) (o n c cap : Nat) (m i : Int) : (runR inv0 tbl0 28 [ptr 0 0, xi .i64 i] (rgSt ⟨0, o, n, c⟩ m L cap) K) = ((i < (0 : Int) → K (Sum.inr [Sum.inl (Sum.inr (Sum.inr (Sum.inr (Sum.inr (Sum.inr (Sum.inr (Sum.inl (IntKind.i64, (0 : Int))))))))), Sum.inl (Sum.inl (Value.bool false))]) { heap := [some { elem := nat_lit 53, cells := [Sum.inr (Sum.inr (Sum.inr (Sum.inr (Sum.inr (Sum.inr (Sum.inr (Sum.inl { a := (0 : Nat), o := o, n := n, c := c }))))))), Sum.inr (Sum.inr (Sum.inr (Sum.inr (Sum.inr (Sum.inr (Sum.inl (IntKind.i64, m)))))))], j := none, c := (2 : Nat), z := false }], ints := [], opqs := (0 : Nat), arrs := [some { elem := (3 : Nat), k := AK.n IntKind.i64, l := L, cap := cap, ro := false }], junks := (0 : Nat) }) ∧ (¬i < (0 : Int) → ∀ (z0 : Int), z0 = (↑n : Int) → (z0 ≤ i → K (Sum.inr [Sum.inl (Sum.inr (Sum.inr (Sum.inr (Sum.inr (Sum.inr (Sum.inr (Sum.inl (IntKind.i64, (0 : Int))))))))), Sum.inl (Sum.inl (Value.bool false))]) { heap := [some { elem := nat_lit 53, cells := [Sum.inr (Sum.inr (Sum.inr (Sum.inr (Sum.inr (Sum.inr (Sum.inr (Sum.inl { a := (0 : Nat), o := o, n := n, c := c }))))))), Sum.inr (Sum.inr (Sum.inr (Sum.inr (Sum.inr (Sum.inr (Sum.inl (IntKind.i64, m)))))))], j := none, c := (2 : Nat), z := false }], ints := [], opqs := (0 : Nat), arrs := [some { elem := (3 : Nat), k := AK.n IntKind.i64, l := L, cap := cap, ro := false }], junks := (0 : Nat) }) ∧ (¬z0 ≤ i → ((0 : Int) ≤ i ∧ i < (↑n : Int)) ∧ ∀ (j1 : Nat), (↑j1 : Int) = (↑o : Int) + i → j1 < List.length L ∧ ∀ (z2 : Int), z2 = List.getD L j1 (0 : Int) → ∀ (z3 : Int), z3 = IntKind.wrap IntKind.i64 (i + (1 : Int)) → ((0 : Int) ≤ (1 : Int) ∧ (1 : Int) ≤ z3 ∧ z3 ≤ (↑c : Int)) ∧ ∀ (o4 n5 c6 : Nat), ((↑o4 : Int) = if (↑(ASl.c { a := (0 : Nat), o := o, n := n, c := c }) : Int) = (1 : Int) then (↑o : Int) else (↑o : Int) + (1 : Int)) → (↑n5 : Int) = z3 - (1 : Int) → (↑c6 : Int) = (↑c : Int) - (1 : Int) → ((0 : Int) ≤ i ∧ i ≤ (↑c : Int)) ∧ ∀ (n7 : Nat), (↑n7 : Int) = i → (o4 + n5 ≤ List.length L ∧ Nat.le (o + n7) (List.length L)) ∧ ∀ (n8 : Nat) (l'9 : List Int), n8 = min n7 n5 → l'9 = List.take o4 L ++ List.take n8 (List.take n7 (List.drop o L)) ++ List.drop (o4 + n8) L → (o = o ∧ n = n ∧ c = c) ∧ (o = o ∧ n = n ∧ c = c) ∧ ((0 : Int) ≤ (1 : Int) ∧ (1 : Int) ≤ (↑c : Int)) ∧ ∀ (n10 : Nat), (↑n10 : Int) = (1 : Int) → o + n10 ≤ List.length l'9 ∧ ∀ (l'11 : List Int), l'11 = List.take o l'9 ++ List.replicate n10 (0 : Int) ++ List.drop (o + n10) l'9 → ((0 : Int) ≤ (1 : Int) ∧ (1 : Int) ≤ (↑n : Int)) ∧ ∀ (o12 n13 c14 : Nat), ((↑o12 : Int) = if (↑(ASl.c { a := (0 : Nat), o := o, n := n, c := c }) : Int) = (1 : Int) then (↑o : Int) else (↑o : Int) + (1 : Int)) → (↑n13 : Int) = (↑n : Int) - (1 : Int) → (↑c14 : Int) = (↑c : Int) - (1 : Int) → K (Sum.inr [Sum.inl (Sum.inr (Sum.inr (Sum.inr (Sum.inr (Sum.inr (Sum.inr (Sum.inl (IntKind.i64, z2)))))))), Sum.inl (Sum.inl (Value.bool true))]) { heap := [some { elem := nat_lit 53, cells := [Sum.inr (Sum.inr (Sum.inr (Sum.inr (Sum.inr (Sum.inr (Sum.inr (Sum.inl { a := (0 : Nat), o := o12, n := n13, c := c14 }))))))), Sum.inr (Sum.inr (Sum.inr (Sum.inr (Sum.inr (Sum.inr (Sum.inl (IntKind.i64, m)))))))], j := none, c := (2 : Nat), z := false }], ints := [], opqs := (0 : Nat), arrs := [some { elem := nat_lit 3, k := AK.n IntKind.i64, l := l'11, cap := cap, ro := false }], junks := (0 : Nat) }))) := by kernel_rfl
theorem rgPut_vc (K : AV → St → Prop) (L : List Int) (o n c cap : Nat) (m v u : Int) : (runR inv0 tbl0 27 [ptr 0 0, sl ⟨1, 0, 2, none, 2⟩] ⟨[rgB (aslC ⟨0, o, n, c⟩) m, some ⟨3, [xintC .i64 v, xintC .i64 u], none, 2, false⟩], [], 0, [some (ib L cap false)], 0⟩ K) = (∀ (z0 : Int), z0 = (↑n : Int) → ∀ (z1 : Int), z1 = IntKind.wrap IntKind.i64 (m - z0) → (z1 < (2 : Int) → K (Sum.inl (Sum.inl (Sum.inl (Value.bool false)))) { heap := [some { elem := nat_lit 53, cells := [Sum.inr (Sum.inr (Sum.inr (Sum.inr (Sum.inr (Sum.inr (Sum.inr (Sum.inl { a := (0 : Nat), o := o, n := n, c := c }))))))), Sum.inr (Sum.inr (Sum.inr (Sum.inr (Sum.inr (Sum.inr (Sum.inl (IntKind.i64, m)))))))], j := none, c := (2 : Nat), z := false }, some { elem := nat_lit 3, cells := [Sum.inr (Sum.inr (Sum.inr (Sum.inr (Sum.inr (Sum.inr (Sum.inl (IntKind.i64, v))))))), Sum.inr (Sum.inr (Sum.inr (Sum.inr (Sum.inr (Sum.inr (Sum.inl (IntKind.i64, u)))))))], j := none, c := (2 : Nat), z := false }], ints := [], opqs := (0 : Nat), arrs := [some { elem := (3 : TypeId), k := AK.n IntKind.i64, l := L, cap := cap, ro := false }], junks := (0 : Nat) }) ∧ (¬z1 < (2 : Int) → (o + n ≤ List.length L ∧ o + c ≤ cap) ∧ True ∧ n ≤ (16777216 : Nat) ∧ (2 : Nat) ≤ (16777216 : Nat) ∧ ∀ (l'2 : List Int) (n'3 c'4 : Nat), l'2 = List.take n (List.drop o L) ++ [v, u] → n'3 = n + (2 : Nat) → n'3 ≤ c'4 → K (Sum.inl (Sum.inl (Sum.inl (Value.bool true)))) { heap := [some { elem := nat_lit 53, cells := [Sum.inr (Sum.inr (Sum.inr (Sum.inr (Sum.inr (Sum.inr (Sum.inr (Sum.inl { a := (1 : Nat), o := (0 : Nat), n := n'3, c := c'4 }))))))), Sum.inr (Sum.inr (Sum.inr (Sum.inr (Sum.inr (Sum.inr (Sum.inl (IntKind.i64, m)))))))], j := none, c := (2 : Nat), z := false }, some { elem := nat_lit 3, cells := [Sum.inr (Sum.inr (Sum.inr (Sum.inr (Sum.inr (Sum.inr (Sum.inl (IntKind.i64, v))))))), Sum.inr (Sum.inr (Sum.inr (Sum.inr (Sum.inr (Sum.inr (Sum.inl (IntKind.i64, u)))))))], j := none, c := (2 : Nat), z := false }], ints := [], opqs := (0 : Nat), arrs := [none, some { elem := (3 : Nat), k := AK.n IntKind.i64, l := l'2, cap := c'4, ro := false }], junks := (0 : Nat) })) := by kernel_rfl
theorem cloneI_vc (K : AV → St → Prop) (L : List Int) (o n c cap : Nat) : (runR inv0 tbl0 31 [cell (aslC ⟨0, o, n, c⟩)] ⟨[], [], 0, [some (ib L cap false)], 0⟩ K) = ((n = (0 : Nat) → K (Sum.inl (Sum.inl (Sum.inr (Sum.inr (Sum.inr (Sum.inr (Sum.inr (Sum.inr (Sum.inr (Sum.inl { a := (1 : Nat), o := (0 : Nat), n := (0 : Nat), c := (0 : Nat) })))))))))) { heap := [], ints := [], opqs := (0 : Nat), arrs := [some { elem := (3 : TypeId), k := AK.n IntKind.i64, l := L, cap := cap, ro := false }, some { elem := (3 : Nat), k := AK.n IntKind.i64, l := [], cap := (0 : Nat), ro := false }], junks := (0 : Nat) }) ∧ True ∧ Nat.le (o + n) (List.length L) ∧ (0 : Nat) ≤ (16777216 : Nat) ∧ n ≤ (16777216 : Nat) ∧ ∀ (l'0 : List Int) (n'1 c'2 : Nat), l'0 = [] ++ List.take n (List.drop o L) → n'1 = (0 : Nat) + n → n'1 ≤ c'2 → K (Sum.inl (Sum.inl (Sum.inr (Sum.inr (Sum.inr (Sum.inr (Sum.inr (Sum.inr (Sum.inr (Sum.inl { a := (1 : Nat), o := (0 : Nat), n := n'1, c := c'2 })))))))))) { heap := [], ints := [], opqs := (0 : Nat), arrs := [some { elem := (3 : TypeId), k := AK.n IntKind.i64, l := L, cap := cap, ro := false }, some { elem := (3 : Nat), k := AK.n IntKind.i64, l := l'0, cap := c'2, ro := false }], junks := (0 : Nat) }) := by kernel_rfl
theorem rgAll_vc (K : AV → St → Prop) (L : List Int) (o n c cap : Nat) (m : Int) : (runR inv0 tbl0 26 [ptr 0 0] (rgSt ⟨0, o, n, c⟩ m L cap) K) = ((n = (0 : Nat) → K (Sum.inl (Sum.inl (Sum.inr (Sum.inr (Sum.inr (Sum.inr (Sum.inr (Sum.inr (Sum.inr (Sum.inl { a := (1 : Nat), o := (0 : Nat), n := (0 : Nat), c := (0 : Nat) })))))))))) { heap := [some { elem := nat_lit 53, cells := [Sum.inr (Sum.inr (Sum.inr (Sum.inr (Sum.inr (Sum.inr (Sum.inr (Sum.inl { a := (0 : Nat), o := o, n := n, c := c }))))))), Sum.inr (Sum.inr (Sum.inr (Sum.inr (Sum.inr (Sum.inr (Sum.inl (IntKind.i64, m)))))))], j := none, c := (2 : Nat), z := false }], ints := [], opqs := (0 : Nat), arrs := [some { elem := (3 : TypeId), k := AK.n IntKind.i64, l := L, cap := cap, ro := false }, some { elem := (3 : Nat), k := AK.n IntKind.i64, l := [], cap := (0 : Nat), ro := false }], junks := (0 : Nat) }) ∧ True ∧ Nat.le (o + n) (List.length L) ∧ (0 : Nat) ≤ (16777216 : Nat) ∧ n ≤ (16777216 : Nat) ∧ ∀ (l'0 : List Int) (n'1 c'2 : Nat), l'0 = [] ++ List.take n (List.drop o L) → n'1 = (0 : Nat) + n → n'1 ≤ c'2 → K (Sum.inl (Sum.inl (Sum.inr (Sum.inr (Sum.inr (Sum.inr (Sum.inr (Sum.inr (Sum.inr (Sum.inl { a := (1 : Nat), o := (0 : Nat), n := n'1, c := c'2 })))))))))) { heap := [some { elem := nat_lit 53, cells := [Sum.inr (Sum.inr (Sum.inr (Sum.inr (Sum.inr (Sum.inr (Sum.inr (Sum.inl { a := (0 : Nat), o := o, n := n, c := c }))))))), Sum.inr (Sum.inr (Sum.inr (Sum.inr (Sum.inr (Sum.inr (Sum.inl (IntKind.i64, m)))))))], j := none, c := (2 : Nat), z := false }], ints := [], opqs := (0 : Nat), arrs := [some { elem := (3 : TypeId), k := AK.n IntKind.i64, l := L, cap := cap, ro := false }, some { elem := (3 : Nat), k := AK.n IntKind.i64, l := l'0, cap := c'2, ro := false }], junks := (0 : Nat) }) := by kernel_rfl
theorem rgLen_vc (K : AV → St → Prop) (L : List Int) (o n c cap : Nat) (m : Int) : (runR inv0 tbl0 25 [ptr 0 0] (rgSt ⟨0, o, n, c⟩ m L cap) K) = (∀ (z0 : Int), z0 = (↑n : Int) → K (Sum.inl (Sum.inl (Sum.inr (Sum.inr (Sum.inr (Sum.inr (Sum.inr (Sum.inr (Sum.inl (IntKind.i64, z0)))))))))) { heap := [some { elem := nat_lit 53, cells := [Sum.inr (Sum.inr (Sum.inr (Sum.inr (Sum.inr (Sum.inr (Sum.inr (Sum.inl { a := (0 : Nat), o := o, n := n, c := c }))))))), Sum.inr (Sum.inr (Sum.inr (Sum.inr (Sum.inr (Sum.inr (Sum.inl (IntKind.i64, m)))))))], j := none, c := (2 : Nat), z := false }], ints := [], opqs := (0 : Nat), arrs := [some { elem := (3 : TypeId), k := AK.n IntKind.i64, l := L, cap := cap, ro := false }], junks := (0 : Nat) }) := by kernel_rfl
theorem refSame_vc (K : AV → St → Prop) (L : List Int) (o n c cap : Nat) (M : List Int) (p q d dap : Nat) : (runR invSR tbl0 12 [cell (aslC ⟨0, o, n, c⟩), cell (aslC ⟨1, p, q, d⟩)] ⟨[], [], 0, [some (ib L cap false), some (ib M dap false)], 0⟩ K) = (∀ (z0 : Int), z0 = (↑n : Int) → ∀ (z1 : Int), z1 = (↑q : Int) → (¬z0 = z1 → K (Sum.inl (Sum.inl (Sum.inl (Value.bool false)))) { heap := [], ints := [], opqs := (0 : Nat), arrs := [some { elem := (3 : TypeId), k := AK.n IntKind.i64, l := L, cap := cap, ro := false }, some { elem := (3 : TypeId), k := AK.n IntKind.i64, l := M, cap := dap, ro := false }], junks := (0 : Nat) }) ∧ (¬¬z0 = z1 → ∀ (z2 : Int), z2 = (↑n : Int) → (∃ (y3 : Int), (o = o ∧ n = n ∧ c = c) ∧ (p = p ∧ q = q ∧ d = d) ∧ (o = o ∧ n = n ∧ c = c) ∧ z0 = z0 ∧ (p = p ∧ q = q ∧ d = d) ∧ z1 = z1 ∧ false = false ∧ (o = o ∧ n = n ∧ c = c) ∧ z2 = z2 ∧ (0 : Int) = y3 ∧ (L = L ∧ cap = cap ∧ false = false) ∧ (M = M ∧ dap = dap ∧ false = false) ∧ U.smI (List.take n (List.drop o L)) (List.take q (List.drop p M)) y3) ∧ ∀ (x4 : Int), U.smI (List.take n (List.drop o L)) (List.take q (List.drop p M)) x4 → (x4 < z2 → ((0 : Int) ≤ x4 ∧ x4 < (↑n : Int)) ∧ ∀ (j5 : Nat), (↑j5 : Int) = (↑o : Int) + x4 → j5 < List.length L ∧ ∀ (z6 : Int), z6 = List.getD L j5 (0 : Int) → ((0 : Int) ≤ x4 ∧ x4 < (↑q : Int)) ∧ ∀ (j7 : Nat), (↑j7 : Int) = (↑p : Int) + x4 → j7 < List.length M ∧ ∀ (z8 : Int), z8 = List.getD M j7 (0 : Int) → (¬z6 = z8 → K (Sum.inl (Sum.inl (Sum.inl (Value.bool false)))) { heap := [], ints := [], opqs := (0 : Nat), arrs := [some { elem := (3 : TypeId), k := AK.n IntKind.i64, l := L, cap := cap, ro := false }, some { elem := (3 : TypeId), k := AK.n IntKind.i64, l := M, cap := dap, ro := false }], junks := (0 : Nat) }) ∧ (¬¬z6 = z8 → ∀ (z9 : Int), z9 = IntKind.wrap IntKind.i64 (x4 + (1 : Int)) → ∃ (y10 : Int), (o = o ∧ n = n ∧ c = c) ∧ (p = p ∧ q = q ∧ d = d) ∧ (o = o ∧ n = n ∧ c = c) ∧ z0 = z0 ∧ (p = p ∧ q = q ∧ d = d) ∧ z1 = z1 ∧ false = false ∧ (o = o ∧ n = n ∧ c = c) ∧ z2 = z2 ∧ z9 = y10 ∧ (L = L ∧ cap = cap ∧ false = false) ∧ (M = M ∧ dap = dap ∧ false = false) ∧ U.smI (List.take n (List.drop o L)) (List.take q (List.drop p M)) y10 ∧ Int.toNat (↑n : Int) - Int.toNat y10 < Int.toNat (↑n : Int) - Int.toNat x4)) ∧ (¬x4 < z2 → K (Sum.inl (Sum.inl (Sum.inl (Value.bool true)))) { heap := [], ints := [], opqs := (0 : Nat), arrs := [some { elem := (3 : TypeId), k := AK.n IntKind.i64, l := L, cap := cap, ro := false }, some { elem := (3 : TypeId), k := AK.n IntKind.i64, l := M, cap := dap, ro := false }], junks := (0 : Nat) }))) := by kernel_rfl
theorem refCut_vc (K : AV → St → Prop) (L : List Int) (o n c cap : Nat) (i : Int) : (runR invSR tbl0 30 [cell (aslC ⟨0, o, n, c⟩), xi .i64 i] ⟨[], [], 0, [some (ib L cap false)], 0⟩ K) = (∀ (z0 : Int), z0 = (↑n : Int) → (∃ (y1 : Int × List Int × Nat × Nat), (o = o ∧ n = n ∧ c = c) ∧ i = i ∧ ((0 : Nat) = (0 : Nat) ∧ (0 : Nat) = (0 : Nat) ∧ (0 : Nat) = (0 : Nat)) ∧ ((0 : Nat) = (0 : Nat) ∧ (0 : Nat) = Prod.fst (Prod.snd (Prod.snd y1)) ∧ (0 : Nat) = Prod.snd (Prod.snd (Prod.snd y1))) ∧ (o = o ∧ n = n ∧ c = c) ∧ z0 = z0 ∧ (0 : Int) = Prod.fst y1 ∧ (L = L ∧ cap = cap ∧ false = false) ∧ (([] : List Int) = [] ∧ (0 : Nat) = (0 : Nat) ∧ false = false) ∧ ([] = Prod.fst (Prod.snd y1) ∧ (0 : Nat) = Prod.snd (Prod.snd (Prod.snd y1)) ∧ false = false) ∧ U.ctI (List.take n (List.drop o L)) i (Prod.fst y1) (Prod.fst (Prod.snd y1)) (Prod.fst (Prod.snd (Prod.snd y1))) (Prod.snd (Prod.snd (Prod.snd y1)))) ∧ ∀ (x2 : Int × List Int × Nat × Nat), U.ctI (List.take n (List.drop o L)) i (Prod.fst x2) (Prod.fst (Prod.snd x2)) (Prod.fst (Prod.snd (Prod.snd x2))) (Prod.snd (Prod.snd (Prod.snd x2))) → (Prod.fst x2 < z0 → ((0 : Int) ≤ Prod.fst x2 ∧ Prod.fst x2 < (↑n : Int)) ∧ ∀ (j3 : Nat), (↑j3 : Int) = (↑o : Int) + Prod.fst x2 → j3 < List.length L ∧ ∀ (z4 : Int), z4 = List.getD L j3 (0 : Int) → (¬Prod.fst x2 = i → ((0 : Nat) + Prod.fst (Prod.snd (Prod.snd x2)) ≤ List.length (Prod.fst (Prod.snd x2)) ∧ (0 : Nat) + Prod.snd (Prod.snd (Prod.snd x2)) ≤ Prod.snd (Prod.snd (Prod.snd x2))) ∧ True ∧ Prod.fst (Prod.snd (Prod.snd x2)) ≤ (16777216 : Nat) ∧ (1 : Nat) ≤ (16777216 : Nat) ∧ ∀ (l'5 : List Int) (n'6 c'7 : Nat), l'5 = List.take (Prod.fst (Prod.snd (Prod.snd x2))) (List.drop ((0 : Nat)) (Prod.fst (Prod.snd x2))) ++ [z4] → n'6 = Prod.fst (Prod.snd (Prod.snd x2)) + (1 : Nat) → n'6 ≤ c'7 → ∀ (z8 : Int), z8 = IntKind.wrap IntKind.i64 (Prod.fst x2 + (1 : Int)) → ∃ (y9 : Int × List Int × Nat × Nat), (o = o ∧ n = n ∧ c = c) ∧ i = i ∧ ((0 : Nat) = (0 : Nat) ∧ (0 : Nat) = (0 : Nat) ∧ (0 : Nat) = (0 : Nat)) ∧ ((0 : Nat) = (0 : Nat) ∧ n'6 = Prod.fst (Prod.snd (Prod.snd y9)) ∧ c'7 = Prod.snd (Prod.snd (Prod.snd y9))) ∧ (o = o ∧ n = n ∧ c = c) ∧ z0 = z0 ∧ z8 = Prod.fst y9 ∧ (L = L ∧ cap = cap ∧ false = false) ∧ (([] : List Int) = [] ∧ (0 : Nat) = (0 : Nat) ∧ false = false) ∧ (l'5 = Prod.fst (Prod.snd y9) ∧ c'7 = Prod.snd (Prod.snd (Prod.snd y9)) ∧ false = false) ∧ U.ctI (List.take n (List.drop o L)) i (Prod.fst y9) (Prod.fst (Prod.snd y9)) (Prod.fst (Prod.snd (Prod.snd y9))) (Prod.snd (Prod.snd (Prod.snd y9))) ∧ Int.toNat (↑n : Int) - Int.toNat (Prod.fst y9) < Int.toNat (↑n : Int) - Int.toNat (Prod.fst x2)) ∧ (¬¬Prod.fst x2 = i → ∀ (z10 : Int), z10 = IntKind.wrap IntKind.i64 (Prod.fst x2 + (1 : Int)) → ∃ (y11 : Int × List Int × Nat × Nat), (o = o ∧ n = n ∧ c = c) ∧ i = i ∧ ((0 : Nat) = (0 : Nat) ∧ (0 : Nat) = (0 : Nat) ∧ (0 : Nat) = (0 : Nat)) ∧ ((0 : Nat) = (0 : Nat) ∧ Prod.fst (Prod.snd (Prod.snd x2)) = Prod.fst (Prod.snd (Prod.snd y11)) ∧ Prod.snd (Prod.snd (Prod.snd x2)) = Prod.snd (Prod.snd (Prod.snd y11))) ∧ (o = o ∧ n = n ∧ c = c) ∧ z0 = z0 ∧ z10 = Prod.fst y11 ∧ (L = L ∧ cap = cap ∧ false = false) ∧ (([] : List Int) = [] ∧ (0 : Nat) = (0 : Nat) ∧ false = false) ∧ (Prod.fst (Prod.snd x2) = Prod.fst (Prod.snd y11) ∧ Prod.snd (Prod.snd (Prod.snd x2)) = Prod.snd (Prod.snd (Prod.snd y11)) ∧ false = false) ∧ U.ctI (List.take n (List.drop o L)) i (Prod.fst y11) (Prod.fst (Prod.snd y11)) (Prod.fst (Prod.snd (Prod.snd y11))) (Prod.snd (Prod.snd (Prod.snd y11))) ∧ Int.toNat (↑n : Int) - Int.toNat (Prod.fst y11) < Int.toNat (↑n : Int) - Int.toNat (Prod.fst x2))) ∧ (¬Prod.fst x2 < z0 → K (Sum.inl (Sum.inl (Sum.inr (Sum.inr (Sum.inr (Sum.inr (Sum.inr (Sum.inr (Sum.inr (Sum.inl { a := (1 : Nat), o := (0 : Nat), n := Prod.fst (Prod.snd (Prod.snd x2)), c := Prod.snd (Prod.snd (Prod.snd x2)) })))))))))) { heap := [], ints := [], opqs := (0 : Nat), arrs := [some { elem := (3 : TypeId), k := AK.n IntKind.i64, l := L, cap := cap, ro := false }, some { elem := (3 : TypeId), k := AK.n IntKind.i64, l := Prod.fst (Prod.snd x2), cap := Prod.snd (Prod.snd (Prod.snd x2)), ro := false }], junks := (0 : Nat) })) := by kernel_rfl
end Go.Proofs.Ytopceemfefhkmaa
end

section
set_option linter.unusedVariables false
set_option linter.unusedSimpArgs false
namespace Go.Proofs.Ytopceemfefhkmaa
open Go Reck Ost
abbrev Pat := List AV → St → Option ((AV → St → Prop) → Prop)
def tblIf (f0 : Nat) (p : Pat) : Tbl := fun f args σ => if f == f0 then p args σ else none
def PatOk (f0 : Nat) (p : Pat) : Prop := ∀ tm σ C, p tm σ = some C → ∀ K : AV → St → Prop, C K → ∀ (w0 : World) (e : Env) (w : World), Ok w0 e σ w → ∀ vs : List Value, tm.map (Reck.av e) = vs.map some →
  Calls Try.prog f0 vs.toArray w fun en w' => ∃ x σ' e' v, en = .returned v ∧ e.le e' ∧ Reck.av e' x = some v ∧ Ok w0 e' σ' w' ∧ K x σ'
theorem tblIf_ok {f0 : Nat} {p : Pat} (h : PatOk f0 p) : TblOk Try.prog (tblIf f0 p) := by
  intro f tm σ C hC
  unfold tblIf at hC
  split at hC
  · rename_i hf
    obtain rfl : f = f0 := by simpa using hf
    exact h tm σ C hC
  · cases hC
theorem as_int {e : Env} {x : AV} {k : IntKind} {n : Int} {v : Value} (h : intX x = some (k, n)) (hv : Reck.av e x = some v) : Reck.av e (xi k n) = some v := by
  rw [intX_ok h hv]; rfl
theorem ones {e : Env} {x : AV} {vs : List Value} (h : [x].map (Reck.av e) = vs.map some) : ∃ v, vs = [v] ∧ Reck.av e x = some v := by
  match vs, map_len h with
  | [v], _ => simp at h; exact ⟨v, rfl, h⟩
theorem twos {e : Env} {x y : AV} {vs : List Value} (h : [x, y].map (Reck.av e) = vs.map some) : ∃ v u, vs = [v, u] ∧ Reck.av e x = some v ∧ Reck.av e y = some u := by
  match vs, map_len h with
  | [v, u], _ => simp at h; exact ⟨v, u, rfl, h.1, h.2⟩
theorem cell_inj {c d : Cell} (h : cell c = cell d) : c = d := by simpa [cell] using h
theorem iw {z n : Int} (h : z = IntKind.wrap .i64 n) (hb : -9223372036854775808 ≤ n ∧ n ≤ 9223372036854775807) : z = n := by
  rw [h]; exact IntWalk.i64_in _ hb

/-- A slice holds A. -/
structure U.Rg (L : List Int) (o n c cap : Nat) (A : List Int) : Prop where
  eq : A = (L.drop o).take n
  len : o + n ≤ L.length
  le : n ≤ c
  cap : o + c ≤ cap
  sm : n ≤ 16777216
theorem U.Rg.n {L : List Int} {o n c cap : Nat} {A : List Int} (h : U.Rg L o n c cap A) : A.length = n := by
  have := h.len
  rw [h.eq, List.length_take, List.length_drop]; omega
def U.er (A : List Int) (i : Int) : List Int := A.eraseIdx i.toNat
def U.at (A : List Int) (i : Int) : Int := A.getD i.toNat 0
theorem U.Rg.get {L : List Int} {o n c cap : Nat} {A : List Int} (h : U.Rg L o n c cap A) {i : Int} (hi : 0 ≤ i ∧ i < n) {j : Nat} (hj : (j : Int) = o + i) : L.getD j 0 = U.at A i := by
  have := h.len
  unfold U.at
  rw [h.eq, List.getD_eq_getElem?_getD, List.getD_eq_getElem?_getD, List.getElem?_take, if_pos (by omega), List.getElem?_drop, show o + i.toNat = j by omega]
theorem U.Rg.all {L : List Int} {n : Nat} (h : n = L.length) {c cap : Nat} (hc : n ≤ c) (hp : c ≤ cap) (hn : n ≤ 16777216) : U.Rg L 0 n c cap L :=
  ⟨by rw [List.drop_zero, h, List.take_length], by omega, hc, by omega, hn⟩
theorem er_view (L : List Int) (o n i : Nat) (h : o + n ≤ L.length) (hi : i < n) : (((L.drop o).take i) ++ L.drop (o + 1 + i)).take (n - 1) = ((L.drop o).take n).eraseIdx i := by
  have hl : ((L.drop o).take i).length = i := by rw [List.length_take, List.length_drop]; omega
  rw [List.eraseIdx_eq_take_drop_succ, List.take_append, hl, List.take_take, Nat.min_eq_right (by omega), List.take_take, Nat.min_eq_left (by omega), List.drop_take, List.drop_drop, show o + 1 + i = o + (i + 1) by omega, show n - 1 - i = n - (i + 1) by omega]
theorem cut_fin {L : List Int} {o n c cap : Nat} {A : List Int} (h : U.Rg L o n c cap A) {i : Int} (hi : 0 ≤ i ∧ i < n) {o4 n5 n7 n8 n10 o12 n13 c14 : Nat} {l9 l11 : List Int}
    (h4 : (o4 : Int) = if (c : Int) = 1 then (o : Int) else (o : Int) + 1) (h5 : (n5 : Int) = i) (h7 : (n7 : Int) = i) (h8 : n8 = min n7 n5) (h9 : l9 = List.take o4 L ++ List.take n8 (List.take n7 (List.drop o L)) ++ List.drop (o4 + n8) L)
    (h10 : (n10 : Int) = 1) (h11 : l11 = List.take o l9 ++ List.replicate n10 0 ++ List.drop (o + n10) l9) (h12 : (o12 : Int) = if (c : Int) = 1 then (o : Int) else (o : Int) + 1) (h13 : (n13 : Int) = n - 1) (h14 : (c14 : Int) = c - 1) :
    o4 + n5 ≤ L.length ∧ o + n7 ≤ L.length ∧ o + n10 ≤ l9.length ∧ U.Rg l11 o12 n13 c14 cap (U.er A i) := by
  obtain ⟨k1, k2, k3, k4, k5⟩ := h
  have e5 : n5 = i.toNat := by omega
  have e7 : n7 = i.toNat := by omega
  have e8 : n8 = i.toNat := by omega
  have e10 : n10 = 1 := by omega
  have e14 : c14 = c - 1 := by omega
  have hl9 : l9.length = L.length := by
    rw [h9, e8, e7, List.length_append, List.length_append, List.length_take, List.length_take, List.length_take, List.length_drop, List.length_drop]
    split at h4 <;> omega
  refine ⟨by split at h4 <;> omega, by omega, by omega, ?_⟩
  have hl11 : l11.length = L.length := by
    rw [h11, e10, List.length_append, List.length_append, List.length_take, List.length_replicate, List.length_drop, hl9]; omega
  by_cases hc : (c : Int) = 1
  · rw [if_pos hc] at h12 h4
    have : n13 = 0 := by omega
    subst this
    have hA : A.length = 1 := by rw [k1, List.length_take, List.length_drop]; omega
    refine ⟨?_, by omega, by omega, by omega, by omega⟩
    unfold U.er
    rw [show i.toNat = 0 by omega, List.take_zero]
    match A, hA with
    | [a], _ => rfl
  · rw [if_neg hc] at h12 h4
    refine ⟨?_, by omega, by omega, by omega, by omega⟩
    unfold U.er
    have ho : o12 = o + 1 := by omega
    have h4' : o4 = o + 1 := by omega
    have d11 : l11.drop (o + 1) = l9.drop (o + 1) := by
      rw [h11, e10, List.append_assoc, List.drop_append, List.length_take, hl9, Nat.min_eq_left (by omega), show o + 1 - o = 1 by omega, List.drop_eq_nil_of_le (by rw [List.length_take]; omega), List.nil_append]
      rfl
    have d9 : l9.drop (o + 1) = (L.drop o).take i.toNat ++ L.drop (o + 1 + i.toNat) := by
      rw [h9, e8, e7, h4', List.append_assoc, List.drop_append, List.length_take, Nat.min_eq_left (by omega), Nat.sub_self, List.drop_zero, List.drop_eq_nil_of_le (by rw [List.length_take]; omega), List.nil_append, List.take_take, Nat.min_self]
    rw [ho, d11, d9, show n13 = n - 1 by omega, k1]
    exact (er_view L o n i.toNat k2 (by omega)).symm
theorem oif (o c : Nat) : ((o + if c = 1 then 0 else 1 : Nat) : Int) = if (c : Int) = 1 then (o : Int) else (o : Int) + 1 := by
  by_cases h : c = 1
  · subst h; simp
  · rw [if_neg h, if_neg (by omega)]; omega
theorem drop_one (A : List Int) : A.eraseIdx 0 = A.drop 1 := by cases A <;> rfl
abbrev rgNo (z : Int) (b : Bool) : AV := .inr [.inl (xintC .i64 z), .inl (.inl (.bool b))]
theorem rgAt_run (K : AV → St → Prop) (L : List Int) (o n c cap : Nat) (m i : Int) (A : List Int) (h : U.Rg L o n c cap A)
    (h0 : ¬ (0 ≤ i ∧ i < n) → K (rgNo 0 false) (rgSt ⟨0, o, n, c⟩ m L cap)) (h1 : 0 ≤ i ∧ i < n → ∀ z : Int, z = U.at A i → K (rgNo z true) (rgSt ⟨0, o, n, c⟩ m L cap)) :
    runR inv0 tbl0 29 [ptr 0 0, xi .i64 i] (rgSt ⟨0, o, n, c⟩ m L cap) K := by
  rw [rgAt_vc]
  have := h.len
  refine ⟨fun g => h0 (by omega), fun g z hz => ⟨fun g2 => h0 (by omega), fun g2 => ⟨by omega, fun j hj => ⟨by omega, fun z2 hz2 => h1 (by omega) z2 (hz2.trans (h.get (by omega) hj))⟩⟩⟩⟩
theorem rgCut_run (K : AV → St → Prop) (L : List Int) (o n c cap : Nat) (m i : Int) (A : List Int) (h : U.Rg L o n c cap A)
    (h0 : ¬ (0 ≤ i ∧ i < n) → K (rgNo 0 false) (rgSt ⟨0, o, n, c⟩ m L cap)) (h1 : 0 ≤ i ∧ i < n → ∀ (z : Int) (L' : List Int) (o' n' c' : Nat), z = U.at A i → U.Rg L' o' n' c' cap (U.er A i) → K (rgNo z true) (rgSt ⟨0, o', n', c'⟩ m L' cap)) :
    runR inv0 tbl0 28 [ptr 0 0, xi .i64 i] (rgSt ⟨0, o, n, c⟩ m L cap) K := by
  rw [rgCut_vc]
  have hl := h.len
  have hle := h.le
  have hsm := h.sm
  refine ⟨fun g => h0 (by omega), fun g z hz => ⟨fun g2 => h0 (by omega), fun g2 => ⟨by omega, fun j hj => ⟨by omega, fun z2 hz2 z3 hz3 => ?_⟩⟩⟩⟩
  have e3 := iw hz3 (by omega)
  refine ⟨by omega, fun o4 n5 c6 h4 h5 h6 => ⟨by omega, fun n7 h7 => ?_⟩⟩
  have f := fun (n8 n10 o12 n13 c14 : Nat) (l9 l11 : List Int) => cut_fin h (i := i) (by omega) (o4 := o4) (n5 := n5) (n7 := n7) (n8 := n8) (n10 := n10) (o12 := o12) (n13 := n13) (c14 := c14) (l9 := l9) (l11 := l11) h4 (by omega) h7
  have f0 := f _ 1 (o + if c = 1 then 0 else 1) (n - 1) (c - 1) _ _ rfl rfl rfl rfl (oif o c) (by omega) (by omega)
  refine ⟨⟨f0.1, f0.2.1⟩, fun n8 l9 h8 h9 => ⟨⟨rfl, rfl, rfl⟩, ⟨rfl, rfl, rfl⟩, by omega, fun n10 h10 => ?_⟩⟩
  have f1 := f n8 n10 (o + if c = 1 then 0 else 1) (n - 1) (c - 1) l9 _ h8 h9 h10 rfl (oif o c) (by omega) (by omega)
  exact ⟨f1.2.2.1, fun l11 h11 => ⟨by omega, fun o12 n13 c14 h12 h13 h14 => h1 (by omega) z2 l11 o12 n13 c14 (hz2.trans (h.get (by omega) hj)) (f n8 n10 o12 n13 c14 l9 l11 h8 h9 h10 h11 h12 h13 h14).2.2.2⟩⟩
end Go.Proofs.Ytopceemfefhkmaa
end

section
set_option linter.unusedVariables false
set_option linter.unusedSimpArgs false
namespace Go.Proofs.Ytopceemfefhkmaa
open Go Reck Ost
theorem rg_app {L : List Int} {o n c cap : Nat} {A : List Int} (h : U.Rg L o n c cap A) (B : List Int) {k n' c' : Nat} {l' : List Int} (hk : B.length = k) (hl : l' = List.take n (List.drop o L) ++ B) (hn : n' = n + k) (hc : n' ≤ c') (hs : n' ≤ 16777216) : U.Rg l' 0 n' c' c' (A ++ B) := by
  have := h.n
  have e : l' = A ++ B := by rw [hl, h.eq]
  rw [e]
  exact U.Rg.all (by rw [List.length_append]; omega) hc (Nat.le_refl _) hs
theorem rgPut_run (K : AV → St → Prop) (L : List Int) (o n c cap : Nat) (m v u : Int) (A : List Int) (h : U.Rg L o n c cap A) (hm : 0 ≤ m ∧ m ≤ 1000) (hn : (n : Int) ≤ m)
    (h0 : m < n + 2 → K (lit (.bool false)) ⟨[rgB (aslC ⟨0, o, n, c⟩) m, some ⟨3, [xintC .i64 v, xintC .i64 u], none, 2, false⟩], [], 0, [some (ib L cap false)], 0⟩)
    (h1 : ¬ m < n + 2 → ∀ (L' : List Int) (n' c' : Nat), n' = n + 2 → U.Rg L' 0 n' c' c' (A ++ [v, u]) → K (lit (.bool true)) ⟨[rgB (aslC ⟨1, 0, n', c'⟩) m, some ⟨3, [xintC .i64 v, xintC .i64 u], none, 2, false⟩], [], 0, [none, some (ib L' c' false)], 0⟩) :
    runR inv0 tbl0 27 [ptr 0 0, sl ⟨1, 0, 2, none, 2⟩] ⟨[rgB (aslC ⟨0, o, n, c⟩) m, some ⟨3, [xintC .i64 v, xintC .i64 u], none, 2, false⟩], [], 0, [some (ib L cap false)], 0⟩ K := by
  rw [rgPut_vc]
  have hl := h.len
  have hcp := h.cap
  have hsm := h.sm
  intro z hz z1 hz1
  have e1 := iw hz1 (by omega)
  exact ⟨fun g => h0 (by omega), fun g => ⟨⟨by omega, by omega⟩, trivial, by omega, by decide, fun l' n' c' q1 q2 q3 => h1 (by omega) l' n' c' q2 (rg_app h [v, u] rfl q1 q2 q3 (by omega))⟩⟩
theorem rgAll_run (K : AV → St → Prop) (L : List Int) (o n c cap : Nat) (m : Int) (A : List Int) (h : U.Rg L o n c cap A)
    (h1 : ∀ (L' : List Int) (n' c' : Nat), n' = n → U.Rg L' 0 n' c' c' A → K (cell (aslC ⟨1, 0, n', c'⟩)) ⟨[rgB (aslC ⟨0, o, n, c⟩) m], [], 0, [some (ib L cap false), some (ib L' c' false)], 0⟩) :
    runR inv0 tbl0 26 [ptr 0 0] (rgSt ⟨0, o, n, c⟩ m L cap) K := by
  rw [rgAll_vc]
  have hA := h.n
  refine ⟨fun g => h1 [] 0 0 (by omega) ?_, trivial, h.len, by decide, h.sm, fun l' n' c' q1 q2 q3 => h1 l' n' c' (by omega) ?_⟩
  · have : A = [] := List.eq_nil_of_length_eq_zero (by omega)
    rw [this]
    exact U.Rg.all rfl (Nat.le_refl _) (Nat.le_refl _) (by decide)
  · have e : l' = A := by rw [q1, List.nil_append, h.eq]
    have := h.sm
    rw [e]
    exact U.Rg.all (by omega) q3 (Nat.le_refl _) (by omega)
theorem newRing_run (K : AV → St → Prop) (m : Int) (h : ∀ m' : Int, m' = max m 0 → K (ptr 0 0) ⟨[rgB nilC m'], [], 0, [], 0⟩) : runR inv0 tbl0 21 [xi .i64 m] emptySt K := by
  rw [newRing_vc]
  exact fun z hz => h z hz
theorem take_succ' {A : List Int} {k : Nat} (h : k < A.length) : A.take (k + 1) = A.take k ++ [A.getD k 0] := by
  rw [List.take_succ_eq_append_getElem h, List.getD_eq_getElem?_getD, List.getElem?_eq_getElem h]; rfl
theorem refSame_run (K : AV → St → Prop) (L : List Int) (o n c cap : Nat) (M : List Int) (p q d dap : Nat) (A B : List Int) (hA : U.Rg L o n c cap A) (hB : U.Rg M p q d dap B)
    (h1 : A = B → K (lit (.bool true)) ⟨[], [], 0, [some (ib L cap false), some (ib M dap false)], 0⟩) (h0 : ¬ A = B → K (lit (.bool false)) ⟨[], [], 0, [some (ib L cap false), some (ib M dap false)], 0⟩) :
    runR invSR tbl0 12 [cell (aslC ⟨0, o, n, c⟩), cell (aslC ⟨1, p, q, d⟩)] ⟨[], [], 0, [some (ib L cap false), some (ib M dap false)], 0⟩ K := by
  rw [refSame_vc]
  have lA := hA.n
  have lB := hB.n
  have kA := hA.len
  have kB := hB.len
  have sA := hA.sm
  rw [← hA.eq, ← hB.eq]
  intro z0 hz0 z1 hz1
  refine ⟨fun g => h0 (fun he => g (by rw [hz0, hz1, ← lA, ← lB, he])), fun g z2 hz2 => ⟨?_, ?_⟩⟩
  · refine ⟨0, ?_⟩
    repeat' (first | exact rfl | with_reducible apply And.intro)
    exact ⟨by omega, by omega, rfl⟩
  have g : z0 = z1 := Classical.not_not.1 g
  rintro x ⟨x1, x2, x3⟩
  refine ⟨fun hx => ⟨by omega, fun j5 h5 => ⟨by omega, fun z6 h6 => ⟨by omega, fun j7 h7 => ⟨by omega, fun z8 h8 => ?_⟩⟩⟩⟩, fun hx => h1 ?_⟩
  · have e6 := h6.trans (hA.get (i := x) (by omega) h5)
    have e8 := h8.trans (hB.get (i := x) (by omega) h7)
    refine ⟨fun hne => h0 fun he => hne (by rw [e6, e8, he]), fun heq z9 h9 => ?_⟩
    have e9 := iw h9 (by omega)
    have heq : z6 = z8 := Classical.not_not.1 heq
    refine ⟨z9, ?_⟩
    repeat' (first | exact rfl | with_reducible apply And.intro)
    rotate_left
    · omega
    refine ⟨by omega, by omega, ?_⟩
    rw [show z9.toNat = x.toNat + 1 by omega, take_succ' (by omega), take_succ' (by omega), x3]
    have : U.at A x = U.at B x := by rw [← e6, ← e8, heq]
    unfold U.at at this
    rw [this]
  · rw [show x.toNat = A.length by omega, List.take_length, show A.length = B.length by omega, List.take_length] at x3
    exact x3
theorem er_succ (A : List Int) (k i : Nat) (h : k < A.length) : (A.take (k + 1)).eraseIdx i = if k = i then (A.take k).eraseIdx i else (A.take k).eraseIdx i ++ [A.getD k 0] := by
  have hl : (A.take k).length = k := by rw [List.length_take]; omega
  rw [take_succ' h, List.eraseIdx_append, hl]
  by_cases hk : k = i
  · subst hk
    rw [if_neg (Nat.lt_irrefl _), if_pos rfl, Nat.sub_self, List.eraseIdx_of_length_le (l := A.take k) (by omega)]
    exact List.append_nil _
  · rw [if_neg hk]
    split
    · rfl
    · rw [List.eraseIdx_of_length_le (l := A.take k) (by omega), List.eraseIdx_of_length_le (by simp; omega)]
theorem refCut_run (K : AV → St → Prop) (L : List Int) (o n c cap : Nat) (i : Int) (A : List Int) (hA : U.Rg L o n c cap A) (hi : 0 ≤ i)
    (h1 : ∀ (L' : List Int) (n' c' : Nat), U.Rg L' 0 n' c' c' (U.er A i) → K (cell (aslC ⟨1, 0, n', c'⟩)) ⟨[], [], 0, [some (ib L cap false), some (ib L' c' false)], 0⟩) :
    runR invSR tbl0 30 [cell (aslC ⟨0, o, n, c⟩), xi .i64 i] ⟨[], [], 0, [some (ib L cap false)], 0⟩ K := by
  rw [refCut_vc]
  have lA := hA.n
  have kA := hA.len
  have sA := hA.sm
  rw [← hA.eq]
  intro z0 hz0
  refine ⟨?_, ?_⟩
  · refine ⟨(0, [], 0, 0), ?_⟩
    repeat' (first | exact rfl | with_reducible apply And.intro)
    exact ⟨by dsimp only; omega, by dsimp only; omega, rfl, rfl, Nat.le_refl _⟩
  rintro ⟨x, B, n1, c1⟩ ⟨x1, x2, x3, x4, x5⟩
  dsimp only at x1 x2 x3 x4 x5 ⊢
  have hlB : B.length ≤ x.toNat := by rw [x3]; exact Nat.le_trans (List.length_eraseIdx_le _ _) (by rw [List.length_take]; omega)
  refine ⟨fun hx => ⟨by omega, fun j3 h3 => ⟨by omega, fun z4 h4 => ⟨fun hne => ⟨⟨by omega, by omega⟩, trivial, by omega, by decide, fun l5 n6 c7 h5 h6 h7 z8 h8 => ?_⟩, fun heq z10 h10 => ?_⟩⟩⟩, fun hx => ?_⟩
  · have e8 := iw h8 (by omega)
    have e4 := h4.trans (hA.get (i := x) (by omega) h3)
    have e5 : l5 = B ++ [z4] := by rw [h5, x4]; show List.take B.length (List.drop 0 B) ++ [z4] = _; rw [List.drop_zero, List.take_length]
    refine ⟨(z8, l5, n6, c7), ?_⟩
    repeat' (first | exact rfl | with_reducible apply And.intro)
    rotate_left
    · dsimp only; omega
    refine ⟨by dsimp only; omega, by dsimp only; omega, ?_, by dsimp only; rw [e5, List.length_append]; simp; omega, h7⟩
    dsimp only
    rw [show z8.toNat = x.toNat + 1 by omega, er_succ A x.toNat i.toNat (by omega), if_neg (by omega), ← x3, e5, e4]
    rfl
  · have e10 := iw h10 (by omega)
    have heq : x = i := Classical.not_not.1 heq
    refine ⟨(z10, B, n1, c1), ?_⟩
    repeat' (first | exact rfl | with_reducible apply And.intro)
    rotate_left
    · dsimp only; omega
    refine ⟨by dsimp only; omega, by dsimp only; omega, ?_, x4, x5⟩
    dsimp only
    rw [show z10.toNat = x.toNat + 1 by omega, er_succ A x.toNat i.toNat (by omega), if_pos (by omega), ← x3]
  · have e : B = U.er A i := by
      rw [x3, show x.toNat = A.length by omega, List.take_length]; rfl
    have := h1 B n1 c1 (by rw [← e]; exact U.Rg.all x4 x5 (Nat.le_refl _) (by omega))
    exact this
end Go.Proofs.Ytopceemfefhkmaa
end

section
set_option linter.unusedVariables false
set_option linter.unusedSimpArgs false
namespace Go.Proofs.Ytopceemfefhkmaa
open Go Reck Ost
def pRgAt : Pat := fun args σ => match args, σ with
  | [.inl (.inl (.inr (.inl (0, 0)))), i], ⟨[some ⟨53, [s, m], none, 2, false⟩], [], 0, [some ⟨3, .n .i64, L, cap, false⟩], 0⟩ => match aslX (cell s), xiX (cell m), intX i with
    | some ⟨0, o, n, c⟩, some (.i64, m), some (.i64, i) => some fun K => ∃ A, U.Rg L o n c cap A ∧ (¬ (0 ≤ i ∧ i < n) → K (rgNo 0 false) (rgSt ⟨0, o, n, c⟩ m L cap)) ∧ (0 ≤ i ∧ i < n → ∀ z : Int, z = U.at A i → K (rgNo z true) (rgSt ⟨0, o, n, c⟩ m L cap))
    | _, _, _ => none
  | _, _ => none
theorem pRgAt_ok : PatOk 29 pRgAt := by
  intro tm σ C h K hK w0 e w hk vs hvs
  unfold pRgAt at h
  split at h
  · split at h
    · rename_i hs hm hi
      obtain rfl := cell_inj (aslX_eq hs)
      obtain rfl := cell_inj (xiX_eq hm)
      simp only [Option.some.injEq] at h; subst h
      obtain ⟨A, h1, h2, h3⟩ := hK
      obtain ⟨v, u, rfl, hv, hu⟩ := twos hvs
      exact knownC noOv names (conOk_ofR tbl0_ok) (rgAt_run K _ _ _ _ _ _ _ A h1 h2 h3) w0 e w hk [v, u] (by rw [List.map_cons, List.map_cons, List.map_nil]; rw [show Reck.av e (ptr 0 0) = some v from hv, as_int hi hu]; rfl)
    · cases h
  · cases h
def pRgCut : Pat := fun args σ => match args, σ with
  | [.inl (.inl (.inr (.inl (0, 0)))), i], ⟨[some ⟨53, [s, m], none, 2, false⟩], [], 0, [some ⟨3, .n .i64, L, cap, false⟩], 0⟩ => match aslX (cell s), xiX (cell m), intX i with
    | some ⟨0, o, n, c⟩, some (.i64, m), some (.i64, i) => some fun K => ∃ A, U.Rg L o n c cap A ∧ (¬ (0 ≤ i ∧ i < n) → K (rgNo 0 false) (rgSt ⟨0, o, n, c⟩ m L cap)) ∧ (0 ≤ i ∧ i < n → ∀ (z : Int) (L' : List Int) (o' n' c' : Nat), z = U.at A i → U.Rg L' o' n' c' cap (U.er A i) → K (rgNo z true) (rgSt ⟨0, o', n', c'⟩ m L' cap))
    | _, _, _ => none
  | _, _ => none
theorem pRgCut_ok : PatOk 28 pRgCut := by
  intro tm σ C h K hK w0 e w hk vs hvs
  unfold pRgCut at h
  split at h
  · split at h
    · rename_i hs hm hi
      obtain rfl := cell_inj (aslX_eq hs)
      obtain rfl := cell_inj (xiX_eq hm)
      simp only [Option.some.injEq] at h; subst h
      obtain ⟨A, h1, h2, h3⟩ := hK
      obtain ⟨v, u, rfl, hv, hu⟩ := twos hvs
      exact knownC noOv names (conOk_ofR tbl0_ok) (rgCut_run K _ _ _ _ _ _ _ A h1 h2 h3) w0 e w hk [v, u] (by rw [List.map_cons, List.map_cons, List.map_nil]; rw [show Reck.av e (ptr 0 0) = some v from hv, as_int hi hu]; rfl)
    · cases h
  · cases h
def pRgTake : Pat := fun args σ => match args, σ with
  | [.inl (.inl (.inr (.inl (0, 0))))], ⟨[some ⟨53, [s, m], none, 2, false⟩], [], 0, [some ⟨3, .n .i64, L, cap, false⟩], 0⟩ => match aslX (cell s), xiX (cell m) with
    | some ⟨0, o, n, c⟩, some (.i64, m) => some fun K => ∃ A, U.Rg L o n c cap A ∧ (¬ (0 : Int) < n → K (rgNo 0 false) (rgSt ⟨0, o, n, c⟩ m L cap)) ∧ ((0 : Int) < n → ∀ (z : Int) (L' : List Int) (o' n' c' : Nat), z = U.at A 0 → U.Rg L' o' n' c' cap (U.er A 0) → K (rgNo z true) (rgSt ⟨0, o', n', c'⟩ m L' cap))
    | _, _ => none
  | _, _ => none
def pRgPush : Pat := fun args σ => match args, σ with
  | [.inl (.inl (.inr (.inl (0, 0)))), v], ⟨[some ⟨53, [s, m], none, 2, false⟩], [], 0, [some ⟨3, .n .i64, L, cap, false⟩], 0⟩ => match aslX (cell s), xiX (cell m), intX v with
    | some ⟨0, o, n, c⟩, some (.i64, m), some (.i64, v) => some fun K => ∃ A, (U.Rg L o n c cap A ∧ m ≤ 1000 ∧ (n : Int) ≤ m) ∧ (m = 0 → K (rgNo v true) (rgSt ⟨0, o, n, c⟩ m L cap)) ∧
        (¬ m = 0 → ¬ (n : Int) = m → ∀ (L' : List Int) (n' c' : Nat), n' = n + 1 → U.Rg L' 0 n' c' c' (A ++ [v]) → K (rgNo 0 false) ⟨[rgB (aslC ⟨1, 0, n', c'⟩) m], [], 0, [none, some (ib L' c' false)], 0⟩) ∧
        (¬ m = 0 → (n : Int) = m → ∀ (z : Int) (L' : List Int) (n' c' : Nat), n' = n → z = U.at A 0 → U.Rg L' 0 n' c' c' (U.er A 0 ++ [v]) → K (rgNo z true) ⟨[rgB (aslC ⟨1, 0, n', c'⟩) m], [], 0, [none, some (ib L' c' false)], 0⟩)
    | _, _, _ => none
  | _, _ => none
def pRgPut : Pat := fun args σ => match args, σ with
  | [.inl (.inl (.inr (.inl (0, 0)))), .inl (.inl (.inr (.inr (.inl ⟨1, 0, 2, none, 2⟩))))], ⟨[some ⟨53, [s, m], none, 2, false⟩, some ⟨3, [v, u], none, 2, false⟩], [], 0, [some ⟨3, .n .i64, L, cap, false⟩], 0⟩ => match aslX (cell s), xiX (cell m), xiX (cell v), xiX (cell u) with
    | some ⟨0, o, n, c⟩, some (.i64, m), some (.i64, v), some (.i64, u) => some fun K => ∃ A, (U.Rg L o n c cap A ∧ (0 ≤ m ∧ m ≤ 1000) ∧ (n : Int) ≤ m) ∧ (m < n + 2 → K (lit (.bool false)) ⟨[rgB (aslC ⟨0, o, n, c⟩) m, some ⟨3, [xintC .i64 v, xintC .i64 u], none, 2, false⟩], [], 0, [some (ib L cap false)], 0⟩) ∧
        (¬ m < n + 2 → ∀ (L' : List Int) (n' c' : Nat), n' = n + 2 → U.Rg L' 0 n' c' c' (A ++ [v, u]) → K (lit (.bool true)) ⟨[rgB (aslC ⟨1, 0, n', c'⟩) m, some ⟨3, [xintC .i64 v, xintC .i64 u], none, 2, false⟩], [], 0, [none, some (ib L' c' false)], 0⟩)
    | _, _, _, _ => none
  | _, _ => none
theorem pRgPut_ok : PatOk 27 pRgPut := by
  intro tm σ C h K hK w0 e w hk vs hvs
  unfold pRgPut at h
  split at h
  · split at h
    · rename_i hs hm hv hu
      obtain rfl := cell_inj (aslX_eq hs)
      obtain rfl := cell_inj (xiX_eq hm)
      obtain rfl := cell_inj (xiX_eq hv)
      obtain rfl := cell_inj (xiX_eq hu)
      simp only [Option.some.injEq] at h; subst h
      obtain ⟨A, ⟨h1, h2, h3⟩, h4, h5⟩ := hK
      exact knownC noOv names (conOk_ofR tbl0_ok) (rgPut_run K _ _ _ _ _ _ _ _ A h1 h2 h3 h4 h5) w0 e w hk vs hvs
    · cases h
  · cases h
def pRgAll : Pat := fun args σ => match args, σ with
  | [.inl (.inl (.inr (.inl (0, 0))))], ⟨[some ⟨53, [s, m], none, 2, false⟩], [], 0, [some ⟨3, .n .i64, L, cap, false⟩], 0⟩ => match aslX (cell s), xiX (cell m) with
    | some ⟨0, o, n, c⟩, some (.i64, m) => some fun K => ∃ A, U.Rg L o n c cap A ∧ ∀ (L' : List Int) (n' c' : Nat), n' = n → U.Rg L' 0 n' c' c' A → K (cell (aslC ⟨1, 0, n', c'⟩)) ⟨[rgB (aslC ⟨0, o, n, c⟩) m], [], 0, [some (ib L cap false), some (ib L' c' false)], 0⟩
    | _, _ => none
  | _, _ => none
theorem pRgAll_ok : PatOk 26 pRgAll := by
  intro tm σ C h K hK w0 e w hk vs hvs
  unfold pRgAll at h
  split at h
  · split at h
    · rename_i hs hm
      obtain rfl := cell_inj (aslX_eq hs)
      obtain rfl := cell_inj (xiX_eq hm)
      simp only [Option.some.injEq] at h; subst h
      obtain ⟨A, h1, h2⟩ := hK
      exact knownC noOv names (conOk_ofR tbl0_ok) (rgAll_run K _ _ _ _ _ _ A h1 h2) w0 e w hk vs hvs
    · cases h
  · cases h
def pRgNew : Pat := fun args σ => match args, σ with
  | [m], ⟨[], [], 0, [], 0⟩ => match intX m with
    | some (.i64, m) => some fun K => ∀ m' : Int, m' = max m 0 → K (ptr 0 0) ⟨[rgB (aslC ⟨0, 0, 0, 0⟩) m'], [], 0, [some (ib [] 0 false)], 0⟩
    | _ => none
  | _, _ => none
theorem pRgNew_ok : PatOk 21 pRgNew := by
  intro tm σ C h K hK w0 e w hk vs hvs
  unfold pRgNew at h
  split at h
  · split at h
    · rename_i m hm
      simp only [Option.some.injEq] at h; subst h
      obtain ⟨v, rfl, hv⟩ := ones hvs
      refine calls_nil (K' := fun x σ' => x = ptr 0 0 ∧ σ' = ⟨[rgB nilC (max m 0)], [], 0, [], 0⟩) 3 .i64 (knownC noOv names (conOk_ofR tbl0_ok) (newRing_run _ m (fun m' e => by subst e; exact ⟨rfl, rfl⟩)) w0 e w hk [v] (by rw [List.map_cons, List.map_nil, as_int hm hv]; rfl)) ?_
      rintro x σ' ⟨rfl, rfl⟩
      exact .inr (.inr ⟨0, 0, _, rfl, rfl, hK _ rfl⟩)
    · cases h
  · cases h
def pRSame : Pat := fun args σ => match args, σ with
  | [a, b], ⟨[], [], 0, [some ⟨3, .n .i64, L, cap, false⟩, some ⟨3, .n .i64, M, dap, false⟩], 0⟩ => match aslX a, aslX b with
    | some ⟨0, o, n, c⟩, some ⟨1, p, q, d⟩ => some fun K => ∃ A B, (U.Rg L o n c cap A ∧ U.Rg M p q d dap B) ∧ (A = B → K (lit (.bool true)) ⟨[], [], 0, [some (ib L cap false), some (ib M dap false)], 0⟩) ∧ (¬ A = B → K (lit (.bool false)) ⟨[], [], 0, [some (ib L cap false), some (ib M dap false)], 0⟩)
    | _, _ => none
  | _, _ => none
theorem pRSame_ok : PatOk 12 pRSame := by
  intro tm σ C h K hK w0 e w hk vs hvs
  unfold pRSame at h
  split at h
  · split at h
    · rename_i ha hb
      obtain rfl := aslX_eq ha
      obtain rfl := aslX_eq hb
      simp only [Option.some.injEq] at h; subst h
      obtain ⟨A, B, ⟨h1, h2⟩, h3, h4⟩ := hK
      exact knownC noOv names (conOk_ofR tbl0_ok) (refSame_run K _ _ _ _ _ _ _ _ _ _ A B h1 h2 h3 h4) w0 e w hk vs hvs
    · cases h
  · cases h
def pRCut : Pat := fun args σ => match args, σ with
  | [a, i], ⟨[], [], 0, [some ⟨3, .n .i64, L, cap, false⟩], 0⟩ => match aslX a, intX i with
    | some ⟨0, o, n, c⟩, some (.i64, i) => some fun K => ∃ A, (U.Rg L o n c cap A ∧ 0 ≤ i) ∧ ∀ (L' : List Int) (n' c' : Nat), U.Rg L' 0 n' c' c' (U.er A i) → K (cell (aslC ⟨1, 0, n', c'⟩)) ⟨[], [], 0, [some (ib L cap false), some (ib L' c' false)], 0⟩
    | _, _ => none
  | _, _ => none
theorem pRCut_ok : PatOk 30 pRCut := by
  intro tm σ C h K hK w0 e w hk vs hvs
  unfold pRCut at h
  split at h
  · split at h
    · rename_i ha hi
      obtain rfl := aslX_eq ha
      simp only [Option.some.injEq] at h; subst h
      obtain ⟨A, ⟨h1, h2⟩, h3⟩ := hK
      obtain ⟨v, u, rfl, hv, hu⟩ := twos hvs
      exact knownC noOv names (conOk_ofR tbl0_ok) (refCut_run K _ _ _ _ _ _ A h1 h2 h3) w0 e w hk [v, u] (by rw [List.map_cons, List.map_cons, List.map_nil]; rw [hv, as_int hi hu]; rfl)
    · cases h
  · cases h
def tSR : Tbl := tblOr (tblIf 29 pRgAt) (tblOr (tblIf 28 pRgCut) (tblOr (tblIf 27 pRgPut) (tblOr (tblIf 26 pRgAll) (tblOr (tblIf 21 pRgNew) (tblOr (tblIf 12 pRSame) (tblIf 30 pRCut))))))

theorem tSR_ok : TblOk Try.prog tSR := tblOr_ok (tblIf_ok pRgAt_ok) (tblOr_ok (tblIf_ok pRgCut_ok) (tblOr_ok (tblIf_ok pRgPut_ok) (tblOr_ok (tblIf_ok pRgAll_ok) (tblOr_ok (tblIf_ok pRgNew_ok) (tblOr_ok (tblIf_ok pRSame_ok) (tblIf_ok pRCut_ok))))))

end Go.Proofs.Ytopceemfefhkmaa
end
