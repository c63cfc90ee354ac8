/- Parts of a proof, one behind the other: N1 N2 F1 F2 F3 F4 F5 F6. No condition. -/
import Derived.Test.YtnnloikmjofkfaaGB
section
namespace Go.Proofs.Ytnnloikmjofkfaa
open Go Reck
set_option linter.unusedVariables false
/-- Adding bytes as numbers of sixteen bits. -/
def fold (p : Bool × Int) (l : List Int) : Bool × Int := l.foldl (fun p c => (!p.1, p.2 + (if p.1 then c * 256 else c))) p
structure U.netI (h0 : Bool) (s0 : Int) (L : List Int) (o n : Nat) (t : Nat) (k s : Int) : Prop where
  out : ∃ j : Nat, k = j ∧ j ≤ n ∧ fold (h0, s0) (((L.drop o).take n).take j) = (Nat.beq t 1, s)
structure U.downI (s0 s : Int) : Prop where
  out : 0 ≤ s ∧ s % 65535 = s0 % 65535 ∧ (s = 0 ↔ s0 = 0) ∧ s ≤ s0
structure U.refI (L : List Int) (o n : Nat) (t : Nat) (i s : Int) : Prop where
  out : ∃ j : Nat, i = 2 * j ∧ j ≤ 500 ∧ s = (fold (true, 0) (((L.drop o).take n).take (2 * j))).2 % 65535 ∧ (t = 1 ↔ 0 < (fold (true, 0) (((L.drop o).take n).take (2 * j))).2)

def netInv (c : Code) (tm : List AV) (σ : St) : Inv where
  X := Int × Int
  tags := [0, 1]
  tag := boolAt 4
  J := wrBut [17, 3, 4] c
  val t x := [(17, xi .i64 x.1), (3, xi .u64 x.2), (4, tagB t)]
  st _ _ σ := σ
  I t x := U.netI (slotB tm 4) (slotI tm 3) (slotA tm 15 σ) (slotS tm 15).o (slotS tm 15).n t x.1 x.2
  m _ x := ((slotS tm 15).n - x.1).toNat
  ren := noRen
def downInv (c : Code) (tm : List AV) : Inv where
  X := Int
  tags := [0]
  tag _ _ := 0
  J := wrBut [3] c
  val _ x := [(3, xi .u64 x)]
  st _ _ σ := σ
  I _ x := U.downI (slotI tm 3) x
  m _ x := x.toNat
  ren := noRen
def refInv (c : Code) (tm : List AV) (σ : St) : Inv where
  X := Int × Int
  tags := [0, 1]
  tag := boolAt 4
  J := wrBut [5, 3, 4] c
  val t x := [(5, xi .i64 x.1), (3, xi .i64 x.2), (4, tagB t)]
  st _ _ σ := σ
  I t x := U.refI (slotA tm 0 σ) (slotS tm 0).o (slotS tm 0).n t x.1 x.2
  m _ x := (2000 - x.1).toNat
  ren := noRen
def invN : InvF := fun c tm σ => match tm.length, firstReg c with
  | 45, some 7 => if isAsl (tm.getD 15 (lit undef)) then some (netInv c tm σ) else none
  | 45, some 15 => if isXint (tm.getD 3 (lit undef)) then some (downInv c tm) else none
  | 49, some 4 => if isAsl (tm.getD 0 (lit undef)) then some (refInv c tm σ) else none
  | _, _ => none
structure P3 where
  o : Nat
  n : Nat
  c : Nat
  cap : Nat
  ro : Bool
  L : List Int
def pt (l : List Cell) : Option Blk := some ⟨24, l, none, l.length, false⟩
def st2 (p q : P3) : St := ⟨[some ⟨24, [aslC ⟨0, p.o, p.n, p.c⟩, aslC ⟨1, q.o, q.n, q.c⟩], none, 2, false⟩], [], 0, [some (bs p.L p.cap p.ro), some (bs q.L q.cap q.ro)], 0⟩
set_option maxRecDepth 100000
theorem net1_vc (K : AV → St → Prop) (L : List Int) (o n c cap : Nat) (ro : Bool) : (runI invN tbl0 65 [sl ⟨0, 0, 1, none, 1⟩] ⟨[pt [aslC ⟨0, o, n, c⟩]], [], 0, [some (bs L cap ro)], 0⟩ K) = (∀ (z0 : Int), z0 = (↑n : Int) → (∃ (y1 : Int × Int), (0 : Int) = Prod.snd y1 ∧ (o = o ∧ n = n ∧ c = c) ∧ (o = o ∧ n = n ∧ c = c) ∧ (o = o ∧ n = n ∧ c = c) ∧ z0 = z0 ∧ (0 : Int) = Prod.fst y1 ∧ (o = o ∧ n = n ∧ c = c) ∧ (L = L ∧ cap = cap ∧ ro = ro) ∧ U.netI true (0 : Int) L o n (OfNat.ofNat (1 : Nat)) (Prod.fst y1) (Prod.snd y1)) ∧ (∀ (x2 : Int × Int), U.netI true (0 : Int) L o n (0 : Nat) (Prod.fst x2) (Prod.snd x2) → (Prod.fst x2 < z0 → ((0 : Int) ≤ Prod.fst x2 ∧ Prod.fst x2 < (↑n : Int)) ∧ ∀ (j3 : Nat), (↑j3 : Int) = (↑o : Int) + Prod.fst x2 → j3 < List.length L ∧ ∀ (z4 : Int), z4 = List.getD L j3 (0 : Int) → ∀ (z5 : Int), z5 = IntKind.wrap IntKind.u64 z4 → ∀ (z6 : Int), z6 = IntKind.wrap IntKind.u64 (Prod.snd x2 + z5) → ∀ (z7 : Int), z7 = IntKind.wrap IntKind.i64 (Prod.fst x2 + (1 : Int)) → ∃ (y8 : Int × Int), z6 = Prod.snd y8 ∧ (o = o ∧ n = n ∧ c = c) ∧ (o = o ∧ n = n ∧ c = c) ∧ (o = o ∧ n = n ∧ c = c) ∧ z0 = z0 ∧ z7 = Prod.fst y8 ∧ (o = o ∧ n = n ∧ c = c) ∧ (L = L ∧ cap = cap ∧ ro = ro) ∧ U.netI true (0 : Int) L o n (OfNat.ofNat (1 : Nat)) (Prod.fst y8) (Prod.snd y8) ∧ Int.toNat ((↑n : Int) - Prod.fst y8) < Int.toNat ((↑n : Int) - Prod.fst x2)) ∧ (¬Prod.fst x2 < z0 → (∃ (y9 : Int), Prod.snd x2 = y9 ∧ (o = o ∧ n = n ∧ c = c) ∧ (o = o ∧ n = n ∧ c = c) ∧ (o = o ∧ n = n ∧ c = c) ∧ z0 = z0 ∧ Prod.fst x2 = Prod.fst x2 ∧ (o = o ∧ n = n ∧ c = c) ∧ (L = L ∧ cap = cap ∧ ro = ro) ∧ U.downI (Prod.snd x2) y9) ∧ ∀ (x10 : Int), U.downI (Prod.snd x2) x10 → ((65535 : Int) < x10 → (0 : Int) ≤ (16 : Int) ∧ ∀ (z11 : Int), z11 = shrI IntKind.u64 x10 (16 : Int) → ∀ (z12 : Int), z12 = andI IntKind.u64 x10 (65535 : Int) → ∀ (z13 : Int), z13 = IntKind.wrap IntKind.u64 (z11 + z12) → ∃ (y14 : Int), z13 = y14 ∧ (o = o ∧ n = n ∧ c = c) ∧ (o = o ∧ n = n ∧ c = c) ∧ (o = o ∧ n = n ∧ c = c) ∧ z0 = z0 ∧ Prod.fst x2 = Prod.fst x2 ∧ (o = o ∧ n = n ∧ c = c) ∧ (L = L ∧ cap = cap ∧ ro = ro) ∧ U.downI (Prod.snd x2) y14 ∧ Int.toNat y14 < Int.toNat x10) ∧ (¬(65535 : Int) < x10 → ∀ (z15 : Int), z15 = IntKind.wrap IntKind.u16 x10 → ∀ (z16 : Int), z16 = xorI IntKind.u16 (65535 : Int) z15 → K (Sum.inl (Sum.inl (Sum.inr (Sum.inr (Sum.inr (Sum.inr (Sum.inr (Sum.inr (Sum.inl (IntKind.u16, z16)))))))))) { heap := [some { elem := (24 : Nat), cells := [Sum.inr (Sum.inr (Sum.inr (Sum.inr (Sum.inr (Sum.inr (Sum.inr (Sum.inl { a := (0 : Nat), o := o, n := n, c := c })))))))], j := none, c := (1 : Nat), z := false }], ints := [], opqs := (0 : Nat), arrs := [some { elem := OfNat.ofNat (5 : Nat), k := AK.n IntKind.u8, l := L, cap := cap, ro := ro }], junks := (0 : Nat) }))) ∧ ∀ (x17 : Int × Int), U.netI true (0 : Int) L o n (1 : Nat) (Prod.fst x17) (Prod.snd x17) → (Prod.fst x17 < z0 → ((0 : Int) ≤ Prod.fst x17 ∧ Prod.fst x17 < (↑n : Int)) ∧ ∀ (j18 : Nat), (↑j18 : Int) = (↑o : Int) + Prod.fst x17 → j18 < List.length L ∧ ∀ (z19 : Int), z19 = List.getD L j18 (0 : Int) → ∀ (z20 : Int), z20 = IntKind.wrap IntKind.u64 z19 → (0 : Int) ≤ (8 : Int) ∧ ∀ (z21 : Int), z21 = shlI IntKind.u64 z20 (8 : Int) → ∀ (z22 : Int), z22 = IntKind.wrap IntKind.u64 (Prod.snd x17 + z21) → ∀ (z23 : Int), z23 = IntKind.wrap IntKind.i64 (Prod.fst x17 + (1 : Int)) → ∃ (y24 : Int × Int), z22 = Prod.snd y24 ∧ (o = o ∧ n = n ∧ c = c) ∧ (o = o ∧ n = n ∧ c = c) ∧ (o = o ∧ n = n ∧ c = c) ∧ z0 = z0 ∧ z23 = Prod.fst y24 ∧ (o = o ∧ n = n ∧ c = c) ∧ (L = L ∧ cap = cap ∧ ro = ro) ∧ U.netI true (0 : Int) L o n (OfNat.ofNat (0 : Nat)) (Prod.fst y24) (Prod.snd y24) ∧ Int.toNat ((↑n : Int) - Prod.fst y24) < Int.toNat ((↑n : Int) - Prod.fst x17)) ∧ (¬Prod.fst x17 < z0 → (∃ (y25 : Int), Prod.snd x17 = y25 ∧ (o = o ∧ n = n ∧ c = c) ∧ (o = o ∧ n = n ∧ c = c) ∧ (o = o ∧ n = n ∧ c = c) ∧ z0 = z0 ∧ Prod.fst x17 = Prod.fst x17 ∧ (o = o ∧ n = n ∧ c = c) ∧ (L = L ∧ cap = cap ∧ ro = ro) ∧ U.downI (Prod.snd x17) y25) ∧ ∀ (x26 : Int), U.downI (Prod.snd x17) x26 → ((65535 : Int) < x26 → (0 : Int) ≤ (16 : Int) ∧ ∀ (z27 : Int), z27 = shrI IntKind.u64 x26 (16 : Int) → ∀ (z28 : Int), z28 = andI IntKind.u64 x26 (65535 : Int) → ∀ (z29 : Int), z29 = IntKind.wrap IntKind.u64 (z27 + z28) → ∃ (y30 : Int), z29 = y30 ∧ (o = o ∧ n = n ∧ c = c) ∧ (o = o ∧ n = n ∧ c = c) ∧ (o = o ∧ n = n ∧ c = c) ∧ z0 = z0 ∧ Prod.fst x17 = Prod.fst x17 ∧ (o = o ∧ n = n ∧ c = c) ∧ (L = L ∧ cap = cap ∧ ro = ro) ∧ U.downI (Prod.snd x17) y30 ∧ Int.toNat y30 < Int.toNat x26) ∧ (¬(65535 : Int) < x26 → ∀ (z31 : Int), z31 = IntKind.wrap IntKind.u16 x26 → ∀ (z32 : Int), z32 = xorI IntKind.u16 (65535 : Int) z31 → K (Sum.inl (Sum.inl (Sum.inr (Sum.inr (Sum.inr (Sum.inr (Sum.inr (Sum.inr (Sum.inl (IntKind.u16, z32)))))))))) { heap := [some { elem := (24 : Nat), cells := [Sum.inr (Sum.inr (Sum.inr (Sum.inr (Sum.inr (Sum.inr (Sum.inr (Sum.inl { a := (0 : Nat), o := o, n := n, c := c })))))))], j := none, c := (1 : Nat), z := false }], ints := [], opqs := (0 : Nat), arrs := [some { elem := OfNat.ofNat (5 : Nat), k := AK.n IntKind.u8, l := L, cap := cap, ro := ro }], junks := (0 : Nat) }))) := by kernel_rfl
theorem net2_vc (K : AV → St → Prop) (p q : P3) : (runI invN tbl0 65 [sl ⟨0, 0, 2, none, 2⟩] (st2 p q) K) = (∀ (z0 : Int), z0 = (↑p.2 : Int) → (∃ (y1 : Int × Int), (0 : Int) = Prod.snd y1 ∧ (p.1 = p.1 ∧ p.2 = p.2 ∧ p.3 = p.3) ∧ (p.1 = p.1 ∧ p.2 = p.2 ∧ p.3 = p.3) ∧ (p.1 = p.1 ∧ p.2 = p.2 ∧ p.3 = p.3) ∧ z0 = z0 ∧ (0 : Int) = Prod.fst y1 ∧ (p.1 = p.1 ∧ p.2 = p.2 ∧ p.3 = p.3) ∧ (q.1 = q.1 ∧ q.2 = q.2 ∧ q.3 = q.3) ∧ (p.6 = p.6 ∧ p.4 = p.4 ∧ p.5 = p.5) ∧ (q.6 = q.6 ∧ q.4 = q.4 ∧ q.5 = q.5) ∧ U.netI true (0 : Int) p.6 p.1 p.2 (OfNat.ofNat (1 : Nat)) (Prod.fst y1) (Prod.snd y1)) ∧ (∀ (x2 : Int × Int), U.netI true (0 : Int) p.6 p.1 p.2 (0 : Nat) (Prod.fst x2) (Prod.snd x2) → (Prod.fst x2 < z0 → ((0 : Int) ≤ Prod.fst x2 ∧ Prod.fst x2 < (↑p.2 : Int)) ∧ ∀ (j3 : Nat), (↑j3 : Int) = (↑p.1 : Int) + Prod.fst x2 → j3 < List.length p.6 ∧ ∀ (z4 : Int), z4 = List.getD p.6 j3 (0 : Int) → ∀ (z5 : Int), z5 = IntKind.wrap IntKind.u64 z4 → ∀ (z6 : Int), z6 = IntKind.wrap IntKind.u64 (Prod.snd x2 + z5) → ∀ (z7 : Int), z7 = IntKind.wrap IntKind.i64 (Prod.fst x2 + (1 : Int)) → ∃ (y8 : Int × Int), z6 = Prod.snd y8 ∧ (p.1 = p.1 ∧ p.2 = p.2 ∧ p.3 = p.3) ∧ (p.1 = p.1 ∧ p.2 = p.2 ∧ p.3 = p.3) ∧ (p.1 = p.1 ∧ p.2 = p.2 ∧ p.3 = p.3) ∧ z0 = z0 ∧ z7 = Prod.fst y8 ∧ (p.1 = p.1 ∧ p.2 = p.2 ∧ p.3 = p.3) ∧ (q.1 = q.1 ∧ q.2 = q.2 ∧ q.3 = q.3) ∧ (p.6 = p.6 ∧ p.4 = p.4 ∧ p.5 = p.5) ∧ (q.6 = q.6 ∧ q.4 = q.4 ∧ q.5 = q.5) ∧ U.netI true (0 : Int) p.6 p.1 p.2 (OfNat.ofNat (1 : Nat)) (Prod.fst y8) (Prod.snd y8) ∧ Int.toNat ((↑p.2 : Int) - Prod.fst y8) < Int.toNat ((↑p.2 : Int) - Prod.fst x2)) ∧ (¬Prod.fst x2 < z0 → ∀ (z9 : Int), z9 = (↑q.2 : Int) → (∃ (y10 : Int × Int), Prod.snd x2 = Prod.snd y10 ∧ (q.1 = q.1 ∧ q.2 = q.2 ∧ q.3 = q.3) ∧ (q.1 = q.1 ∧ q.2 = q.2 ∧ q.3 = q.3) ∧ (q.1 = q.1 ∧ q.2 = q.2 ∧ q.3 = q.3) ∧ z9 = z9 ∧ (0 : Int) = Prod.fst y10 ∧ (p.1 = p.1 ∧ p.2 = p.2 ∧ p.3 = p.3) ∧ (q.1 = q.1 ∧ q.2 = q.2 ∧ q.3 = q.3) ∧ (p.6 = p.6 ∧ p.4 = p.4 ∧ p.5 = p.5) ∧ (q.6 = q.6 ∧ q.4 = q.4 ∧ q.5 = q.5) ∧ U.netI false (Prod.snd x2) q.6 q.1 q.2 (OfNat.ofNat (0 : Nat)) (Prod.fst y10) (Prod.snd y10)) ∧ (∀ (x11 : Int × Int), U.netI false (Prod.snd x2) q.6 q.1 q.2 (0 : Nat) (Prod.fst x11) (Prod.snd x11) → (Prod.fst x11 < z9 → ((0 : Int) ≤ Prod.fst x11 ∧ Prod.fst x11 < (↑q.2 : Int)) ∧ ∀ (j12 : Nat), (↑j12 : Int) = (↑q.1 : Int) + Prod.fst x11 → j12 < List.length q.6 ∧ ∀ (z13 : Int), z13 = List.getD q.6 j12 (0 : Int) → ∀ (z14 : Int), z14 = IntKind.wrap IntKind.u64 z13 → ∀ (z15 : Int), z15 = IntKind.wrap IntKind.u64 (Prod.snd x11 + z14) → ∀ (z16 : Int), z16 = IntKind.wrap IntKind.i64 (Prod.fst x11 + (1 : Int)) → ∃ (y17 : Int × Int), z15 = Prod.snd y17 ∧ (q.1 = q.1 ∧ q.2 = q.2 ∧ q.3 = q.3) ∧ (q.1 = q.1 ∧ q.2 = q.2 ∧ q.3 = q.3) ∧ (q.1 = q.1 ∧ q.2 = q.2 ∧ q.3 = q.3) ∧ z9 = z9 ∧ z16 = Prod.fst y17 ∧ (p.1 = p.1 ∧ p.2 = p.2 ∧ p.3 = p.3) ∧ (q.1 = q.1 ∧ q.2 = q.2 ∧ q.3 = q.3) ∧ (p.6 = p.6 ∧ p.4 = p.4 ∧ p.5 = p.5) ∧ (q.6 = q.6 ∧ q.4 = q.4 ∧ q.5 = q.5) ∧ U.netI false (Prod.snd x2) q.6 q.1 q.2 (OfNat.ofNat (1 : Nat)) (Prod.fst y17) (Prod.snd y17) ∧ Int.toNat ((↑q.2 : Int) - Prod.fst y17) < Int.toNat ((↑q.2 : Int) - Prod.fst x11)) ∧ (¬Prod.fst x11 < z9 → (∃ (y18 : Int), Prod.snd x11 = y18 ∧ (q.1 = q.1 ∧ q.2 = q.2 ∧ q.3 = q.3) ∧ (q.1 = q.1 ∧ q.2 = q.2 ∧ q.3 = q.3) ∧ (q.1 = q.1 ∧ q.2 = q.2 ∧ q.3 = q.3) ∧ z9 = z9 ∧ Prod.fst x11 = Prod.fst x11 ∧ (p.1 = p.1 ∧ p.2 = p.2 ∧ p.3 = p.3) ∧ (q.1 = q.1 ∧ q.2 = q.2 ∧ q.3 = q.3) ∧ (p.6 = p.6 ∧ p.4 = p.4 ∧ p.5 = p.5) ∧ (q.6 = q.6 ∧ q.4 = q.4 ∧ q.5 = q.5) ∧ U.downI (Prod.snd x11) y18) ∧ ∀ (x19 : Int), U.downI (Prod.snd x11) x19 → ((65535 : Int) < x19 → (0 : Int) ≤ (16 : Int) ∧ ∀ (z20 : Int), z20 = shrI IntKind.u64 x19 (16 : Int) → ∀ (z21 : Int), z21 = andI IntKind.u64 x19 (65535 : Int) → ∀ (z22 : Int), z22 = IntKind.wrap IntKind.u64 (z20 + z21) → ∃ (y23 : Int), z22 = y23 ∧ (q.1 = q.1 ∧ q.2 = q.2 ∧ q.3 = q.3) ∧ (q.1 = q.1 ∧ q.2 = q.2 ∧ q.3 = q.3) ∧ (q.1 = q.1 ∧ q.2 = q.2 ∧ q.3 = q.3) ∧ z9 = z9 ∧ Prod.fst x11 = Prod.fst x11 ∧ (p.1 = p.1 ∧ p.2 = p.2 ∧ p.3 = p.3) ∧ (q.1 = q.1 ∧ q.2 = q.2 ∧ q.3 = q.3) ∧ (p.6 = p.6 ∧ p.4 = p.4 ∧ p.5 = p.5) ∧ (q.6 = q.6 ∧ q.4 = q.4 ∧ q.5 = q.5) ∧ U.downI (Prod.snd x11) y23 ∧ Int.toNat y23 < Int.toNat x19) ∧ (¬(65535 : Int) < x19 → ∀ (z24 : Int), z24 = IntKind.wrap IntKind.u16 x19 → ∀ (z25 : Int), z25 = xorI IntKind.u16 (65535 : Int) z24 → K (Sum.inl (Sum.inl (Sum.inr (Sum.inr (Sum.inr (Sum.inr (Sum.inr (Sum.inr (Sum.inl (IntKind.u16, z25)))))))))) { heap := [some { elem := (24 : Nat), cells := [Sum.inr (Sum.inr (Sum.inr (Sum.inr (Sum.inr (Sum.inr (Sum.inr (Sum.inl { a := (0 : Nat), o := p.1, n := p.2, c := p.3 }))))))), Sum.inr (Sum.inr (Sum.inr (Sum.inr (Sum.inr (Sum.inr (Sum.inr (Sum.inl { a := (1 : Nat), o := q.1, n := q.2, c := q.3 })))))))], j := none, c := (2 : Nat), z := false }], ints := [], opqs := (0 : Nat), arrs := [some { elem := OfNat.ofNat (5 : Nat), k := AK.n IntKind.u8, l := p.6, cap := p.4, ro := p.5 }, some { elem := OfNat.ofNat (5 : Nat), k := AK.n IntKind.u8, l := q.6, cap := q.4, ro := q.5 }], junks := (0 : Nat) }))) ∧ ∀ (x26 : Int × Int), U.netI false (Prod.snd x2) q.6 q.1 q.2 (1 : Nat) (Prod.fst x26) (Prod.snd x26) → (Prod.fst x26 < z9 → ((0 : Int) ≤ Prod.fst x26 ∧ Prod.fst x26 < (↑q.2 : Int)) ∧ ∀ (j27 : Nat), (↑j27 : Int) = (↑q.1 : Int) + Prod.fst x26 → j27 < List.length q.6 ∧ ∀ (z28 : Int), z28 = List.getD q.6 j27 (0 : Int) → ∀ (z29 : Int), z29 = IntKind.wrap IntKind.u64 z28 → (0 : Int) ≤ (8 : Int) ∧ ∀ (z30 : Int), z30 = shlI IntKind.u64 z29 (8 : Int) → ∀ (z31 : Int), z31 = IntKind.wrap IntKind.u64 (Prod.snd x26 + z30) → ∀ (z32 : Int), z32 = IntKind.wrap IntKind.i64 (Prod.fst x26 + (1 : Int)) → ∃ (y33 : Int × Int), z31 = Prod.snd y33 ∧ (q.1 = q.1 ∧ q.2 = q.2 ∧ q.3 = q.3) ∧ (q.1 = q.1 ∧ q.2 = q.2 ∧ q.3 = q.3) ∧ (q.1 = q.1 ∧ q.2 = q.2 ∧ q.3 = q.3) ∧ z9 = z9 ∧ z32 = Prod.fst y33 ∧ (p.1 = p.1 ∧ p.2 = p.2 ∧ p.3 = p.3) ∧ (q.1 = q.1 ∧ q.2 = q.2 ∧ q.3 = q.3) ∧ (p.6 = p.6 ∧ p.4 = p.4 ∧ p.5 = p.5) ∧ (q.6 = q.6 ∧ q.4 = q.4 ∧ q.5 = q.5) ∧ U.netI false (Prod.snd x2) q.6 q.1 q.2 (OfNat.ofNat (0 : Nat)) (Prod.fst y33) (Prod.snd y33) ∧ Int.toNat ((↑q.2 : Int) - Prod.fst y33) < Int.toNat ((↑q.2 : Int) - Prod.fst x26)) ∧ (¬Prod.fst x26 < z9 → (∃ (y34 : Int), Prod.snd x26 = y34 ∧ (q.1 = q.1 ∧ q.2 = q.2 ∧ q.3 = q.3) ∧ (q.1 = q.1 ∧ q.2 = q.2 ∧ q.3 = q.3) ∧ (q.1 = q.1 ∧ q.2 = q.2 ∧ q.3 = q.3) ∧ z9 = z9 ∧ Prod.fst x26 = Prod.fst x26 ∧ (p.1 = p.1 ∧ p.2 = p.2 ∧ p.3 = p.3) ∧ (q.1 = q.1 ∧ q.2 = q.2 ∧ q.3 = q.3) ∧ (p.6 = p.6 ∧ p.4 = p.4 ∧ p.5 = p.5) ∧ (q.6 = q.6 ∧ q.4 = q.4 ∧ q.5 = q.5) ∧ U.downI (Prod.snd x26) y34) ∧ ∀ (x35 : Int), U.downI (Prod.snd x26) x35 → ((65535 : Int) < x35 → (0 : Int) ≤ (16 : Int) ∧ ∀ (z36 : Int), z36 = shrI IntKind.u64 x35 (16 : Int) → ∀ (z37 : Int), z37 = andI IntKind.u64 x35 (65535 : Int) → ∀ (z38 : Int), z38 = IntKind.wrap IntKind.u64 (z36 + z37) → ∃ (y39 : Int), z38 = y39 ∧ (q.1 = q.1 ∧ q.2 = q.2 ∧ q.3 = q.3) ∧ (q.1 = q.1 ∧ q.2 = q.2 ∧ q.3 = q.3) ∧ (q.1 = q.1 ∧ q.2 = q.2 ∧ q.3 = q.3) ∧ z9 = z9 ∧ Prod.fst x26 = Prod.fst x26 ∧ (p.1 = p.1 ∧ p.2 = p.2 ∧ p.3 = p.3) ∧ (q.1 = q.1 ∧ q.2 = q.2 ∧ q.3 = q.3) ∧ (p.6 = p.6 ∧ p.4 = p.4 ∧ p.5 = p.5) ∧ (q.6 = q.6 ∧ q.4 = q.4 ∧ q.5 = q.5) ∧ U.downI (Prod.snd x26) y39 ∧ Int.toNat y39 < Int.toNat x35) ∧ (¬(65535 : Int) < x35 → ∀ (z40 : Int), z40 = IntKind.wrap IntKind.u16 x35 → ∀ (z41 : Int), z41 = xorI IntKind.u16 (65535 : Int) z40 → K (Sum.inl (Sum.inl (Sum.inr (Sum.inr (Sum.inr (Sum.inr (Sum.inr (Sum.inr (Sum.inl (IntKind.u16, z41)))))))))) { heap := [some { elem := (24 : Nat), cells := [Sum.inr (Sum.inr (Sum.inr (Sum.inr (Sum.inr (Sum.inr (Sum.inr (Sum.inl { a := (0 : Nat), o := p.1, n := p.2, c := p.3 }))))))), Sum.inr (Sum.inr (Sum.inr (Sum.inr (Sum.inr (Sum.inr (Sum.inr (Sum.inl { a := (1 : Nat), o := q.1, n := q.2, c := q.3 })))))))], j := none, c := (2 : Nat), z := false }], ints := [], opqs := (0 : Nat), arrs := [some { elem := OfNat.ofNat (5 : Nat), k := AK.n IntKind.u8, l := p.6, cap := p.4, ro := p.5 }, some { elem := OfNat.ofNat (5 : Nat), k := AK.n IntKind.u8, l := q.6, cap := q.4, ro := q.5 }], junks := (0 : Nat) })))) ∧ ∀ (x42 : Int × Int), U.netI true (0 : Int) p.6 p.1 p.2 (1 : Nat) (Prod.fst x42) (Prod.snd x42) → (Prod.fst x42 < z0 → ((0 : Int) ≤ Prod.fst x42 ∧ Prod.fst x42 < (↑p.2 : Int)) ∧ ∀ (j43 : Nat), (↑j43 : Int) = (↑p.1 : Int) + Prod.fst x42 → j43 < List.length p.6 ∧ ∀ (z44 : Int), z44 = List.getD p.6 j43 (0 : Int) → ∀ (z45 : Int), z45 = IntKind.wrap IntKind.u64 z44 → (0 : Int) ≤ (8 : Int) ∧ ∀ (z46 : Int), z46 = shlI IntKind.u64 z45 (8 : Int) → ∀ (z47 : Int), z47 = IntKind.wrap IntKind.u64 (Prod.snd x42 + z46) → ∀ (z48 : Int), z48 = IntKind.wrap IntKind.i64 (Prod.fst x42 + (1 : Int)) → ∃ (y49 : Int × Int), z47 = Prod.snd y49 ∧ (p.1 = p.1 ∧ p.2 = p.2 ∧ p.3 = p.3) ∧ (p.1 = p.1 ∧ p.2 = p.2 ∧ p.3 = p.3) ∧ (p.1 = p.1 ∧ p.2 = p.2 ∧ p.3 = p.3) ∧ z0 = z0 ∧ z48 = Prod.fst y49 ∧ (p.1 = p.1 ∧ p.2 = p.2 ∧ p.3 = p.3) ∧ (q.1 = q.1 ∧ q.2 = q.2 ∧ q.3 = q.3) ∧ (p.6 = p.6 ∧ p.4 = p.4 ∧ p.5 = p.5) ∧ (q.6 = q.6 ∧ q.4 = q.4 ∧ q.5 = q.5) ∧ U.netI true (0 : Int) p.6 p.1 p.2 (OfNat.ofNat (0 : Nat)) (Prod.fst y49) (Prod.snd y49) ∧ Int.toNat ((↑p.2 : Int) - Prod.fst y49) < Int.toNat ((↑p.2 : Int) - Prod.fst x42)) ∧ (¬Prod.fst x42 < z0 → ∀ (z50 : Int), z50 = (↑q.2 : Int) → (∃ (y51 : Int × Int), Prod.snd x42 = Prod.snd y51 ∧ (q.1 = q.1 ∧ q.2 = q.2 ∧ q.3 = q.3) ∧ (q.1 = q.1 ∧ q.2 = q.2 ∧ q.3 = q.3) ∧ (q.1 = q.1 ∧ q.2 = q.2 ∧ q.3 = q.3) ∧ z50 = z50 ∧ (0 : Int) = Prod.fst y51 ∧ (p.1 = p.1 ∧ p.2 = p.2 ∧ p.3 = p.3) ∧ (q.1 = q.1 ∧ q.2 = q.2 ∧ q.3 = q.3) ∧ (p.6 = p.6 ∧ p.4 = p.4 ∧ p.5 = p.5) ∧ (q.6 = q.6 ∧ q.4 = q.4 ∧ q.5 = q.5) ∧ U.netI true (Prod.snd x42) q.6 q.1 q.2 (OfNat.ofNat (1 : Nat)) (Prod.fst y51) (Prod.snd y51)) ∧ (∀ (x52 : Int × Int), U.netI true (Prod.snd x42) q.6 q.1 q.2 (0 : Nat) (Prod.fst x52) (Prod.snd x52) → (Prod.fst x52 < z50 → ((0 : Int) ≤ Prod.fst x52 ∧ Prod.fst x52 < (↑q.2 : Int)) ∧ ∀ (j53 : Nat), (↑j53 : Int) = (↑q.1 : Int) + Prod.fst x52 → j53 < List.length q.6 ∧ ∀ (z54 : Int), z54 = List.getD q.6 j53 (0 : Int) → ∀ (z55 : Int), z55 = IntKind.wrap IntKind.u64 z54 → ∀ (z56 : Int), z56 = IntKind.wrap IntKind.u64 (Prod.snd x52 + z55) → ∀ (z57 : Int), z57 = IntKind.wrap IntKind.i64 (Prod.fst x52 + (1 : Int)) → ∃ (y58 : Int × Int), z56 = Prod.snd y58 ∧ (q.1 = q.1 ∧ q.2 = q.2 ∧ q.3 = q.3) ∧ (q.1 = q.1 ∧ q.2 = q.2 ∧ q.3 = q.3) ∧ (q.1 = q.1 ∧ q.2 = q.2 ∧ q.3 = q.3) ∧ z50 = z50 ∧ z57 = Prod.fst y58 ∧ (p.1 = p.1 ∧ p.2 = p.2 ∧ p.3 = p.3) ∧ (q.1 = q.1 ∧ q.2 = q.2 ∧ q.3 = q.3) ∧ (p.6 = p.6 ∧ p.4 = p.4 ∧ p.5 = p.5) ∧ (q.6 = q.6 ∧ q.4 = q.4 ∧ q.5 = q.5) ∧ U.netI true (Prod.snd x42) q.6 q.1 q.2 (OfNat.ofNat (1 : Nat)) (Prod.fst y58) (Prod.snd y58) ∧ Int.toNat ((↑q.2 : Int) - Prod.fst y58) < Int.toNat ((↑q.2 : Int) - Prod.fst x52)) ∧ (¬Prod.fst x52 < z50 → (∃ (y59 : Int), Prod.snd x52 = y59 ∧ (q.1 = q.1 ∧ q.2 = q.2 ∧ q.3 = q.3) ∧ (q.1 = q.1 ∧ q.2 = q.2 ∧ q.3 = q.3) ∧ (q.1 = q.1 ∧ q.2 = q.2 ∧ q.3 = q.3) ∧ z50 = z50 ∧ Prod.fst x52 = Prod.fst x52 ∧ (p.1 = p.1 ∧ p.2 = p.2 ∧ p.3 = p.3) ∧ (q.1 = q.1 ∧ q.2 = q.2 ∧ q.3 = q.3) ∧ (p.6 = p.6 ∧ p.4 = p.4 ∧ p.5 = p.5) ∧ (q.6 = q.6 ∧ q.4 = q.4 ∧ q.5 = q.5) ∧ U.downI (Prod.snd x52) y59) ∧ ∀ (x60 : Int), U.downI (Prod.snd x52) x60 → ((65535 : Int) < x60 → (0 : Int) ≤ (16 : Int) ∧ ∀ (z61 : Int), z61 = shrI IntKind.u64 x60 (16 : Int) → ∀ (z62 : Int), z62 = andI IntKind.u64 x60 (65535 : Int) → ∀ (z63 : Int), z63 = IntKind.wrap IntKind.u64 (z61 + z62) → ∃ (y64 : Int), z63 = y64 ∧ (q.1 = q.1 ∧ q.2 = q.2 ∧ q.3 = q.3) ∧ (q.1 = q.1 ∧ q.2 = q.2 ∧ q.3 = q.3) ∧ (q.1 = q.1 ∧ q.2 = q.2 ∧ q.3 = q.3) ∧ z50 = z50 ∧ Prod.fst x52 = Prod.fst x52 ∧ (p.1 = p.1 ∧ p.2 = p.2 ∧ p.3 = p.3) ∧ (q.1 = q.1 ∧ q.2 = q.2 ∧ q.3 = q.3) ∧ (p.6 = p.6 ∧ p.4 = p.4 ∧ p.5 = p.5) ∧ (q.6 = q.6 ∧ q.4 = q.4 ∧ q.5 = q.5) ∧ U.downI (Prod.snd x52) y64 ∧ Int.toNat y64 < Int.toNat x60) ∧ (¬(65535 : Int) < x60 → ∀ (z65 : Int), z65 = IntKind.wrap IntKind.u16 x60 → ∀ (z66 : Int), z66 = xorI IntKind.u16 (65535 : Int) z65 → K (Sum.inl (Sum.inl (Sum.inr (Sum.inr (Sum.inr (Sum.inr (Sum.inr (Sum.inr (Sum.inl (IntKind.u16, z66)))))))))) { heap := [some { elem := (24 : Nat), cells := [Sum.inr (Sum.inr (Sum.inr (Sum.inr (Sum.inr (Sum.inr (Sum.inr (Sum.inl { a := (0 : Nat), o := p.1, n := p.2, c := p.3 }))))))), Sum.inr (Sum.inr (Sum.inr (Sum.inr (Sum.inr (Sum.inr (Sum.inr (Sum.inl { a := (1 : Nat), o := q.1, n := q.2, c := q.3 })))))))], j := none, c := (2 : Nat), z := false }], ints := [], opqs := (0 : Nat), arrs := [some { elem := OfNat.ofNat (5 : Nat), k := AK.n IntKind.u8, l := p.6, cap := p.4, ro := p.5 }, some { elem := OfNat.ofNat (5 : Nat), k := AK.n IntKind.u8, l := q.6, cap := q.4, ro := q.5 }], junks := (0 : Nat) }))) ∧ ∀ (x67 : Int × Int), U.netI true (Prod.snd x42) q.6 q.1 q.2 (1 : Nat) (Prod.fst x67) (Prod.snd x67) → (Prod.fst x67 < z50 → ((0 : Int) ≤ Prod.fst x67 ∧ Prod.fst x67 < (↑q.2 : Int)) ∧ ∀ (j68 : Nat), (↑j68 : Int) = (↑q.1 : Int) + Prod.fst x67 → j68 < List.length q.6 ∧ ∀ (z69 : Int), z69 = List.getD q.6 j68 (0 : Int) → ∀ (z70 : Int), z70 = IntKind.wrap IntKind.u64 z69 → (0 : Int) ≤ (8 : Int) ∧ ∀ (z71 : Int), z71 = shlI IntKind.u64 z70 (8 : Int) → ∀ (z72 : Int), z72 = IntKind.wrap IntKind.u64 (Prod.snd x67 + z71) → ∀ (z73 : Int), z73 = IntKind.wrap IntKind.i64 (Prod.fst x67 + (1 : Int)) → ∃ (y74 : Int × Int), z72 = Prod.snd y74 ∧ (q.1 = q.1 ∧ q.2 = q.2 ∧ q.3 = q.3) ∧ (q.1 = q.1 ∧ q.2 = q.2 ∧ q.3 = q.3) ∧ (q.1 = q.1 ∧ q.2 = q.2 ∧ q.3 = q.3) ∧ z50 = z50 ∧ z73 = Prod.fst y74 ∧ (p.1 = p.1 ∧ p.2 = p.2 ∧ p.3 = p.3) ∧ (q.1 = q.1 ∧ q.2 = q.2 ∧ q.3 = q.3) ∧ (p.6 = p.6 ∧ p.4 = p.4 ∧ p.5 = p.5) ∧ (q.6 = q.6 ∧ q.4 = q.4 ∧ q.5 = q.5) ∧ U.netI true (Prod.snd x42) q.6 q.1 q.2 (OfNat.ofNat (0 : Nat)) (Prod.fst y74) (Prod.snd y74) ∧ Int.toNat ((↑q.2 : Int) - Prod.fst y74) < Int.toNat ((↑q.2 : Int) - Prod.fst x67)) ∧ (¬Prod.fst x67 < z50 → (∃ (y75 : Int), Prod.snd x67 = y75 ∧ (q.1 = q.1 ∧ q.2 = q.2 ∧ q.3 = q.3) ∧ (q.1 = q.1 ∧ q.2 = q.2 ∧ q.3 = q.3) ∧ (q.1 = q.1 ∧ q.2 = q.2 ∧ q.3 = q.3) ∧ z50 = z50 ∧ Prod.fst x67 = Prod.fst x67 ∧ (p.1 = p.1 ∧ p.2 = p.2 ∧ p.3 = p.3) ∧ (q.1 = q.1 ∧ q.2 = q.2 ∧ q.3 = q.3) ∧ (p.6 = p.6 ∧ p.4 = p.4 ∧ p.5 = p.5) ∧ (q.6 = q.6 ∧ q.4 = q.4 ∧ q.5 = q.5) ∧ U.downI (Prod.snd x67) y75) ∧ ∀ (x76 : Int), U.downI (Prod.snd x67) x76 → ((65535 : Int) < x76 → (0 : Int) ≤ (16 : Int) ∧ ∀ (z77 : Int), z77 = shrI IntKind.u64 x76 (16 : Int) → ∀ (z78 : Int), z78 = andI IntKind.u64 x76 (65535 : Int) → ∀ (z79 : Int), z79 = IntKind.wrap IntKind.u64 (z77 + z78) → ∃ (y80 : Int), z79 = y80 ∧ (q.1 = q.1 ∧ q.2 = q.2 ∧ q.3 = q.3) ∧ (q.1 = q.1 ∧ q.2 = q.2 ∧ q.3 = q.3) ∧ (q.1 = q.1 ∧ q.2 = q.2 ∧ q.3 = q.3) ∧ z50 = z50 ∧ Prod.fst x67 = Prod.fst x67 ∧ (p.1 = p.1 ∧ p.2 = p.2 ∧ p.3 = p.3) ∧ (q.1 = q.1 ∧ q.2 = q.2 ∧ q.3 = q.3) ∧ (p.6 = p.6 ∧ p.4 = p.4 ∧ p.5 = p.5) ∧ (q.6 = q.6 ∧ q.4 = q.4 ∧ q.5 = q.5) ∧ U.downI (Prod.snd x67) y80 ∧ Int.toNat y80 < Int.toNat x76) ∧ (¬(65535 : Int) < x76 → ∀ (z81 : Int), z81 = IntKind.wrap IntKind.u16 x76 → ∀ (z82 : Int), z82 = xorI IntKind.u16 (65535 : Int) z81 → K (Sum.inl (Sum.inl (Sum.inr (Sum.inr (Sum.inr (Sum.inr (Sum.inr (Sum.inr (Sum.inl (IntKind.u16, z82)))))))))) { heap := [some { elem := (24 : Nat), cells := [Sum.inr (Sum.inr (Sum.inr (Sum.inr (Sum.inr (Sum.inr (Sum.inr (Sum.inl { a := (0 : Nat), o := p.1, n := p.2, c := p.3 }))))))), Sum.inr (Sum.inr (Sum.inr (Sum.inr (Sum.inr (Sum.inr (Sum.inr (Sum.inl { a := (1 : Nat), o := q.1, n := q.2, c := q.3 })))))))], j := none, c := (2 : Nat), z := false }], ints := [], opqs := (0 : Nat), arrs := [some { elem := OfNat.ofNat (5 : Nat), k := AK.n IntKind.u8, l := p.6, cap := p.4, ro := p.5 }, some { elem := OfNat.ofNat (5 : Nat), k := AK.n IntKind.u8, l := q.6, cap := q.4, ro := q.5 }], junks := (0 : Nat) })))) := by kernel_rfl
theorem refNet_vc (K : AV → St → Prop) (L : List Int) (o n c cap : Nat) (ro : Bool) : (runI invN tbl0 34 [cell (aslC ⟨0, o, n, c⟩)] (ar [bs L cap ro]) K) = ((∃ (y0 : Int × Int), (o = o ∧ n = n ∧ c = c) ∧ (0 : Int) = Prod.snd y0 ∧ (0 : Int) = Prod.fst y0 ∧ (L = L ∧ cap = cap ∧ ro = ro) ∧ U.refI L o n (OfNat.ofNat (0 : Nat)) (Prod.fst y0) (Prod.snd y0)) ∧ (∀ (x1 : Int × Int), U.refI L o n (0 : Nat) (Prod.fst x1) (Prod.snd x1) → ∀ (z2 : Int), z2 = (↑n : Int) → (Prod.fst x1 < z2 → ((0 : Int) ≤ Prod.fst x1 ∧ Prod.fst x1 < (↑n : Int)) ∧ ∀ (j3 : Nat), (↑j3 : Int) = (↑o : Int) + Prod.fst x1 → j3 < List.length L ∧ ∀ (z4 : Int), z4 = List.getD L j3 (0 : Int) → ∀ (z5 : Int), z5 = IntKind.wrap IntKind.i64 z4 → ∀ (z6 : Int), z6 = IntKind.wrap IntKind.i64 (z5 * (256 : Int)) → ∀ (z7 : Int), z7 = IntKind.wrap IntKind.i64 (Prod.fst x1 + (1 : Int)) → ∀ (z8 : Int), z8 = (↑n : Int) → (z7 < z8 → ∀ (z9 : Int), z9 = IntKind.wrap IntKind.i64 (Prod.fst x1 + (1 : Int)) → ((0 : Int) ≤ z9 ∧ z9 < (↑n : Int)) ∧ ∀ (j10 : Nat), (↑j10 : Int) = (↑o : Int) + z9 → j10 < List.length L ∧ ∀ (z11 : Int), z11 = List.getD L j10 (0 : Int) → ∀ (z12 : Int), z12 = IntKind.wrap IntKind.i64 z11 → ∀ (z13 : Int), z13 = IntKind.wrap IntKind.i64 (z6 + z12) → ((0 : Int) < z13 → ∀ (z14 : Int), z14 = IntKind.wrap IntKind.i64 (Prod.snd x1 + z13) → ¬(65535 : Int) = (0 : Int) ∧ ∀ (z15 : Int), z15 = Int.tmod z14 (65535 : Int) → ∀ (z16 : Int), z16 = IntKind.wrap IntKind.i64 (Prod.fst x1 + (2 : Int)) → ∃ (y17 : Int × Int), (o = o ∧ n = n ∧ c = c) ∧ z15 = Prod.snd y17 ∧ z16 = Prod.fst y17 ∧ (L = L ∧ cap = cap ∧ ro = ro) ∧ U.refI L o n (OfNat.ofNat (1 : Nat)) (Prod.fst y17) (Prod.snd y17) ∧ Int.toNat ((2000 : Int) - Prod.fst y17) < Int.toNat ((2000 : Int) - Prod.fst x1)) ∧ (¬(0 : Int) < z13 → ∀ (z18 : Int), z18 = IntKind.wrap IntKind.i64 (Prod.snd x1 + z13) → ¬(65535 : Int) = (0 : Int) ∧ ∀ (z19 : Int), z19 = Int.tmod z18 (65535 : Int) → ∀ (z20 : Int), z20 = IntKind.wrap IntKind.i64 (Prod.fst x1 + (2 : Int)) → ∃ (y21 : Int × Int), (o = o ∧ n = n ∧ c = c) ∧ z19 = Prod.snd y21 ∧ z20 = Prod.fst y21 ∧ (L = L ∧ cap = cap ∧ ro = ro) ∧ U.refI L o n (OfNat.ofNat (0 : Nat)) (Prod.fst y21) (Prod.snd y21) ∧ Int.toNat ((2000 : Int) - Prod.fst y21) < Int.toNat ((2000 : Int) - Prod.fst x1))) ∧ (¬z7 < z8 → ((0 : Int) < z6 → ∀ (z22 : Int), z22 = IntKind.wrap IntKind.i64 (Prod.snd x1 + z6) → ¬(65535 : Int) = (0 : Int) ∧ ∀ (z23 : Int), z23 = Int.tmod z22 (65535 : Int) → ∀ (z24 : Int), z24 = IntKind.wrap IntKind.i64 (Prod.fst x1 + (2 : Int)) → ∃ (y25 : Int × Int), (o = o ∧ n = n ∧ c = c) ∧ z23 = Prod.snd y25 ∧ z24 = Prod.fst y25 ∧ (L = L ∧ cap = cap ∧ ro = ro) ∧ U.refI L o n (OfNat.ofNat (1 : Nat)) (Prod.fst y25) (Prod.snd y25) ∧ Int.toNat ((2000 : Int) - Prod.fst y25) < Int.toNat ((2000 : Int) - Prod.fst x1)) ∧ (¬(0 : Int) < z6 → ∀ (z26 : Int), z26 = IntKind.wrap IntKind.i64 (Prod.snd x1 + z6) → ¬(65535 : Int) = (0 : Int) ∧ ∀ (z27 : Int), z27 = Int.tmod z26 (65535 : Int) → ∀ (z28 : Int), z28 = IntKind.wrap IntKind.i64 (Prod.fst x1 + (2 : Int)) → ∃ (y29 : Int × Int), (o = o ∧ n = n ∧ c = c) ∧ z27 = Prod.snd y29 ∧ z28 = Prod.fst y29 ∧ (L = L ∧ cap = cap ∧ ro = ro) ∧ U.refI L o n (OfNat.ofNat (0 : Nat)) (Prod.fst y29) (Prod.snd y29) ∧ Int.toNat ((2000 : Int) - Prod.fst y29) < Int.toNat ((2000 : Int) - Prod.fst x1)))) ∧ (¬Prod.fst x1 < z2 → (Prod.snd x1 = (0 : Int) → ∀ (z30 : Int), z30 = IntKind.wrap IntKind.i64 ((65535 : Int) - Prod.snd x1) → ∀ (z31 : Int), z31 = IntKind.wrap IntKind.u16 z30 → K (Sum.inl (Sum.inl (Sum.inr (Sum.inr (Sum.inr (Sum.inr (Sum.inr (Sum.inr (Sum.inl (IntKind.u16, z31)))))))))) { heap := [], ints := [], opqs := (0 : Nat), arrs := [some { elem := OfNat.ofNat (5 : Nat), k := AK.n IntKind.u8, l := L, cap := cap, ro := ro }], junks := (0 : Nat) }) ∧ (¬Prod.snd x1 = (0 : Int) → ∀ (z32 : Int), z32 = IntKind.wrap IntKind.i64 ((65535 : Int) - Prod.snd x1) → ∀ (z33 : Int), z33 = IntKind.wrap IntKind.u16 z32 → K (Sum.inl (Sum.inl (Sum.inr (Sum.inr (Sum.inr (Sum.inr (Sum.inr (Sum.inr (Sum.inl (IntKind.u16, z33)))))))))) { heap := [], ints := [], opqs := (0 : Nat), arrs := [some { elem := OfNat.ofNat (5 : Nat), k := AK.n IntKind.u8, l := L, cap := cap, ro := ro }], junks := (0 : Nat) }))) ∧ ∀ (x34 : Int × Int), U.refI L o n (1 : Nat) (Prod.fst x34) (Prod.snd x34) → ∀ (z35 : Int), z35 = (↑n : Int) → (Prod.fst x34 < z35 → ((0 : Int) ≤ Prod.fst x34 ∧ Prod.fst x34 < (↑n : Int)) ∧ ∀ (j36 : Nat), (↑j36 : Int) = (↑o : Int) + Prod.fst x34 → j36 < List.length L ∧ ∀ (z37 : Int), z37 = List.getD L j36 (0 : Int) → ∀ (z38 : Int), z38 = IntKind.wrap IntKind.i64 z37 → ∀ (z39 : Int), z39 = IntKind.wrap IntKind.i64 (z38 * (256 : Int)) → ∀ (z40 : Int), z40 = IntKind.wrap IntKind.i64 (Prod.fst x34 + (1 : Int)) → ∀ (z41 : Int), z41 = (↑n : Int) → (z40 < z41 → ∀ (z42 : Int), z42 = IntKind.wrap IntKind.i64 (Prod.fst x34 + (1 : Int)) → ((0 : Int) ≤ z42 ∧ z42 < (↑n : Int)) ∧ ∀ (j43 : Nat), (↑j43 : Int) = (↑o : Int) + z42 → j43 < List.length L ∧ ∀ (z44 : Int), z44 = List.getD L j43 (0 : Int) → ∀ (z45 : Int), z45 = IntKind.wrap IntKind.i64 z44 → ∀ (z46 : Int), z46 = IntKind.wrap IntKind.i64 (z39 + z45) → ∀ (z47 : Int), z47 = IntKind.wrap IntKind.i64 (Prod.snd x34 + z46) → ¬(65535 : Int) = (0 : Int) ∧ ∀ (z48 : Int), z48 = Int.tmod z47 (65535 : Int) → ∀ (z49 : Int), z49 = IntKind.wrap IntKind.i64 (Prod.fst x34 + (2 : Int)) → ∃ (y50 : Int × Int), (o = o ∧ n = n ∧ c = c) ∧ z48 = Prod.snd y50 ∧ z49 = Prod.fst y50 ∧ (L = L ∧ cap = cap ∧ ro = ro) ∧ U.refI L o n (OfNat.ofNat (1 : Nat)) (Prod.fst y50) (Prod.snd y50) ∧ Int.toNat ((2000 : Int) - Prod.fst y50) < Int.toNat ((2000 : Int) - Prod.fst x34)) ∧ (¬z40 < z41 → ∀ (z51 : Int), z51 = IntKind.wrap IntKind.i64 (Prod.snd x34 + z39) → ¬(65535 : Int) = (0 : Int) ∧ ∀ (z52 : Int), z52 = Int.tmod z51 (65535 : Int) → ∀ (z53 : Int), z53 = IntKind.wrap IntKind.i64 (Prod.fst x34 + (2 : Int)) → ∃ (y54 : Int × Int), (o = o ∧ n = n ∧ c = c) ∧ z52 = Prod.snd y54 ∧ z53 = Prod.fst y54 ∧ (L = L ∧ cap = cap ∧ ro = ro) ∧ U.refI L o n (OfNat.ofNat (1 : Nat)) (Prod.fst y54) (Prod.snd y54) ∧ Int.toNat ((2000 : Int) - Prod.fst y54) < Int.toNat ((2000 : Int) - Prod.fst x34))) ∧ (¬Prod.fst x34 < z35 → (Prod.snd x34 = (0 : Int) → K (Sum.inl (Sum.inl (Sum.inr (Sum.inr (Sum.inr (Sum.inr (Sum.inr (Sum.inr (Sum.inl (IntKind.u16, (0 : Int))))))))))) { heap := [], ints := [], opqs := (0 : Nat), arrs := [some { elem := OfNat.ofNat (5 : Nat), k := AK.n IntKind.u8, l := L, cap := cap, ro := ro }], junks := (0 : Nat) }) ∧ (¬Prod.snd x34 = (0 : Int) → ∀ (z55 : Int), z55 = IntKind.wrap IntKind.i64 ((65535 : Int) - Prod.snd x34) → ∀ (z56 : Int), z56 = IntKind.wrap IntKind.u16 z55 → K (Sum.inl (Sum.inl (Sum.inr (Sum.inr (Sum.inr (Sum.inr (Sum.inr (Sum.inr (Sum.inl (IntKind.u16, z56)))))))))) { heap := [], ints := [], opqs := (0 : Nat), arrs := [some { elem := OfNat.ofNat (5 : Nat), k := AK.n IntKind.u8, l := L, cap := cap, ro := ro }], junks := (0 : Nat) }))) := by kernel_rfl
end Go.Proofs.Ytnnloikmjofkfaa
end

section
set_option linter.unusedVariables false
set_option linter.unusedSimpArgs false
namespace Go.Proofs.Ytnnloikmjofkfaa
open Go Reck

theorem fold_snoc (p : Bool × Int) (l : List Int) (c : Int) : fold p (l ++ [c]) = (!(fold p l).1, (fold p l).2 + (if (fold p l).1 then c * 256 else c)) := by
  unfold fold; rw [List.foldl_append]; rfl
theorem fold_append (p : Bool × Int) (l m : List Int) : fold p (l ++ m) = fold (fold p l) m := by simp [fold]
theorem fold_par (b : Bool) (s : Int) (l : List Int) : (fold (b, s) l).1 = if l.length % 2 = 0 then b else !b := by
  induction l generalizing b s with
  | nil => rfl
  | cons c l ih =>
    show (fold (!b, s + (if b then c * 256 else c)) l).1 = _
    rw [ih, List.length_cons]
    by_cases h : l.length % 2 = 0
    · rw [if_pos h, if_neg (by omega)]
    · rw [if_neg h, if_pos (by omega)]; simp
def byteL (l : List Int) : Prop := ∀ x ∈ l, 0 ≤ x ∧ x ≤ 255
theorem fold_bnd (b : Bool) (s : Int) (l : List Int) (h : byteL l) : s ≤ (fold (b, s) l).2 ∧ (fold (b, s) l).2 ≤ s + 65280 * l.length := by
  induction l generalizing b s with
  | nil => simp [fold]
  | cons c l ih =>
    have h1 := ih (!b) (s + (if b then c * 256 else c)) (fun x hx => h x (List.mem_cons_of_mem _ hx))
    have h2 := h c (List.mem_cons_self ..)
    have e : fold (b, s) (c :: l) = fold (!b, s + (if b then c * 256 else c)) l := rfl
    rw [e, List.length_cons]
    have h3 : 0 ≤ (if b then c * 256 else c) ∧ (if b then c * 256 else c) ≤ 65280 := by split <;> omega
    constructor
    · omega
    · have := h1.2; push_cast; omega
theorem take_get {l : List Int} {k : Nat} (h : k < l.length) : l.take (k + 1) = l.take k ++ [l.getD k 0] := by
  rw [List.take_succ_eq_append_getElem h]; simp [List.getD, h]
theorem sub_get (L : List Int) (o n k : Nat) (hl : o + n ≤ L.length) (h : k < n) : ((L.drop o).take n).getD k 0 = L.getD (o + k) 0 := by
  simp [List.getD, List.getElem?_take, h, List.getElem?_drop]
theorem sub_len (L : List Int) (o n : Nat) (hl : o + n ≤ L.length) : ((L.drop o).take n).length = n := by simp; omega
theorem byteL_sub {L : List Int} (h : byteL L) (o n : Nat) : byteL ((L.drop o).take n) := fun x hx => h x (List.mem_of_mem_drop (List.mem_of_mem_take hx))
theorem byteL_take {L : List Int} (h : byteL L) (n : Nat) : byteL (L.take n) := fun x hx => h x (List.mem_of_mem_take hx)
theorem byteL_get {L : List Int} (h : byteL L) (k : Nat) : 0 ≤ L.getD k 0 ∧ L.getD k 0 ≤ 255 := by
  rw [List.getD_eq_getElem?_getD]
  cases hk : L[k]? with
  | none => simp
  | some x => exact h x (List.mem_of_getElem? hk)

/-- The Internet's sum. -/
def netS (S : Int) : Int := 65535 - (if S = 0 then 0 else if S % 65535 = 0 then 65535 else S % 65535)

theorem refNet_run (K : AV → St → Prop) (L : List Int) (o n c cap : Nat) (ro : Bool) (hb : byteL L) (hl : o + n ≤ L.length) (hn : n ≤ 900)
    (h : K (xi .u16 (netS (fold (true, 0) ((L.drop o).take n)).2)) (ar [bs L cap ro])) : runI invN tbl0 34 [cell (aslC ⟨0, o, n, c⟩)] (ar [bs L cap ro]) K := by
  rw [refNet_vc]
  have hlen := sub_len L o n hl
  have hB := byteL_sub hb o n
  have hget := sub_get L o n
  generalize hP : (L.drop o).take n = P at *
  have hpar : ∀ j, 2 * j ≤ n → (fold (true, 0) (P.take (2 * j))).1 = true := by
    intro j hj
    rw [fold_par, List.length_take, Nat.min_eq_left (by omega), if_pos (by omega)]
  have hbn : ∀ j, 0 ≤ (fold (true, 0) (P.take j)).2 ∧ (fold (true, 0) (P.take j)).2 ≤ 65280 * 900 := by
    intro j
    have h1 := fold_bnd true 0 (P.take j) (byteL_take hB j)
    have h2 : (P.take j).length ≤ 900 := by rw [List.length_take]; omega
    omega
  have one : ∀ j : Nat, 2 * j + 1 ≤ n → (fold (true, 0) (P.take (2 * j + 1))).2 = (fold (true, 0) (P.take (2 * j))).2 + L.getD (o + 2 * j) 0 * 256 := by
    intro j hj
    rw [take_get (by omega), fold_snoc, hpar j (by omega), hget _ hl (by omega)]; simp
  have two : ∀ j : Nat, 2 * j + 2 ≤ n → (fold (true, 0) (P.take (2 * (j + 1)))).2 = (fold (true, 0) (P.take (2 * j))).2 + (L.getD (o + 2 * j) 0 * 256 + L.getD (o + (2 * j + 1)) 0) := by
    intro j hj
    have := one j (by omega)
    rw [show 2 * (j + 1) = 2 * j + 1 + 1 by omega, take_get (by omega), fold_snoc, this, fold_par, List.length_take, Nat.min_eq_left (by omega), if_neg (by omega), hget _ hl (by omega)]
    simp; omega
  have last : ∀ j : Nat, 2 * j + 1 = n → P.take (2 * (j + 1)) = P.take (2 * j + 1) := by
    intro j hj
    rw [List.take_of_length_le (by omega), List.take_of_length_le (by omega)]
  -- a round
  have round : ∀ (t : Nat) (x : Int × Int), U.refI L o n t x.1 x.2 → x.1 < n → ∃ j : Nat, x.1 = 2 * j ∧ 2 * j < n ∧ 0 ≤ x.2 ∧ x.2 < 65535 ∧ x.2 = (fold (true, 0) (P.take (2 * j))).2 % 65535 ∧ (t = 1 ↔ 0 < (fold (true, 0) (P.take (2 * j))).2) := by
    rintro t ⟨i, s⟩ ⟨j, h1, h2, h3, h4⟩ hlt
    rw [hP] at h3 h4
    dsimp only at *
    exact ⟨j, h1, by omega, by omega, by omega, h3, h4⟩
  have fin : ∀ (t : Nat) (x : Int × Int), U.refI L o n t x.1 x.2 → ¬ x.1 < n → 0 ≤ x.2 ∧ x.2 < 65535 ∧ x.2 = (fold (true, 0) P).2 % 65535 ∧ (t = 1 ↔ 0 < (fold (true, 0) P).2) ∧ 0 ≤ (fold (true, 0) P).2 := by
    rintro t ⟨i, s⟩ ⟨j, h1, h2, h3, h4⟩ hge
    rw [hP] at h3 h4
    dsimp only at *
    rw [List.take_of_length_le (by omega)] at h3 h4
    have := hbn 900
    rw [List.take_of_length_le (by omega)] at this
    exact ⟨by omega, by omega, h3, h4, by omega⟩
  have next : ∀ (t : Nat) (j : Nat) (d S : Int), 2 * j < n → (fold (true, 0) (P.take (2 * (j + 1)))).2 = S + d → 0 ≤ S → 0 ≤ d → S = (fold (true, 0) (P.take (2 * j))).2 → (t = 1 ↔ 0 < S + d) → U.refI L o n t (2 * j + 2) ((S + d) % 65535) := by
    intro t j d S hj h1 h2 h3 h4 h5
    refine ⟨j + 1, by push_cast; omega, by omega, ?_, ?_⟩
    · rw [hP, h1]
    · rw [hP, h1]; exact h5
  have leaf : ∀ (s : Int) (z30 z31 : Int) (t : Nat), 0 ≤ s → s < 65535 → s = (fold (true, 0) P).2 % 65535 → (t = 1 ↔ 0 < (fold (true, 0) P).2) → 0 ≤ (fold (true, 0) P).2 → (z30 = 65535 - s ∧ (t = 1 → ¬ s = 0) ∨ z30 = 0 ∧ t = 1 ∧ s = 0) → z31 = IntKind.wrap IntKind.u16 z30 →
      K (xi .u16 z31) (ar [bs L cap ro]) := by
    intro s z30 z31 t h1 h2 h3 h4 h5 h6 h7
    have h8 : z31 = z30 := wu16 h7 (by omega)
    have h9 : z31 = netS (fold (true, 0) P).2 := by
      rw [h8]; unfold netS
      rcases h6 with ⟨h6, h6'⟩ | ⟨h6, h6'⟩
      · by_cases hS : (fold (true, 0) P).2 = 0
        · rw [if_pos hS]; omega
        · rw [if_neg hS, if_neg (by omega)]; omega
      · rw [if_neg (by omega), if_pos (by omega)]; omega
    rw [h9]; exact h
  refine ⟨⟨(0, 0), ⟨rfl, rfl, rfl⟩, rfl, rfl, ⟨rfl, rfl, rfl⟩, ⟨⟨0, rfl, by omega, by simp [fold], by simp [fold]⟩⟩⟩, ?_, ?_⟩
  · intro x hI z2 hz2
    subst hz2
    refine ⟨fun hlt => ?_, fun hge => ?_⟩
    · obtain ⟨j, h1, h2, h3, h4, h5, h6⟩ := round _ _ hI hlt
      refine ⟨⟨by omega, hlt⟩, fun j3 hj3 => ⟨by omega, ?_⟩⟩
      obtain rfl : j3 = o + 2 * j := by omega
      have b0 := byteL_get hb (o + 2 * j)
      have b1 := byteL_get hb (o + (2 * j + 1))
      have S0 := hbn (2 * j)
      intro z4 hz4 z5 hz5 z6 hz6 z7 hz7 z8 hz8
      rw [← hz4] at b0
      have e5 := w64 hz5 (by omega)
      have e6 := w64 hz6 (by omega)
      have e7 := w64 hz7 (by omega)
      refine ⟨fun hlt2 => ?_, fun hge2 => ?_⟩
      · intro z9 hz9
        have e9 := w64 hz9 (by omega)
        refine ⟨⟨by omega, by omega⟩, fun j10 hj10 => ⟨by omega, ?_⟩⟩
        obtain rfl : j10 = o + (2 * j + 1) := by omega
        intro z11 hz11 z12 hz12 z13 hz13
        rw [← hz11] at b1
        have e12 := w64 hz12 (by omega)
        have e13 := w64 hz13 (by omega)
        have hnx := two j (by omega)
        rw [← hz4, ← hz11] at hnx
        refine ⟨fun hp z14 hz14 => ⟨by decide, fun z15 hz15 z16 hz16 => ?_⟩, fun hp z14 hz14 => ⟨by decide, fun z15 hz15 z16 hz16 => ?_⟩⟩
        all_goals
          have e14 := w64 hz14 (by omega)
          have e16 := w64 hz16 (by omega)
          have e15 : z15 = ((fold (true, 0) (P.take (2 * j))).2 + (z4 * 256 + z11)) % 65535 := by rw [hz15, Int.tmod_eq_emod_of_nonneg (by omega)]; omega
          refine ⟨(_, _), ⟨rfl, rfl, rfl⟩, rfl, rfl, ⟨rfl, rfl, rfl⟩, ?_, ?_⟩
          · dsimp only
            rw [e15, e16, h1]
            first | exact next 1 j _ _ h2 hnx S0.1 (by omega) rfl (by omega) | exact next 0 j _ _ h2 hnx S0.1 (by omega) rfl (by omega)
          · dsimp only; omega
      · have hnx := last j (by omega)
        have hone := one j (by omega)
        rw [← hz4] at hone
        rw [← hnx] at hone
        refine ⟨fun hp z14 hz14 => ⟨by decide, fun z15 hz15 z16 hz16 => ?_⟩, fun hp z14 hz14 => ⟨by decide, fun z15 hz15 z16 hz16 => ?_⟩⟩
        all_goals
          have e14 := w64 hz14 (by omega)
          have e16 := w64 hz16 (by omega)
          have e15 : z15 = ((fold (true, 0) (P.take (2 * j))).2 + z4 * 256) % 65535 := by rw [hz15, Int.tmod_eq_emod_of_nonneg (by omega)]; omega
          refine ⟨(_, _), ⟨rfl, rfl, rfl⟩, rfl, rfl, ⟨rfl, rfl, rfl⟩, ?_, ?_⟩
          · dsimp only
            rw [e15, e16, h1]
            first | exact next 1 j _ _ h2 hone S0.1 (by omega) rfl (by omega) | exact next 0 j _ _ h2 hone S0.1 (by omega) rfl (by omega)
          · dsimp only; omega
    · obtain ⟨g1, g2, g3, g4, g5⟩ := fin _ _ hI hge
      refine ⟨fun h0 z30 hz30 z31 hz31 => leaf _ _ _ _ g1 g2 g3 g4 g5 (.inl ⟨w64 hz30 (by omega), by simp⟩) hz31, fun h0 z30 hz30 z31 hz31 => leaf _ _ _ _ g1 g2 g3 g4 g5 (.inl ⟨w64 hz30 (by omega), by simp⟩) hz31⟩
  · intro x hI z2 hz2
    subst hz2
    refine ⟨fun hlt => ?_, fun hge => ?_⟩
    · obtain ⟨j, h1, h2, h3, h4, h5, h6⟩ := round _ _ hI hlt
      refine ⟨⟨by omega, hlt⟩, fun j3 hj3 => ⟨by omega, ?_⟩⟩
      obtain rfl : j3 = o + 2 * j := by omega
      have b0 := byteL_get hb (o + 2 * j)
      have b1 := byteL_get hb (o + (2 * j + 1))
      have S0 := hbn (2 * j)
      intro z4 hz4 z5 hz5 z6 hz6 z7 hz7 z8 hz8
      rw [← hz4] at b0
      have e5 := w64 hz5 (by omega)
      have e6 := w64 hz6 (by omega)
      have e7 := w64 hz7 (by omega)
      refine ⟨fun hlt2 => ?_, fun hge2 => ?_⟩
      · intro z9 hz9
        have e9 := w64 hz9 (by omega)
        refine ⟨⟨by omega, by omega⟩, fun j10 hj10 => ⟨by omega, ?_⟩⟩
        obtain rfl : j10 = o + (2 * j + 1) := by omega
        intro z11 hz11 z12 hz12 z13 hz13
        rw [← hz11] at b1
        have e12 := w64 hz12 (by omega)
        have e13 := w64 hz13 (by omega)
        have hnx := two j (by omega)
        rw [← hz4, ← hz11] at hnx
        refine fun z14 hz14 => ⟨by decide, fun z15 hz15 z16 hz16 => ?_⟩
        have e14 := w64 hz14 (by omega)
        have e16 := w64 hz16 (by omega)
        have e15 : z15 = ((fold (true, 0) (P.take (2 * j))).2 + (z4 * 256 + z11)) % 65535 := by rw [hz15, Int.tmod_eq_emod_of_nonneg (by omega)]; omega
        refine ⟨(_, _), ⟨rfl, rfl, rfl⟩, rfl, rfl, ⟨rfl, rfl, rfl⟩, ?_, ?_⟩
        · dsimp only
          rw [e15, e16, h1]
          exact next 1 j _ _ h2 hnx S0.1 (by omega) rfl (by omega)
        · dsimp only; omega
      · have hnx := last j (by omega)
        have hone := one j (by omega)
        rw [← hz4] at hone
        rw [← hnx] at hone
        refine fun z14 hz14 => ⟨by decide, fun z15 hz15 z16 hz16 => ?_⟩
        have e14 := w64 hz14 (by omega)
        have e16 := w64 hz16 (by omega)
        have e15 : z15 = ((fold (true, 0) (P.take (2 * j))).2 + z4 * 256) % 65535 := by rw [hz15, Int.tmod_eq_emod_of_nonneg (by omega)]; omega
        refine ⟨(_, _), ⟨rfl, rfl, rfl⟩, rfl, rfl, ⟨rfl, rfl, rfl⟩, ?_, ?_⟩
        · dsimp only
          rw [e15, e16, h1]
          exact next 1 j _ _ h2 hone S0.1 (by omega) rfl (by omega)
        · dsimp only; omega
    · obtain ⟨g1, g2, g3, g4, g5⟩ := fin _ _ hI hge
      refine ⟨fun h0 => leaf (Prod.snd x) 0 _ 1 g1 g2 g3 (by omega) g5 (.inr ⟨rfl, rfl, h0⟩) (by decide), fun h0 z30 hz30 z31 hz31 => leaf _ _ _ 1 g1 g2 g3 g4 g5 (.inl ⟨w64 hz30 (by omega), fun _ => h0⟩) hz31⟩
/-! ### Bits of numbers without a sign -/
theorem u64_of (a : Int) (h : 0 ≤ a ∧ a ≤ 18446744073709551615) : (BitVec.ofInt 64 a).toNat = a.toNat := by
  rw [BitVec.toNat_ofInt]; omega
theorem and_mask {a : Int} (j : Nat) (hj : j < 64) (h : 0 ≤ a ∧ a ≤ 18446744073709551615) {m : Int} (hm : m = 2 ^ j - 1) : andI .u64 a m = a % 2 ^ j := by
  have hp : (2 : Nat) ^ j < 2 ^ 64 := Nat.pow_lt_pow_right (by decide) hj
  have hp0 : 0 < (2 : Nat) ^ j := Nat.pow_pos (by decide)
  have e1 : m = (((2 : Nat) ^ j - 1 : Nat) : Int) := by rw [hm, Int.natCast_sub (by omega)]; simp
  have hc : ((2 : Int) ^ j) = (((2 : Nat) ^ j : Nat) : Int) := by simp
  unfold andI
  show IntKind.u64.wrap ((BitVec.ofInt 64 a &&& BitVec.ofInt 64 m).toNat : Int) = _
  rw [BitVec.toNat_and, u64_of a h, u64_of m (by rw [e1]; omega), e1]
  have : ((((2 : Nat) ^ j - 1 : Nat) : Int)).toNat = 2 ^ j - 1 := by omega
  rw [this, Nat.and_two_pow_sub_one_eq_mod, hc]
  have h2 : a.toNat % 2 ^ j < 2 ^ j := Nat.mod_lt _ hp0
  rw [wrap_in (k := .u64) (by simp [IntKind.min, IntKind.max, IntKind.signed, IntKind.bits]; omega)]
  have : a = (a.toNat : Int) := by omega
  rw [this]; simp
theorem shr_at {a : Int} (j : Nat) (hj : j ≤ 64) (h : 0 ≤ a) {m : Int} (hm : m = j) : shrI .u64 a m = a / 2 ^ j := by
  unfold shrI
  rw [hm, Int.toNat_natCast, show min j (IntKind.bits .u64) = j from Nat.min_eq_left hj, Int.fdiv_eq_ediv_of_nonneg]
  exact Int.le_of_lt (Int.pow_pos (by decide))
theorem xor_full16 {a : Int} (h : 0 ≤ a ∧ a ≤ 65535) : xorI .u16 65535 a = 65535 - a := by
  unfold xorI
  show IntKind.u16.wrap ((BitVec.ofInt 16 65535 ^^^ BitVec.ofInt 16 a).toNat : Int) = _
  have e1 : BitVec.ofInt 16 65535 = BitVec.allOnes 16 := by decide
  have e2 : (BitVec.ofInt 16 a).toNat = a.toNat := by rw [BitVec.toNat_ofInt]; omega
  rw [e1, BitVec.allOnes_xor, BitVec.toNat_not, e2, wrap_in (k := .u16) (by simp [IntKind.min, IntKind.max, IntKind.signed, IntKind.bits]; omega)]
  omega
theorem shl8u {a : Int} (h : 0 ≤ a ∧ a ≤ 255) : shlI .u64 a 8 = a * 256 := by
  unfold shlI
  rw [wrap_in (k := .u64) (by simp [IntKind.min, IntKind.max, IntKind.signed, IntKind.bits]; omega)]
  rfl

theorem netI_zero (h : Bool) (s : Int) (L : List Int) (o n : Nat) : U.netI h s L o n (if h then 1 else 0) 0 s :=
  ⟨0, rfl, Nat.zero_le _, by cases h <;> rfl⟩
theorem netI_end {h : Bool} {s0 : Int} {L : List Int} {o n t : Nat} {k s : Int} (hI : U.netI h s0 L o n t k s) (hl : o + n ≤ L.length) (hk : ¬ k < n) : fold (h, s0) ((L.drop o).take n) = (Nat.beq t 1, s) := by
  obtain ⟨j, h1, h2, h3⟩ := hI
  rw [List.take_of_length_le (by rw [sub_len L o n hl]; omega)] at h3
  exact h3
theorem netI_next {h : Bool} {s0 : Int} {L : List Int} {o n t t' : Nat} {k s k' s' : Int} (hI : U.netI h s0 L o n t k s) (hl : o + n ≤ L.length) (hk : k < n) {j : Nat} (hj : (j : Int) = o + k) (ht : Nat.beq t' 1 = !Nat.beq t 1) (hk' : k' = k + 1)
    (hs : s' = s + (if Nat.beq t 1 then L.getD j 0 * 256 else L.getD j 0)) : U.netI h s0 L o n t' k' s' := by
  obtain ⟨i, h1, h2, h3⟩ := hI
  have hlen := sub_len L o n hl
  refine ⟨i + 1, by rw [hk', h1]; simp, by omega, ?_⟩
  have hji : j = o + i := by omega
  rw [take_get (by omega), fold_snoc, h3, sub_get L o n i hl (by omega), ht, hs, hji]
theorem netI_bnd {h : Bool} {s0 : Int} {L : List Int} {o n t : Nat} {k s : Int} (hI : U.netI h s0 L o n t k s) (hb : byteL L) (hn : n ≤ 900) : 0 ≤ k ∧ k ≤ 900 ∧ s0 ≤ s ∧ s ≤ s0 + 65280 * 900 := by
  obtain ⟨j, h1, h2, h3⟩ := hI
  have := fold_bnd h s0 (((L.drop o).take n).take j) (byteL_take (byteL_sub hb o n) j)
  rw [h3] at this
  have h4 : (((L.drop o).take n).take j).length ≤ 900 := by simp; omega
  dsimp only at this
  omega
theorem downI_zero (s : Int) (h : 0 ≤ s) : U.downI s s := ⟨h, rfl, Iff.rfl, Int.le_refl _⟩
theorem down_next {s0 x z11 z12 z13 : Int} (hI : U.downI s0 x) (hb : s0 ≤ 4294967295) (hx : 65535 < x) (h11 : z11 = shrI .u64 x 16) (h12 : z12 = andI .u64 x 65535) (h13 : z13 = IntKind.wrap .u64 (z11 + z12)) : U.downI s0 z13 ∧ z13.toNat < x.toNat := by
  obtain ⟨h1, h2, h3, h4⟩ := hI
  have e11 : z11 = x / 65536 := by rw [h11]; exact shr_at 16 (by omega) h1 rfl
  have e12 : z12 = x % 65536 := by rw [h12]; exact and_mask 16 (by omega) (by omega) rfl
  have e13 : z13 = z11 + z12 := wu64 h13 (by omega)
  exact ⟨⟨by omega, by omega, by omega, by omega⟩, by omega⟩
theorem down_end {s0 x z15 z16 : Int} (hI : U.downI s0 x) (h0 : 0 ≤ s0) (hx : ¬ 65535 < x) (h15 : z15 = IntKind.wrap .u16 x) (h16 : z16 = xorI .u16 65535 z15) : z16 = netS s0 := by
  obtain ⟨h1, h2, h3, h4⟩ := hI
  have e15 : z15 = x := wu16 h15 (by omega)
  rw [h16, e15, xor_full16 (by omega)]
  unfold netS
  by_cases hz : s0 = 0
  · rw [if_pos hz]; omega
  · rw [if_neg hz]; split <;> omega

theorem net1_run (K : AV → St → Prop) (L : List Int) (o n c cap : Nat) (ro : Bool) (hb : byteL L) (hl : o + n ≤ L.length) (hn : n ≤ 900)
    (h : K (xi .u16 (netS (fold (true, 0) ((L.drop o).take n)).2)) ⟨[pt [aslC ⟨0, o, n, c⟩]], [], 0, [some (bs L cap ro)], 0⟩) : runI invN tbl0 65 [sl ⟨0, 0, 1, none, 1⟩] ⟨[pt [aslC ⟨0, o, n, c⟩]], [], 0, [some (bs L cap ro)], 0⟩ K := by
  rw [net1_vc]
  intro z0 hz0
  refine ⟨⟨(0, 0), ?_⟩, ?_, ?_⟩
  · simp only [and_self, true_and]; exact netI_zero true 0 L o n
  all_goals
    intro x hI
    have hB := netI_bnd hI hb hn
    refine ⟨fun hlt => ⟨by omega, fun j hj => ⟨by omega, ?_⟩⟩, fun hge => ⟨⟨x.2, ?_⟩, fun y hD => ⟨fun hgt => ⟨by omega, fun z11 h11 z12 h12 z13 h13 => ⟨z13, ?_⟩⟩, fun hle z15 h15 z16 h16 => ?_⟩⟩⟩
  · intro z4 h4 z5 h5 z6 h6 z7 h7
    have b := byteL_get hb j
    rw [← h4] at b
    have e5 := wu64 h5 (by omega)
    have e6 := wu64 h6 (by omega)
    have e7 := w64 h7 (by omega)
    refine ⟨(_, _), rfl, ⟨rfl, rfl, rfl⟩, ⟨rfl, rfl, rfl⟩, ⟨rfl, rfl, rfl⟩, rfl, rfl, ⟨rfl, rfl, rfl⟩, ⟨rfl, rfl, rfl⟩, ?_, by dsimp only; omega⟩
    exact netI_next hI hl (by omega) hj rfl e7 (by rw [e6, e5, h4]; rfl)
  · refine ⟨rfl, ⟨rfl, rfl, rfl⟩, ⟨rfl, rfl, rfl⟩, ⟨rfl, rfl, rfl⟩, rfl, rfl, ⟨rfl, rfl, rfl⟩, ⟨rfl, rfl, rfl⟩, downI_zero _ (by omega)⟩
  · refine ⟨rfl, ⟨rfl, rfl, rfl⟩, ⟨rfl, rfl, rfl⟩, ⟨rfl, rfl, rfl⟩, rfl, rfl, ⟨rfl, rfl, rfl⟩, ⟨rfl, rfl, rfl⟩, down_next hD (by omega) hgt h11 h12 h13⟩
  · have := down_end hD (by omega) hle h15 h16
    have e := netI_end hI hl (by omega)
    rw [e, ← this] at h; exact h
  · intro z4 h4 z5 h5
    have b := byteL_get hb j
    rw [← h4] at b
    have e5 := wu64 h5 (by omega)
    refine ⟨by omega, fun z21 h21 z6 h6 z7 h7 => ?_⟩
    have e21 : z21 = z4 * 256 := by rw [h21, e5]; exact shl8u b
    have e6 := wu64 h6 (by omega)
    have e7 := w64 h7 (by omega)
    refine ⟨(_, _), rfl, ⟨rfl, rfl, rfl⟩, ⟨rfl, rfl, rfl⟩, ⟨rfl, rfl, rfl⟩, rfl, rfl, ⟨rfl, rfl, rfl⟩, ⟨rfl, rfl, rfl⟩, ?_, by dsimp only; omega⟩
    exact netI_next hI hl (by omega) hj rfl e7 (by rw [e6, e21, h4]; rfl)
  · refine ⟨rfl, ⟨rfl, rfl, rfl⟩, ⟨rfl, rfl, rfl⟩, ⟨rfl, rfl, rfl⟩, rfl, rfl, ⟨rfl, rfl, rfl⟩, ⟨rfl, rfl, rfl⟩, downI_zero _ (by omega)⟩
  · refine ⟨rfl, ⟨rfl, rfl, rfl⟩, ⟨rfl, rfl, rfl⟩, ⟨rfl, rfl, rfl⟩, rfl, rfl, ⟨rfl, rfl, rfl⟩, ⟨rfl, rfl, rfl⟩, down_next hD (by omega) hgt h11 h12 h13⟩
  · have := down_end hD (by omega) hle h15 h16
    have e := netI_end hI hl (by omega)
    rw [e, ← this] at h; exact h
def P3.sub (p : P3) : List Int := (p.L.drop p.o).take p.n
structure P3.Ok (p : P3) : Prop where
  b : byteL p.L
  l : p.o + p.n ≤ p.L.length
  n : p.n ≤ 900
theorem net2_run (K : AV → St → Prop) (p q : P3) (hp : p.Ok) (hq : q.Ok) (h : K (xi .u16 (netS (fold (true, 0) (p.sub ++ q.sub)).2)) (st2 p q)) : runI invN tbl0 65 [sl ⟨0, 0, 2, none, 2⟩] (st2 p q) K := by
  rw [net2_vc]
  obtain ⟨bp, lp, np⟩ := hp
  obtain ⟨bq, lq, nq⟩ := hq
  intro znp hnp
  refine ⟨⟨(0, 0), ?_⟩, ?_, ?_⟩
  · dsimp only; simp only [and_self, true_and]; exact netI_zero true 0 p.L p.o p.n
  · intro xp Ip
    have Bp := netI_bnd Ip bp np
    refine ⟨fun hlt => ⟨by omega, fun j hj => ⟨by omega, ?_⟩⟩, fun gp => ?_⟩
    · intro z4 h4 z5 h5 z6 h6 z7 h7
      have b := byteL_get bp j
      rw [← h4] at b
      have e5 := wu64 h5 (by omega)
      have e6 := wu64 h6 (by omega)
      have e7 := w64 h7 (by omega)
      refine ⟨(z7, z6), ?_⟩
      dsimp only; simp only [and_self, true_and]
      exact ⟨netI_next Ip lp (by omega) hj rfl e7 (by rw [e6, e5, h4]; rfl), by omega⟩
    · have Ep : fold (true, 0) ((p.L.drop p.o).take p.n) = (false, xp.2) := netI_end Ip lp (by omega)
      intro znq hnq
      refine ⟨⟨(0, xp.2), ?_⟩, ?_, ?_⟩
      · dsimp only; simp only [and_self, true_and]; exact netI_zero false xp.2 q.L q.o q.n
      · intro xq Iq
        have Bq := netI_bnd Iq bq nq
        refine ⟨fun hlt => ⟨by omega, fun j hj => ⟨by omega, ?_⟩⟩, fun gq => ?_⟩
        · intro z4 h4 z5 h5 z6 h6 z7 h7
          have b := byteL_get bq j
          rw [← h4] at b
          have e5 := wu64 h5 (by omega)
          have e6 := wu64 h6 (by omega)
          have e7 := w64 h7 (by omega)
          refine ⟨(z7, z6), ?_⟩
          dsimp only; simp only [and_self, true_and]
          exact ⟨netI_next Iq lq (by omega) hj rfl e7 (by rw [e6, e5, h4]; rfl), by omega⟩
        · have Eq : fold (false, xp.2) ((q.L.drop q.o).take q.n) = (false, xq.2) := netI_end Iq lq (by omega)
          have e : (fold (true, 0) (p.sub ++ q.sub)).2 = xq.2 := by unfold P3.sub; rw [fold_append, Ep, Eq]
          rw [e] at h
          refine ⟨⟨xq.2, ?_⟩, fun yy hD => ⟨fun hgt => ⟨by omega, fun z31 h31 z32 h32 z33 h33 => ⟨z33, ?_⟩⟩, fun hle z35 h35 z36 h36 => ?_⟩⟩
          · simp only [and_self, true_and]; exact downI_zero _ (by omega)
          · simp only [and_self, true_and]; exact down_next hD (by omega) hgt h31 h32 h33
          · have := down_end hD (by omega) hle h35 h36
            rw [← this] at h; exact h
      · intro xq Iq
        have Bq := netI_bnd Iq bq nq
        refine ⟨fun hlt => ⟨by omega, fun j hj => ⟨by omega, ?_⟩⟩, fun gq => ?_⟩
        · intro z4 h4 z5 h5
          have b := byteL_get bq j
          rw [← h4] at b
          have e5 := wu64 h5 (by omega)
          refine ⟨by omega, fun z21 h21 z6 h6 z7 h7 => ?_⟩
          have e21 : z21 = z4 * 256 := by rw [h21, e5]; exact shl8u b
          have e6 := wu64 h6 (by omega)
          have e7 := w64 h7 (by omega)
          refine ⟨(z7, z6), ?_⟩
          dsimp only; simp only [and_self, true_and]
          exact ⟨netI_next Iq lq (by omega) hj rfl e7 (by rw [e6, e21, h4]; rfl), by omega⟩
        · have Eq : fold (false, xp.2) ((q.L.drop q.o).take q.n) = (true, xq.2) := netI_end Iq lq (by omega)
          have e : (fold (true, 0) (p.sub ++ q.sub)).2 = xq.2 := by unfold P3.sub; rw [fold_append, Ep, Eq]
          rw [e] at h
          refine ⟨⟨xq.2, ?_⟩, fun yy hD => ⟨fun hgt => ⟨by omega, fun z31 h31 z32 h32 z33 h33 => ⟨z33, ?_⟩⟩, fun hle z35 h35 z36 h36 => ?_⟩⟩
          · simp only [and_self, true_and]; exact downI_zero _ (by omega)
          · simp only [and_self, true_and]; exact down_next hD (by omega) hgt h31 h32 h33
          · have := down_end hD (by omega) hle h35 h36
            rw [← this] at h; exact h
  · intro xp Ip
    have Bp := netI_bnd Ip bp np
    refine ⟨fun hlt => ⟨by omega, fun j hj => ⟨by omega, ?_⟩⟩, fun gp => ?_⟩
    · intro z4 h4 z5 h5
      have b := byteL_get bp j
      rw [← h4] at b
      have e5 := wu64 h5 (by omega)
      refine ⟨by omega, fun z21 h21 z6 h6 z7 h7 => ?_⟩
      have e21 : z21 = z4 * 256 := by rw [h21, e5]; exact shl8u b
      have e6 := wu64 h6 (by omega)
      have e7 := w64 h7 (by omega)
      refine ⟨(z7, z6), ?_⟩
      dsimp only; simp only [and_self, true_and]
      exact ⟨netI_next Ip lp (by omega) hj rfl e7 (by rw [e6, e21, h4]; rfl), by omega⟩
    · have Ep : fold (true, 0) ((p.L.drop p.o).take p.n) = (true, xp.2) := netI_end Ip lp (by omega)
      intro znq hnq
      refine ⟨⟨(0, xp.2), ?_⟩, ?_, ?_⟩
      · dsimp only; simp only [and_self, true_and]; exact netI_zero true xp.2 q.L q.o q.n
      · intro xq Iq
        have Bq := netI_bnd Iq bq nq
        refine ⟨fun hlt => ⟨by omega, fun j hj => ⟨by omega, ?_⟩⟩, fun gq => ?_⟩
        · intro z4 h4 z5 h5 z6 h6 z7 h7
          have b := byteL_get bq j
          rw [← h4] at b
          have e5 := wu64 h5 (by omega)
          have e6 := wu64 h6 (by omega)
          have e7 := w64 h7 (by omega)
          refine ⟨(z7, z6), ?_⟩
          dsimp only; simp only [and_self, true_and]
          exact ⟨netI_next Iq lq (by omega) hj rfl e7 (by rw [e6, e5, h4]; rfl), by omega⟩
        · have Eq : fold (true, xp.2) ((q.L.drop q.o).take q.n) = (false, xq.2) := netI_end Iq lq (by omega)
          have e : (fold (true, 0) (p.sub ++ q.sub)).2 = xq.2 := by unfold P3.sub; rw [fold_append, Ep, Eq]
          rw [e] at h
          refine ⟨⟨xq.2, ?_⟩, fun yy hD => ⟨fun hgt => ⟨by omega, fun z31 h31 z32 h32 z33 h33 => ⟨z33, ?_⟩⟩, fun hle z35 h35 z36 h36 => ?_⟩⟩
          · simp only [and_self, true_and]; exact downI_zero _ (by omega)
          · simp only [and_self, true_and]; exact down_next hD (by omega) hgt h31 h32 h33
          · have := down_end hD (by omega) hle h35 h36
            rw [← this] at h; exact h
      · intro xq Iq
        have Bq := netI_bnd Iq bq nq
        refine ⟨fun hlt => ⟨by omega, fun j hj => ⟨by omega, ?_⟩⟩, fun gq => ?_⟩
        · intro z4 h4 z5 h5
          have b := byteL_get bq j
          rw [← h4] at b
          have e5 := wu64 h5 (by omega)
          refine ⟨by omega, fun z21 h21 z6 h6 z7 h7 => ?_⟩
          have e21 : z21 = z4 * 256 := by rw [h21, e5]; exact shl8u b
          have e6 := wu64 h6 (by omega)
          have e7 := w64 h7 (by omega)
          refine ⟨(z7, z6), ?_⟩
          dsimp only; simp only [and_self, true_and]
          exact ⟨netI_next Iq lq (by omega) hj rfl e7 (by rw [e6, e21, h4]; rfl), by omega⟩
        · have Eq : fold (true, xp.2) ((q.L.drop q.o).take q.n) = (true, xq.2) := netI_end Iq lq (by omega)
          have e : (fold (true, 0) (p.sub ++ q.sub)).2 = xq.2 := by unfold P3.sub; rw [fold_append, Ep, Eq]
          rw [e] at h
          refine ⟨⟨xq.2, ?_⟩, fun yy hD => ⟨fun hgt => ⟨by omega, fun z31 h31 z32 h32 z33 h33 => ⟨z33, ?_⟩⟩, fun hle z35 h35 z36 h36 => ?_⟩⟩
          · simp only [and_self, true_and]; exact downI_zero _ (by omega)
          · simp only [and_self, true_and]; exact down_next hD (by omega) hgt h31 h32 h33
          · have := down_end hD (by omega) hle h35 h36
            rw [← this] at h; exact h
/-! ### Tables -/
structure U.B (L : List Int) : Prop where
  out : byteL L
def U.S (L : List Int) (o n : Nat) : Int := netS (fold (true, 0) ((L.drop o).take n)).2
def U.S2 (L M : List Int) (o n o' n' : Nat) : Int := netS (fold (true, 0) ((L.drop o).take n ++ (M.drop o').take n')).2
def tRefNet : Tbl := fun f args σ => if f == 34 then match args, σ with
    | [a], ⟨[], [], 0, [some ⟨5, .n .u8, L, cap, ro⟩], 0⟩ => match aslX a with
      | some ⟨0, o, n, c⟩ => some fun K => (U.B L ∧ o + n ≤ L.length ∧ n ≤ 900) ∧ ∀ z : Int, z = U.S L o n → K (xi .u16 z) (ar [bs L cap ro])
      | _ => none
    | _, _ => none
  else none
def tNet : Tbl := fun f args σ => if f == 65 then match args, σ with
    | [.inl (.inl (.inr (.inr (.inl ⟨0, 0, 1, none, 1⟩))))], ⟨[some ⟨24, [a], none, 1, false⟩], [], 0, [some ⟨5, .n .u8, L, cap, ro⟩], 0⟩ => match aslX (cell a) with
      | some ⟨0, o, n, c⟩ => some fun K => (U.B L ∧ o + n ≤ L.length ∧ n ≤ 900) ∧ ∀ z : Int, z = U.S L o n → K (xi .u16 z) ⟨[pt [aslC ⟨0, o, n, c⟩]], [], 0, [some (bs L cap ro)], 0⟩
      | _ => none
    | [.inl (.inl (.inr (.inr (.inl ⟨0, 0, 2, none, 2⟩))))], ⟨[some ⟨24, [a, b], none, 2, false⟩], [], 0, [some ⟨5, .n .u8, L, cap, ro⟩, some ⟨5, .n .u8, M, cap', ro'⟩], 0⟩ => match aslX (cell a), aslX (cell b) with
      | some ⟨0, o, n, c⟩, some ⟨1, o', n', c'⟩ => some fun K => (U.B L ∧ U.B M ∧ o + n ≤ L.length ∧ o' + n' ≤ M.length ∧ n ≤ 900 ∧ n' ≤ 900) ∧ ∀ z : Int, z = U.S2 L M o n o' n' → K (xi .u16 z) (st2 ⟨o, n, c, cap, ro, L⟩ ⟨o', n', c', cap', ro', M⟩)
      | _, _ => none
    | _, _ => none
  else none
theorem tRefNet_ok : TblOk Try.prog tRefNet := by
  intro f tm σ C h K hK
  unfold tRefNet at h
  split at h
  · rename_i hf
    obtain rfl : f = 34 := by simpa using hf
    split at h
    · split at h
      · rename_i hs
        obtain rfl := aslX_eq hs
        simp only [Option.some.injEq] at h; subst h
        exact knownC noOv names (conOk_of tbl0_ok) (refNet_run K _ _ _ _ _ _ hK.1.1.out hK.1.2.1 hK.1.2.2 (hK.2 _ rfl))
      · cases h
    · cases h
  · cases h
theorem tNet_ok : TblOk Try.prog tNet := by
  intro f tm σ C h K hK
  unfold tNet at h
  split at h
  · rename_i hf
    obtain rfl : f = 65 := by simpa using hf
    split at h
    · split at h
      · rename_i hs
        obtain rfl := cell_inj (aslX_eq hs)
        simp only [Option.some.injEq] at h; subst h
        exact knownC noOv names (conOk_of tbl0_ok) (net1_run K _ _ _ _ _ _ hK.1.1.out hK.1.2.1 hK.1.2.2 (hK.2 _ rfl))
      · cases h
    · split at h
      · rename_i hs hs'
        obtain rfl := cell_inj (aslX_eq hs)
        obtain rfl := cell_inj (aslX_eq hs')
        simp only [Option.some.injEq] at h; subst h
        obtain ⟨⟨h1, h2, h3, h4, h5, h6⟩, hk⟩ := hK
        exact knownC noOv names (conOk_of tbl0_ok) (net2_run K ⟨_, _, _, _, _, _⟩ ⟨_, _, _, _, _, _⟩ ⟨h1.out, h3, h5⟩ ⟨h2.out, h4, h6⟩ (hk _ rfl))
      · cases h
    · cases h
  · cases h
end Go.Proofs.Ytnnloikmjofkfaa
end

section
namespace Go.Proofs.Ytnnloikmjofkfaa
open Go Reck
set_option linter.unusedVariables false
def tF1 : Tbl := tblOr tNet tBitsAll
theorem tF1_ok : TblOk Try.prog tF1 := tblOr_ok tNet_ok tBitsAll_ok
/-- A frame as the program has it. -/
def frA (dst src type op sha spa tha tpa fr to proto ttl id sport dport seq ack flags win : Int) (body : Cell) : AV := .inl (.inr [xintC .u64 dst, xintC .u64 src, xintC .i64 type, xintC .i64 op, xintC .u64 sha, xintC .u64 tha, xintC .u32 spa, xintC .u32 tpa, xintC .u32 fr, xintC .u32 to, xintC .i64 proto, xintC .i64 ttl, xintC .i64 id, xintC .i64 sport, xintC .i64 dport, xintC .u32 seq, xintC .u32 ack, xintC .i64 flags, xintC .i64 win, body])
def arpA (op sha spa tha tpa : Int) : AV := .inl (.inr [xintC .i64 op, xintC .u64 sha, xintC .u64 tha, xintC .u32 spa, xintC .u32 tpa])
def headA (fr to proto ttl id : Int) : AV := .inl (.inr [xintC .u32 fr, xintC .u32 to, xintC .i64 proto, xintC .i64 ttl, xintC .i64 id])
def endsA (sport dport seq ack flags win : Int) : AV := .inl (.inr [xintC .i64 sport, xintC .i64 dport, xintC .u32 seq, xintC .u32 ack, xintC .i64 flags, xintC .i64 win])
set_option maxRecDepth 100000
theorem ends_vc (K : AV → St → Prop) (p : Int) : (runI inv0 tF1 43 [xi .i64 p] emptySt K) = ((p = (17 : Int) → K (Sum.inr [Sum.inl (Sum.inr (Sum.inr (Sum.inr (Sum.inr (Sum.inr (Sum.inr (Sum.inl (IntKind.i64, (8 : Int))))))))), Sum.inl (Sum.inr (Sum.inr (Sum.inr (Sum.inr (Sum.inr (Sum.inr (Sum.inl (IntKind.i64, (6 : Int)))))))))]) { heap := [], ints := [], opqs := (0 : Nat), arrs := [], junks := (0 : Nat) }) ∧ (¬p = (17 : Int) → (p = (6 : Int) → K (Sum.inr [Sum.inl (Sum.inr (Sum.inr (Sum.inr (Sum.inr (Sum.inr (Sum.inr (Sum.inl (IntKind.i64, (20 : Int))))))))), Sum.inl (Sum.inr (Sum.inr (Sum.inr (Sum.inr (Sum.inr (Sum.inr (Sum.inl (IntKind.i64, (16 : Int)))))))))]) { heap := [], ints := [], opqs := (0 : Nat), arrs := [], junks := (0 : Nat) }) ∧ (¬p = (6 : Int) → K (Sum.inr [Sum.inl (Sum.inr (Sum.inr (Sum.inr (Sum.inr (Sum.inr (Sum.inr (Sum.inl (IntKind.i64, (0 : Int))))))))), Sum.inl (Sum.inr (Sum.inr (Sum.inr (Sum.inr (Sum.inr (Sum.inr (Sum.inl (IntKind.i64, (0 : Int)))))))))]) { heap := [], ints := [], opqs := (0 : Nat), arrs := [], junks := (0 : Nat) }))) := by kernel_rfl
theorem writeArp_vc (K : AV → St → Prop) (op sha spa tha tpa : Int) (L : List Int) (m c cap : Nat) (N : Int) : (runI inv0 tF1 46 [ptr 0 0, arpA op sha spa tha tpa] (outSt L m c cap N) K) = (∃ (y0 : List Bool), U.BitsPre L N m c cap y0 (16 : Int) [(1 : Int), (2048 : Int)] ∧ ∀ (L'1 : List Int) (m'2 c'3 cap'4 : Nat) (N'5 : Int), U.Out L'1 N'5 (U.apps y0 (16 : Int) [(1 : Int), (2048 : Int)]) → N'5 = N + (32 : Int) → m'2 = List.length L'1 → c'3 ≤ cap'4 → m'2 ≤ c'3 → ∃ (y6 : List Bool), U.BitsPre L'1 N'5 m'2 c'3 cap'4 y6 (8 : Int) [(6 : Int), (4 : Int)] ∧ ∀ (L'7 : List Int) (m'8 c'9 cap'10 : Nat) (N'11 : Int), U.Out L'7 N'11 (U.apps y6 (8 : Int) [(6 : Int), (4 : Int)]) → N'11 = N'5 + (16 : Int) → m'8 = List.length L'7 → c'9 ≤ cap'10 → m'8 ≤ c'9 → ∀ (z12 : Int), z12 = IntKind.wrap IntKind.u64 op → ∃ (y13 : List Bool), U.BitsPre L'7 N'11 m'8 c'9 cap'10 y13 (16 : Int) [z12] ∧ ∀ (L'14 : List Int) (m'15 c'16 cap'17 : Nat) (N'18 : Int), U.Out L'14 N'18 (U.apps y13 (16 : Int) [z12]) → N'18 = N'11 + (↑(List.length [z12]) : Int) * (16 : Int) → m'15 = List.length L'14 → c'16 ≤ cap'17 → m'15 ≤ c'16 → ∃ (y19 : List Bool), U.BitsPre L'14 N'18 m'15 c'16 cap'17 y19 (48 : Int) [sha] ∧ ∀ (L'20 : List Int) (m'21 c'22 cap'23 : Nat) (N'24 : Int), U.Out L'20 N'24 (U.apps y19 (48 : Int) [sha]) → N'24 = N'18 + (↑(List.length [sha]) : Int) * (48 : Int) → m'21 = List.length L'20 → c'22 ≤ cap'23 → m'21 ≤ c'22 → ∀ (z25 : Int), z25 = IntKind.wrap IntKind.u64 spa → ∃ (y26 : List Bool), U.BitsPre L'20 N'24 m'21 c'22 cap'23 y26 (32 : Int) [z25] ∧ ∀ (L'27 : List Int) (m'28 c'29 cap'30 : Nat) (N'31 : Int), U.Out L'27 N'31 (U.apps y26 (32 : Int) [z25]) → N'31 = N'24 + (↑(List.length [z25]) : Int) * (32 : Int) → m'28 = List.length L'27 → c'29 ≤ cap'30 → m'28 ≤ c'29 → ∃ (y32 : List Bool), U.BitsPre L'27 N'31 m'28 c'29 cap'30 y32 (48 : Int) [tha] ∧ ∀ (L'33 : List Int) (m'34 c'35 cap'36 : Nat) (N'37 : Int), U.Out L'33 N'37 (U.apps y32 (48 : Int) [tha]) → N'37 = N'31 + (↑(List.length [tha]) : Int) * (48 : Int) → m'34 = List.length L'33 → c'35 ≤ cap'36 → m'34 ≤ c'35 → ∀ (z38 : Int), z38 = IntKind.wrap IntKind.u64 tpa → ∃ (y39 : List Bool), U.BitsPre L'33 N'37 m'34 c'35 cap'36 y39 (32 : Int) [z38] ∧ ∀ (L'40 : List Int) (m'41 c'42 cap'43 : Nat) (N'44 : Int), U.Out L'40 N'44 (U.apps y39 (32 : Int) [z38]) → N'44 = N'37 + (↑(List.length [z38]) : Int) * (32 : Int) → m'41 = List.length L'40 → c'42 ≤ cap'43 → m'41 ≤ c'42 → K (Sum.inr []) { heap := [some { elem := (108 : Nat), cells := [Sum.inr (Sum.inr (Sum.inr (Sum.inr (Sum.inr (Sum.inr (Sum.inr (Sum.inl { a := (1 : Nat), o := (0 : Nat), n := m'41, c := c'42 }))))))), Sum.inr (Sum.inr (Sum.inr (Sum.inr (Sum.inr (Sum.inr (Sum.inl (IntKind.i64, N'44)))))))], j := none, c := (2 : Nat), z := false }], ints := [], opqs := (0 : Nat), arrs := [none, some { elem := OfNat.ofNat (5 : Nat), k := AK.n IntKind.u8, l := L'40, cap := cap'43, ro := false }], junks := (0 : Nat) }) := by kernel_rfl
theorem writeHead_vc (K : AV → St → Prop) (fr to proto ttl id len : Int) (L : List Int) (m c cap : Nat) (N : Int) : (runI inv0 tF1 47 [ptr 0 0, headA fr to proto ttl id, xi .i64 len] (outSt L m c cap N) K) = (∃ (y0 : List Bool), U.BitsPre L N m c cap y0 (4 : Int) [(4 : Int), (5 : Int)] ∧ ∀ (L'1 : List Int) (m'2 c'3 cap'4 : Nat) (N'5 : Int), U.Out L'1 N'5 (U.apps y0 (4 : Int) [(4 : Int), (5 : Int)]) → N'5 = N + (8 : Int) → m'2 = List.length L'1 → c'3 ≤ cap'4 → m'2 ≤ c'3 → ∃ (y6 : List Bool), U.BitsPre L'1 N'5 m'2 c'3 cap'4 y6 (8 : Int) [(0 : Int)] ∧ ∀ (L'7 : List Int) (m'8 c'9 cap'10 : Nat) (N'11 : Int), U.Out L'7 N'11 (U.apps y6 (8 : Int) [(0 : Int)]) → N'11 = N'5 + (8 : Int) → m'8 = List.length L'7 → c'9 ≤ cap'10 → m'8 ≤ c'9 → ∀ (z12 : Int), z12 = IntKind.wrap IntKind.u64 len → ∀ (z13 : Int), z13 = IntKind.wrap IntKind.u64 id → ∃ (y14 : List Bool), U.BitsPre L'7 N'11 m'8 c'9 cap'10 y14 (16 : Int) [z12, z13, (0 : Int)] ∧ ∀ (L'15 : List Int) (m'16 c'17 cap'18 : Nat) (N'19 : Int), U.Out L'15 N'19 (U.apps y14 (16 : Int) [z12, z13, (0 : Int)]) → N'19 = N'11 + (↑(List.length [z12, z13, (0 : Int)]) : Int) * (16 : Int) → m'16 = List.length L'15 → c'17 ≤ cap'18 → m'16 ≤ c'17 → ∀ (z20 : Int), z20 = IntKind.wrap IntKind.u64 ttl → ∀ (z21 : Int), z21 = IntKind.wrap IntKind.u64 proto → ∃ (y22 : List Bool), U.BitsPre L'15 N'19 m'16 c'17 cap'18 y22 (8 : Int) [z20, z21] ∧ ∀ (L'23 : List Int) (m'24 c'25 cap'26 : Nat) (N'27 : Int), U.Out L'23 N'27 (U.apps y22 (8 : Int) [z20, z21]) → N'27 = N'19 + (↑(List.length [z20, z21]) : Int) * (8 : Int) → m'24 = List.length L'23 → c'25 ≤ cap'26 → m'24 ≤ c'25 → ∃ (y28 : List Bool), U.BitsPre L'23 N'27 m'24 c'25 cap'26 y28 (16 : Int) [(0 : Int)] ∧ ∀ (L'29 : List Int) (m'30 c'31 cap'32 : Nat) (N'33 : Int), U.Out L'29 N'33 (U.apps y28 (16 : Int) [(0 : Int)]) → N'33 = N'27 + (16 : Int) → m'30 = List.length L'29 → c'31 ≤ cap'32 → m'30 ≤ c'31 → ∀ (z34 : Int), z34 = IntKind.wrap IntKind.u64 fr → ∀ (z35 : Int), z35 = IntKind.wrap IntKind.u64 to → ∃ (y36 : List Bool), U.BitsPre L'29 N'33 m'30 c'31 cap'32 y36 (32 : Int) [z34, z35] ∧ ∀ (L'37 : List Int) (m'38 c'39 cap'40 : Nat) (N'41 : Int), U.Out L'37 N'41 (U.apps y36 (32 : Int) [z34, z35]) → N'41 = N'33 + (↑(List.length [z34, z35]) : Int) * (32 : Int) → m'38 = List.length L'37 → c'39 ≤ cap'40 → m'38 ≤ c'39 → K (Sum.inr []) { heap := [some { elem := (108 : Nat), cells := [Sum.inr (Sum.inr (Sum.inr (Sum.inr (Sum.inr (Sum.inr (Sum.inr (Sum.inl { a := (1 : Nat), o := (0 : Nat), n := m'38, c := c'39 }))))))), Sum.inr (Sum.inr (Sum.inr (Sum.inr (Sum.inr (Sum.inr (Sum.inl (IntKind.i64, N'41)))))))], j := none, c := (2 : Nat), z := false }], ints := [], opqs := (0 : Nat), arrs := [none, some { elem := OfNat.ofNat (5 : Nat), k := AK.n IntKind.u8, l := L'37, cap := cap'40, ro := false }], junks := (0 : Nat) }) := by kernel_rfl
theorem writeEnds_vc (K : AV → St → Prop) (sport dport seq ack flags win p len : Int) (L : List Int) (m c cap : Nat) (N : Int) : (runI inv0 tF1 48 [ptr 0 0, endsA sport dport seq ack flags win, xi .i64 p, xi .i64 len] (outSt L m c cap N) K) = ((p = (17 : Int) → ∀ (z0 : Int), z0 = IntKind.wrap IntKind.u64 sport → ∀ (z1 : Int), z1 = IntKind.wrap IntKind.u64 dport → ∀ (z2 : Int), z2 = IntKind.wrap IntKind.u64 len → ∃ (y3 : List Bool), U.BitsPre L N m c cap y3 (16 : Int) [z0, z1, z2, (0 : Int)] ∧ ∀ (L'4 : List Int) (m'5 c'6 cap'7 : Nat) (N'8 : Int), U.Out L'4 N'8 (U.apps y3 (16 : Int) [z0, z1, z2, (0 : Int)]) → N'8 = N + (↑(List.length [z0, z1, z2, (0 : Int)]) : Int) * (16 : Int) → m'5 = List.length L'4 → c'6 ≤ cap'7 → m'5 ≤ c'6 → K (Sum.inr []) { heap := [some { elem := (108 : Nat), cells := [Sum.inr (Sum.inr (Sum.inr (Sum.inr (Sum.inr (Sum.inr (Sum.inr (Sum.inl { a := (1 : Nat), o := (0 : Nat), n := m'5, c := c'6 }))))))), Sum.inr (Sum.inr (Sum.inr (Sum.inr (Sum.inr (Sum.inr (Sum.inl (IntKind.i64, N'8)))))))], j := none, c := (2 : Nat), z := false }], ints := [], opqs := (0 : Nat), arrs := [none, some { elem := OfNat.ofNat (5 : Nat), k := AK.n IntKind.u8, l := L'4, cap := cap'7, ro := false }], junks := (0 : Nat) }) ∧ (¬p = (17 : Int) → (p = (6 : Int) → ∀ (z9 : Int), z9 = IntKind.wrap IntKind.u64 sport → ∀ (z10 : Int), z10 = IntKind.wrap IntKind.u64 dport → ∃ (y11 : List Bool), U.BitsPre L N m c cap y11 (16 : Int) [z9, z10] ∧ ∀ (L'12 : List Int) (m'13 c'14 cap'15 : Nat) (N'16 : Int), U.Out L'12 N'16 (U.apps y11 (16 : Int) [z9, z10]) → N'16 = N + (↑(List.length [z9, z10]) : Int) * (16 : Int) → m'13 = List.length L'12 → c'14 ≤ cap'15 → m'13 ≤ c'14 → ∀ (z17 : Int), z17 = IntKind.wrap IntKind.u64 seq → ∀ (z18 : Int), z18 = IntKind.wrap IntKind.u64 ack → ∃ (y19 : List Bool), U.BitsPre L'12 N'16 m'13 c'14 cap'15 y19 (32 : Int) [z17, z18] ∧ ∀ (L'20 : List Int) (m'21 c'22 cap'23 : Nat) (N'24 : Int), U.Out L'20 N'24 (U.apps y19 (32 : Int) [z17, z18]) → N'24 = N'16 + (↑(List.length [z17, z18]) : Int) * (32 : Int) → m'21 = List.length L'20 → c'22 ≤ cap'23 → m'21 ≤ c'22 → ∃ (y25 : List Bool), U.BitsPre L'20 N'24 m'21 c'22 cap'23 y25 (4 : Int) [(5 : Int), (0 : Int)] ∧ ∀ (L'26 : List Int) (m'27 c'28 cap'29 : Nat) (N'30 : Int), U.Out L'26 N'30 (U.apps y25 (4 : Int) [(5 : Int), (0 : Int)]) → N'30 = N'24 + (8 : Int) → m'27 = List.length L'26 → c'28 ≤ cap'29 → m'27 ≤ c'28 → ∀ (z31 : Int), z31 = IntKind.wrap IntKind.u64 flags → ∃ (y32 : List Bool), U.BitsPre L'26 N'30 m'27 c'28 cap'29 y32 (8 : Int) [z31] ∧ ∀ (L'33 : List Int) (m'34 c'35 cap'36 : Nat) (N'37 : Int), U.Out L'33 N'37 (U.apps y32 (8 : Int) [z31]) → N'37 = N'30 + (↑(List.length [z31]) : Int) * (8 : Int) → m'34 = List.length L'33 → c'35 ≤ cap'36 → m'34 ≤ c'35 → ∀ (z38 : Int), z38 = IntKind.wrap IntKind.u64 win → ∃ (y39 : List Bool), U.BitsPre L'33 N'37 m'34 c'35 cap'36 y39 (16 : Int) [z38, (0 : Int), (0 : Int)] ∧ ∀ (L'40 : List Int) (m'41 c'42 cap'43 : Nat) (N'44 : Int), U.Out L'40 N'44 (U.apps y39 (16 : Int) [z38, (0 : Int), (0 : Int)]) → N'44 = N'37 + (↑(List.length [z38, (0 : Int), (0 : Int)]) : Int) * (16 : Int) → m'41 = List.length L'40 → c'42 ≤ cap'43 → m'41 ≤ c'42 → K (Sum.inr []) { heap := [some { elem := (108 : Nat), cells := [Sum.inr (Sum.inr (Sum.inr (Sum.inr (Sum.inr (Sum.inr (Sum.inr (Sum.inl { a := (1 : Nat), o := (0 : Nat), n := m'41, c := c'42 }))))))), Sum.inr (Sum.inr (Sum.inr (Sum.inr (Sum.inr (Sum.inr (Sum.inl (IntKind.i64, N'44)))))))], j := none, c := (2 : Nat), z := false }], ints := [], opqs := (0 : Nat), arrs := [none, some { elem := OfNat.ofNat (5 : Nat), k := AK.n IntKind.u8, l := L'40, cap := cap'43, ro := false }], junks := (0 : Nat) }) ∧ (¬p = (6 : Int) → K (Sum.inr []) { heap := [some { elem := (108 : Nat), cells := [Sum.inr (Sum.inr (Sum.inr (Sum.inr (Sum.inr (Sum.inr (Sum.inr (Sum.inl { a := (0 : Nat), o := (0 : Nat), n := m, c := c }))))))), Sum.inr (Sum.inr (Sum.inr (Sum.inr (Sum.inr (Sum.inr (Sum.inl (IntKind.i64, N)))))))], j := none, c := (2 : Nat), z := false }], ints := [], opqs := (0 : Nat), arrs := [some { elem := OfNat.ofNat (5 : Nat), k := AK.n IntKind.u8, l := L, cap := cap, ro := false }], junks := (0 : Nat) }))) := by kernel_rfl
theorem endsSum_vc (K : AV → St → Prop) (fr to proto ttl id : Int) (L : List Int) (o n c cap : Nat) : (runI inv0 tF1 66 [headA fr to proto ttl id, cell (aslC ⟨0, o, n, c⟩)] (ar [bs L cap false]) K) = (∀ (L0 : List Int), U.Out L0 (0 : Int) [] → L0 = [] → ∀ (z1 : Int), z1 = IntKind.wrap IntKind.u64 fr → ∀ (z2 : Int), z2 = IntKind.wrap IntKind.u64 to → ∃ (y3 : List Bool), U.BitsPre L0 (0 : Int) (0 : Nat) (0 : Nat) (0 : Nat) y3 (32 : Int) [z1, z2] ∧ ∀ (L'4 : List Int) (m'5 c'6 cap'7 : Nat) (N'8 : Int), U.Out L'4 N'8 (U.apps y3 (32 : Int) [z1, z2]) → N'8 = (0 : Int) + (↑(List.length [z1, z2]) : Int) * (32 : Int) → m'5 = List.length L'4 → c'6 ≤ cap'7 → m'5 ≤ c'6 → ∀ (z9 : Int), z9 = IntKind.wrap IntKind.u64 proto → ∃ (y10 : List Bool), U.BitsPre L'4 N'8 m'5 c'6 cap'7 y10 (8 : Int) [(0 : Int), z9] ∧ ∀ (L'11 : List Int) (m'12 c'13 cap'14 : Nat) (N'15 : Int), U.Out L'11 N'15 (U.apps y10 (8 : Int) [(0 : Int), z9]) → N'15 = N'8 + (↑(List.length [(0 : Int), z9]) : Int) * (8 : Int) → m'12 = List.length L'11 → c'13 ≤ cap'14 → m'12 ≤ c'13 → ∀ (z16 : Int), z16 = (↑n : Int) → ∀ (z17 : Int), z17 = IntKind.wrap IntKind.u64 z16 → ∃ (y18 : List Bool), U.BitsPre L'11 N'15 m'12 c'13 cap'14 y18 (16 : Int) [z17] ∧ ∀ (L'19 : List Int) (m'20 c'21 cap'22 : Nat) (N'23 : Int), U.Out L'19 N'23 (U.apps y18 (16 : Int) [z17]) → N'23 = N'15 + (↑(List.length [z17]) : Int) * (16 : Int) → m'20 = List.length L'19 → c'21 ≤ cap'22 → m'20 ≤ c'21 → (m'20 = List.length L'19 ∧ m'20 ≤ (16777216 : Nat)) ∧ ∀ (L'24 : List Int) (c'25 cap'26 : Nat), L'24 = L'19 → m'20 ≤ c'25 → c'25 ≤ cap'26 → (U.B L'24 ∧ U.B L ∧ OfNat.ofNat (0 : Nat) + m'20 ≤ List.length L'24 ∧ o + n ≤ List.length L ∧ m'20 ≤ (900 : Nat) ∧ n ≤ (900 : Nat)) ∧ ∀ (z27 : Int), z27 = U.S2 L'24 L (OfNat.ofNat (0 : Nat)) m'20 o n → (z27 = (0 : Int) → (proto = (17 : Int) → K (Sum.inl (Sum.inl (Sum.inr (Sum.inr (Sum.inr (Sum.inr (Sum.inr (Sum.inr (Sum.inl (IntKind.u16, (65535 : Int))))))))))) { heap := [], ints := [], opqs := (0 : Nat), arrs := [some { elem := OfNat.ofNat (5 : Nat), k := AK.n IntKind.u8, l := L, cap := cap, ro := false }], junks := (0 : Nat) }) ∧ (¬proto = (17 : Int) → K (Sum.inl (Sum.inl (Sum.inr (Sum.inr (Sum.inr (Sum.inr (Sum.inr (Sum.inr (Sum.inl (IntKind.u16, z27)))))))))) { heap := [], ints := [], opqs := (0 : Nat), arrs := [some { elem := OfNat.ofNat (5 : Nat), k := AK.n IntKind.u8, l := L, cap := cap, ro := false }], junks := (0 : Nat) })) ∧ (¬z27 = (0 : Int) → K (Sum.inl (Sum.inl (Sum.inr (Sum.inr (Sum.inr (Sum.inr (Sum.inr (Sum.inr (Sum.inl (IntKind.u16, z27)))))))))) { heap := [], ints := [], opqs := (0 : Nat), arrs := [some { elem := OfNat.ofNat (5 : Nat), k := AK.n IntKind.u8, l := L, cap := cap, ro := false }], junks := (0 : Nat) })) := by kernel_rfl
end Go.Proofs.Ytnnloikmjofkfaa
end

section
set_option linter.unusedVariables false
set_option linter.unusedSimpArgs false
namespace Go.Proofs.Ytnnloikmjofkfaa
open Go Reck

def U.en (p : Int) : Int := if p = 17 then 8 else if p = 6 then 20 else 0
def U.ea (p : Int) : Int := if p = 17 then 6 else if p = 6 then 16 else 0
theorem ends_run (K : AV → St → Prop) (p : Int) (h : K (.inr [.inl (xintC .i64 (U.en p)), .inl (xintC .i64 (U.ea p))]) emptySt) : runI inv0 tF1 43 [xi .i64 p] emptySt (opn K) := by
  rw [ends_vc]
  unfold U.en U.ea at h
  refine ⟨fun h1 => ?_, fun h1 => ⟨fun h2 => ?_, fun h2 => ?_⟩⟩
  · rw [if_pos h1, if_pos h1] at h; exact h
  · rw [if_neg h1, if_neg h1, if_pos h2, if_pos h2] at h; exact h
  · rw [if_neg h1, if_neg h1, if_neg h2, if_neg h2] at h; exact h

theorem bp {L : List Int} {N : Int} {m c cap : Nat} {l : List Bool} {n : Int} {vs : List Int} (h1 : U.Out L N l) (h2 : m = L.length) (h3 : c ≤ cap) (h4 : m ≤ c) (h5 : 1 ≤ n ∧ n ≤ 64) (h6 : N + vs.length * n ≤ 524288) (h7 : ∀ v ∈ vs, 0 ≤ v ∧ v ≤ 18446744073709551615) : U.BitsPre L N m c cap l n vs := ⟨⟨h1, h2, h3, h4, h5, h6, h7⟩⟩
theorem in1 {a : Int} (h : 0 ≤ a ∧ a ≤ 18446744073709551615) : ∀ v ∈ [a], 0 ≤ v ∧ v ≤ 18446744073709551615 := by simpa using h
theorem in2 {a b : Int} (h : 0 ≤ a ∧ a ≤ 18446744073709551615) (k : 0 ≤ b ∧ b ≤ 18446744073709551615) : ∀ v ∈ [a, b], 0 ≤ v ∧ v ≤ 18446744073709551615 := by simpa using ⟨h, k⟩
theorem in3 {a b c : Int} (h : 0 ≤ a ∧ a ≤ 18446744073709551615) (k : 0 ≤ b ∧ b ≤ 18446744073709551615) (j : 0 ≤ c ∧ c ≤ 18446744073709551615) : ∀ v ∈ [a, b, c], 0 ≤ v ∧ v ≤ 18446744073709551615 := by simpa using ⟨h, k, j⟩
theorem in4 {a b c d : Int} (h : 0 ≤ a ∧ a ≤ 18446744073709551615) (k : 0 ≤ b ∧ b ≤ 18446744073709551615) (j : 0 ≤ c ∧ c ≤ 18446744073709551615) (i : 0 ≤ d ∧ d ≤ 18446744073709551615) : ∀ v ∈ [a, b, c, d], 0 ≤ v ∧ v ≤ 18446744073709551615 := by simpa using ⟨h, k, j, i⟩

/-- What an Out is asked to be. -/
structure U.OutP (L : List Int) (N : Int) (m c cap : Nat) (l : List Bool) : Prop where
  out : U.Out L N l ∧ m = L.length ∧ c ≤ cap ∧ m ≤ c
def outPost (K : AV → St → Prop) (v : AV) (l : List Bool) : Prop := ∀ (L' : List Int) (m' c' cap' : Nat) (N' : Int), U.OutP L' N' m' c' cap' l → N' = l.length → K v (outSt' L' m' c' cap' N')
theorem out_len {L : List Int} {N : Int} {l : List Bool} (h : U.Out L N l) : N = l.length := by
  obtain ⟨_, _, _, h, _⟩ := h; exact h

def U.arpL (l : List Bool) (op sha spa tha tpa : Int) : List Bool := U.apps (U.apps (U.apps (U.apps (U.apps (U.apps (U.apps l 16 [1, 2048]) 8 [6, 4]) 16 [op]) 48 [sha]) 32 [spa]) 48 [tha]) 32 [tpa]
theorem writeArp_run (K : AV → St → Prop) (op sha spa tha tpa : Int) (L : List Int) (l : List Bool) (m c cap : Nat) (N : Int) (h : U.OutP L N m c cap l) (hN : N ≤ 500000) (h1 : 0 ≤ op ∧ op ≤ 65535) (h2 : 0 ≤ sha ∧ sha ≤ 281474976710655) (h3 : 0 ≤ spa ∧ spa ≤ 4294967295) (h4 : 0 ≤ tha ∧ tha ≤ 281474976710655) (h5 : 0 ≤ tpa ∧ tpa ≤ 4294967295)
    (hk : outPost K (.inr []) (U.arpL l op sha spa tha tpa)) : runI inv0 tF1 46 [ptr 0 0, arpA op sha spa tha tpa] (outSt L m c cap N) K := by
  rw [writeArp_vc]
  obtain ⟨g1, g2, g3, g4⟩ := h.out
  refine ⟨_, bp g1 g2 g3 g4 (by decide) (by simp; omega) (in2 (by decide) (by decide)), fun La ma ca pa Na a1 a2 a3 a4 a5 => ?_⟩
  refine ⟨_, bp a1 a3 a4 a5 (by decide) (by simp; omega) (in2 (by decide) (by decide)), fun Lb mb cb pb Nb b1 b2 b3 b4 b5 z12 e12 => ?_⟩
  have e12 := wu64 e12 (by omega)
  refine ⟨_, bp b1 b3 b4 b5 (by decide) (by simp; omega) (in1 (by omega)), fun Lc mc cc pc Nc c1 c2 c3 c4 c5 => ?_⟩
  refine ⟨_, bp c1 c3 c4 c5 (by decide) (by simp at *; omega) (in1 (by omega)), fun Ld md cd pd Nd d1 d2 d3 d4 d5 z25 e25 => ?_⟩
  have e25 := wu64 e25 (by omega)
  refine ⟨_, bp d1 d3 d4 d5 (by decide) (by simp at *; omega) (in1 (by omega)), fun Le me ce pe Ne e1 e2 e3 e4 e5 => ?_⟩
  refine ⟨_, bp e1 e3 e4 e5 (by decide) (by simp at *; omega) (in1 (by omega)), fun Lf mf cf pf Nf f1 f2 f3 f4 f5 z38 e38 => ?_⟩
  have e38 := wu64 e38 (by omega)
  refine ⟨_, bp f1 f3 f4 f5 (by decide) (by simp at *; omega) (in1 (by omega)), fun Lg mg cg pg Ng j1 j2 j3 j4 j5 => ?_⟩
  subst e12; subst e25; subst e38
  exact hk Lg mg cg pg Ng ⟨j1, j3, j4, j5⟩ (out_len j1)

def U.headL (l : List Bool) (fr to proto ttl id len : Int) : List Bool := U.apps (U.apps (U.apps (U.apps (U.apps (U.apps l 4 [4, 5]) 8 [0]) 16 [len, id, 0]) 8 [ttl, proto]) 16 [0]) 32 [fr, to]
theorem writeHead_run (K : AV → St → Prop) (fr to proto ttl id len : Int) (L : List Int) (l : List Bool) (m c cap : Nat) (N : Int) (h : U.OutP L N m c cap l) (hN : N ≤ 500000) (h1 : 0 ≤ fr ∧ fr ≤ 4294967295) (h2 : 0 ≤ to ∧ to ≤ 4294967295) (h3 : 0 ≤ proto ∧ proto ≤ 255) (h4 : 0 ≤ ttl ∧ ttl ≤ 255) (h5 : 0 ≤ id ∧ id ≤ 65535) (h6 : 0 ≤ len ∧ len ≤ 65535)
    (hk : outPost K (.inr []) (U.headL l fr to proto ttl id len)) : runI inv0 tF1 47 [ptr 0 0, headA fr to proto ttl id, xi .i64 len] (outSt L m c cap N) K := by
  rw [writeHead_vc]
  obtain ⟨g1, g2, g3, g4⟩ := h.out
  refine ⟨_, bp g1 g2 g3 g4 (by decide) (by simp; omega) (in2 (by decide) (by decide)), fun La ma ca pa Na a1 a2 a3 a4 a5 => ?_⟩
  refine ⟨_, bp a1 a3 a4 a5 (by decide) (by simp; omega) (in1 (by decide)), fun Lb mb cb pb Nb b1 b2 b3 b4 b5 z12 e12 z13 e13 => ?_⟩
  have e12 := wu64 e12 (by omega)
  have e13 := wu64 e13 (by omega)
  refine ⟨_, bp b1 b3 b4 b5 (by decide) (by simp; omega) (in3 (by omega) (by omega) (by decide)), fun Lc mc cc pc Nc c1 c2 c3 c4 c5 z20 e20 z21 e21 => ?_⟩
  have e20 := wu64 e20 (by omega)
  have e21 := wu64 e21 (by omega)
  refine ⟨_, bp c1 c3 c4 c5 (by decide) (by simp at *; omega) (in2 (by omega) (by omega)), fun Ld md cd pd Nd d1 d2 d3 d4 d5 => ?_⟩
  refine ⟨_, bp d1 d3 d4 d5 (by decide) (by simp at *; omega) (in1 (by decide)), fun Le me ce pe Ne e1 e2 e3 e4 e5 z34 e34 z35 e35 => ?_⟩
  have e34 := wu64 e34 (by omega)
  have e35 := wu64 e35 (by omega)
  refine ⟨_, bp e1 e3 e4 e5 (by decide) (by simp at *; omega) (in2 (by omega) (by omega)), fun Lg mg cg pg Ng j1 j2 j3 j4 j5 => ?_⟩
  subst e12; subst e13; subst e20; subst e21; subst e34; subst e35
  exact hk Lg mg cg pg Ng ⟨j1, j3, j4, j5⟩ (out_len j1)

def U.endsL (l : List Bool) (sport dport seq ack flags win p len : Int) : List Bool :=
  if p = 17 then U.apps l 16 [sport, dport, len, 0] else if p = 6 then U.apps (U.apps (U.apps (U.apps (U.apps l 16 [sport, dport]) 32 [seq, ack]) 4 [5, 0]) 8 [flags]) 16 [win, 0, 0] else l
theorem writeEnds_run (K : AV → St → Prop) (sport dport seq ack flags win p len : Int) (L : List Int) (l : List Bool) (m c cap : Nat) (N : Int) (h : U.OutP L N m c cap l) (hN : N ≤ 500000) (h1 : 0 ≤ sport ∧ sport ≤ 65535) (h2 : 0 ≤ dport ∧ dport ≤ 65535) (h3 : 0 ≤ seq ∧ seq ≤ 4294967295) (h4 : 0 ≤ ack ∧ ack ≤ 4294967295) (h5 : 0 ≤ flags ∧ flags ≤ 255) (h6 : 0 ≤ win ∧ win ≤ 65535) (h7 : 0 ≤ len ∧ len ≤ 65535)
    (hk1 : p = 17 ∨ p = 6 → outPost K (.inr []) (U.endsL l sport dport seq ack flags win p len)) (hk2 : ¬ p = 17 → ¬ p = 6 → K (.inr []) (outSt L m c cap N)) : runI inv0 tF1 48 [ptr 0 0, endsA sport dport seq ack flags win, xi .i64 p, xi .i64 len] (outSt L m c cap N) K := by
  rw [writeEnds_vc]
  obtain ⟨g1, g2, g3, g4⟩ := h.out
  refine ⟨fun hp z0 e0 z1 e1 z2 e2 => ?_, fun hp => ⟨fun hp6 z0 e0 z1 e1 => ?_, fun hp6 => hk2 hp hp6⟩⟩
  · have e0 := wu64 e0 (by omega)
    have e1 := wu64 e1 (by omega)
    have e2 := wu64 e2 (by omega)
    refine ⟨_, bp g1 g2 g3 g4 (by decide) (by simp; omega) (in4 (by omega) (by omega) (by omega) (by decide)), fun La ma ca pa Na a1 a2 a3 a4 a5 => ?_⟩
    subst e0; subst e1; subst e2
    have hk1 := hk1 (.inl hp)
    unfold U.endsL at hk1
    rw [if_pos hp] at hk1
    exact hk1 La ma ca pa Na ⟨a1, a3, a4, a5⟩ (out_len a1)
  · have e0 := wu64 e0 (by omega)
    have e1 := wu64 e1 (by omega)
    refine ⟨_, bp g1 g2 g3 g4 (by decide) (by simp; omega) (in2 (by omega) (by omega)), fun La ma ca pa Na a1 a2 a3 a4 a5 z2 e2 z3 e3 => ?_⟩
    have e2 := wu64 e2 (by omega)
    have e3 := wu64 e3 (by omega)
    refine ⟨_, bp a1 a3 a4 a5 (by decide) (by simp at *; omega) (in2 (by omega) (by omega)), fun Lb mb cb pb Nb b1 b2 b3 b4 b5 => ?_⟩
    refine ⟨_, bp b1 b3 b4 b5 (by decide) (by simp at *; omega) (in2 (by decide) (by decide)), fun Lc mc cc pc Nc c1 c2 c3 c4 c5 z4 e4 => ?_⟩
    have e4 := wu64 e4 (by omega)
    refine ⟨_, bp c1 c3 c4 c5 (by decide) (by simp at *; omega) (in1 (by omega)), fun Ld md cd pd Nd d1 d2 d3 d4 d5 z5 e5 => ?_⟩
    have e5 := wu64 e5 (by omega)
    refine ⟨_, bp d1 d3 d4 d5 (by decide) (by simp at *; omega) (in3 (by omega) (by decide) (by decide)), fun Le me ce pe Ne j1 j2 j3 j4 j5 => ?_⟩
    subst e0; subst e1; subst e2; subst e3; subst e4; subst e5
    have hk1 := hk1 (.inr hp6)
    unfold U.endsL at hk1
    rw [if_neg hp, if_pos hp6] at hk1
    exact hk1 Le me ce pe Ne ⟨j1, j3, j4, j5⟩ (out_len j1)

/-- The bytes over which the sum of UDP and TCP goes, ahead of all from the ports on. -/
def U.preL (fr to proto n : Int) : List Bool := U.apps (U.apps (U.apps [] 32 [fr, to]) 8 [0, proto]) 16 [n]
structure U.EsIn (A : List Int) (fr to proto n : Int) : Prop where
  out : U.Out A 96 (U.preL fr to proto n)
def U.es (A L : List Int) (o n : Nat) (proto : Int) : Int := if U.S2 A L 0 12 o n = 0 ∧ proto = 17 then 65535 else U.S2 A L 0 12 o n
theorem endsSum_run (K : AV → St → Prop) (fr to proto ttl id : Int) (L : List Int) (o n c cap : Nat) (h1 : 0 ≤ fr ∧ fr ≤ 4294967295) (h2 : 0 ≤ to ∧ to ≤ 4294967295) (h3 : 0 ≤ proto ∧ proto ≤ 255) (hB : U.B L) (hn : o + n ≤ L.length) (hn9 : n ≤ 900)
    (hk : ∀ A : List Int, U.EsIn A fr to proto n → K (xi .u16 (U.es A L o n proto)) (ar [bs L cap false])) : runI inv0 tF1 66 [headA fr to proto ttl id, cell (aslC ⟨0, o, n, c⟩)] (ar [bs L cap false]) (opn K) := by
  rw [endsSum_vc]
  intro L0 g1 g2 z1 e1 z2 e2
  have e1 := wu64 e1 (by omega)
  have e2 := wu64 e2 (by omega)
  refine ⟨_, bp g1 (by rw [g2]; rfl) (Nat.le_refl _) (Nat.le_refl _) (by decide) (by simp) (in2 (by omega) (by omega)), fun La ma ca pa Na a1 a2 a3 a4 a5 z9 e9 => ?_⟩
  have e9 := wu64 e9 (by omega)
  refine ⟨_, bp a1 a3 a4 a5 (by decide) (by simp at *; omega) (in2 (by decide) (by omega)), fun Lb mb cb pb Nb b1 b2 b3 b4 b5 z16 e16 z17 e17 => ?_⟩
  have e17 := wu64 e17 (by omega)
  refine ⟨_, bp b1 b3 b4 b5 (by decide) (by simp at *; omega) (in1 (by omega)), fun Lc mc cc pc Nc c1 c2 c3 c4 c5 => ?_⟩
  have hNc : Nc = 96 := by simp at a2 b2 c2; omega
  subst hNc
  have hmc : mc = 12 := by
    obtain ⟨cs, k1, k2, k3, k4⟩ := c1
    have := k2.2.1
    rw [c3, k1, nz_length, this]; omega
  have hby : U.B Lc := by
    obtain ⟨cs, k1, k2, k3, k4⟩ := c1
    refine ⟨fun x hx => ?_⟩
    rw [k1] at hx
    obtain ⟨y, hy, rfl⟩ := List.mem_map.1 hx
    have := k2.1 y hy; omega
  subst e1; subst e2; subst e9; subst e16; subst e17
  refine ⟨⟨c3, by omega⟩, fun L24 c25 p26 q1 q2 q3 => ?_⟩
  subst q1
  subst hmc
  have hk := hk L24 ⟨c1⟩
  unfold U.es at hk
  refine ⟨⟨hby, hB, by show 0 + 12 ≤ L24.length; omega, hn, by omega, hn9⟩, fun z27 e27 => ?_⟩
  have e27' : z27 = U.S2 L24 L 0 12 o n := e27
  refine ⟨fun h0 => ⟨fun hp => ?_, fun hp => ?_⟩, fun h0 => ?_⟩
  · rw [if_pos ⟨e27' ▸ h0, hp⟩] at hk; exact hk
  · rw [if_neg (fun h => hp h.2), ← e27'] at hk; exact hk
  · rw [if_neg (fun h => h0 (e27'.trans h.1)), ← e27'] at hk; exact hk
end Go.Proofs.Ytnnloikmjofkfaa
end

section
set_option linter.unusedVariables false
set_option linter.unusedSimpArgs false
namespace Go.Proofs.Ytnnloikmjofkfaa
open Go Reck

def tEnds : Tbl := fun f args σ => if f == 43 then match args, σ with
    | [p], ⟨[], [], 0, [], 0⟩ => match xiX p with
      | some (.i64, p) => some fun K => ∀ a b : Int, a = U.en p → b = U.ea p → K (.inr [.inl (xintC .i64 a), .inl (xintC .i64 b)]) emptySt
      | _ => none
    | _, _ => none
  else none
theorem tEnds_ok : TblOk Try.prog tEnds := by
  intro f tm σ C h K hK
  unfold tEnds at h
  split at h
  · rename_i hf
    obtain rfl : f = 43 := by simpa using hf
    split at h
    · split at h
      · rename_i p hp
        obtain rfl := xiX_eq hp
        simp only [Option.some.injEq] at h; subst h
        intro w0 en w hok vs hvs
        exact calls_open (knownC noOv names (conOk_of tF1_ok) (ends_run K p (hK _ _ rfl rfl)) w0 en w hok vs hvs)
      · cases h
    · cases h
  · cases h
def intsK : List IntKind → List Cell → Option (List Int)
  | [], [] => some []
  | k :: ks, c :: l => match xiX (cell c), intsK ks l with
    | some (k', v), some vs => if decide (k' = k) then some (v :: vs) else none
    | _, _ => none
  | _, _ => none
def mkK : List IntKind → List Int → List Cell
  | k :: ks, v :: vs => xintC k v :: mkK ks vs
  | _, _ => []
theorem intsK_eq : ∀ {ks : List IntKind} {l : List Cell} {vs : List Int}, intsK ks l = some vs → l = mkK ks vs ∧ vs.length = ks.length
  | [], [], vs, h => by simp only [intsK, Option.some.injEq] at h; subst h; exact ⟨rfl, rfl⟩
  | [], _ :: _, vs, h => by simp [intsK] at h
  | _ :: _, [], vs, h => by simp [intsK] at h
  | k :: ks, c :: l, vs, h => by
    simp only [intsK] at h
    split at h
    · rename_i k' v vs' h1 h2
      split at h
      · rename_i hk
        simp only [decide_eq_true_eq] at hk; subst hk
        simp only [Option.some.injEq] at h; subst h
        obtain ⟨e1, e2⟩ := intsK_eq h2
        rw [e1, cell_inj (xiX_eq h1)]
        exact ⟨rfl, by simp [e2]⟩
      · cases h
    · cases h
def kArp : List IntKind := [.i64, .u64, .u64, .u32, .u32]
def kHead : List IntKind := [.u32, .u32, .i64, .i64, .i64]
def kEnds : List IntKind := [.i64, .i64, .u32, .u32, .i64, .i64]
def tArp : Tbl := fun f args σ => if f == 46 then match args, σ with
    | [.inl (.inl (.inr (.inl (0, 0)))), .inl (.inr l)], ⟨[some ⟨108, [s, N], none, 2, false⟩], [], 0, [some ⟨5, .n .u8, L, cap, false⟩], 0⟩ => match aslX (cell s), xiX (cell N), intsK kArp l with
      | some ⟨0, 0, m, c⟩, some (.i64, N), some [op, sha, tha, spa, tpa] => some fun K => ∃ l, (U.OutP L N m c cap l ∧ N ≤ 500000 ∧ (0 ≤ op ∧ op ≤ 65535) ∧ (0 ≤ sha ∧ sha ≤ 281474976710655) ∧ (0 ≤ spa ∧ spa ≤ 4294967295) ∧ (0 ≤ tha ∧ tha ≤ 281474976710655) ∧ (0 ≤ tpa ∧ tpa ≤ 4294967295)) ∧
          ∀ (L' : List Int) (m' c' cap' : Nat) (N' : Int), U.OutP L' N' m' c' cap' (U.arpL l op sha spa tha tpa) → K (.inr []) (outSt' L' m' c' cap' N')
      | _, _, _ => none
    | _, _ => none
  else none
def tHead : Tbl := fun f args σ => if f == 47 then match args, σ with
    | [.inl (.inl (.inr (.inl (0, 0)))), .inl (.inr l), n], ⟨[some ⟨108, [s, N], none, 2, false⟩], [], 0, [some ⟨5, .n .u8, L, cap, false⟩], 0⟩ => match aslX (cell s), xiX (cell N), intsK kHead l, xiX n with
      | some ⟨0, 0, m, c⟩, some (.i64, N), some [fr, to, proto, ttl, id], some (.i64, len) => some fun K => ∃ l, (U.OutP L N m c cap l ∧ N ≤ 500000 ∧ (0 ≤ fr ∧ fr ≤ 4294967295) ∧ (0 ≤ to ∧ to ≤ 4294967295) ∧ (0 ≤ proto ∧ proto ≤ 255) ∧ (0 ≤ ttl ∧ ttl ≤ 255) ∧ (0 ≤ id ∧ id ≤ 65535) ∧ (0 ≤ len ∧ len ≤ 65535)) ∧
          ∀ (L' : List Int) (m' c' cap' : Nat) (N' : Int), U.OutP L' N' m' c' cap' (U.headL l fr to proto ttl id len) → K (.inr []) (outSt' L' m' c' cap' N')
      | _, _, _, _ => none
    | _, _ => none
  else none
def tWEnds : Tbl := fun f args σ => if f == 48 then match args, σ with
    | [.inl (.inl (.inr (.inl (0, 0)))), .inl (.inr l), p, n], ⟨[some ⟨108, [s, N], none, 2, false⟩], [], 0, [some ⟨5, .n .u8, L, cap, false⟩], 0⟩ => match aslX (cell s), xiX (cell N), intsK kEnds l, xiX p, xiX n with
      | some ⟨0, 0, m, c⟩, some (.i64, N), some [sport, dport, seq, ack, flags, win], some (.i64, p), some (.i64, len) => some fun K => ∃ l, (U.OutP L N m c cap l ∧ N ≤ 500000 ∧ (0 ≤ sport ∧ sport ≤ 65535) ∧ (0 ≤ dport ∧ dport ≤ 65535) ∧ (0 ≤ seq ∧ seq ≤ 4294967295) ∧ (0 ≤ ack ∧ ack ≤ 4294967295) ∧ (0 ≤ flags ∧ flags ≤ 255) ∧ (0 ≤ win ∧ win ≤ 65535) ∧ (0 ≤ len ∧ len ≤ 65535)) ∧
          (p = 17 ∨ p = 6 → ∀ (L' : List Int) (m' c' cap' : Nat) (N' : Int), U.OutP L' N' m' c' cap' (U.endsL l sport dport seq ack flags win p len) → K (.inr []) (outSt' L' m' c' cap' N')) ∧ (¬ p = 17 → ¬ p = 6 → K (.inr []) (outSt L m c cap N))
      | _, _, _, _, _ => none
    | _, _ => none
  else none
def tESum : Tbl := fun f args σ => if f == 66 then match args, σ with
    | [.inl (.inr l), s], ⟨[], [], 0, [some ⟨5, .n .u8, L, cap, false⟩], 0⟩ => match aslX s, intsK kHead l with
      | some ⟨0, o, n, c⟩, some [fr, to, proto, ttl, id] => some fun K => ((0 ≤ fr ∧ fr ≤ 4294967295) ∧ (0 ≤ to ∧ to ≤ 4294967295) ∧ (0 ≤ proto ∧ proto ≤ 255) ∧ U.B L ∧ o + n ≤ L.length ∧ n ≤ 900) ∧
          ∀ (A : List Int) (z : Int), U.EsIn A fr to proto n → z = U.es A L o n proto → K (xi .u16 z) (ar [bs L cap false])
      | _, _ => none
    | _, _ => none
  else none
theorem tArp_ok : TblOk Try.prog tArp := by
  intro f tm σ C h K hK
  unfold tArp at h
  split at h
  · rename_i hf
    obtain rfl : f = 46 := by simpa using hf
    split at h
    · split at h
      · rename_i m c N op sha tha spa tpa hs hN hl
        obtain rfl := cell_inj (aslX_eq hs)
        obtain rfl := cell_inj (xiX_eq hN)
        obtain ⟨rfl, _⟩ := intsK_eq hl
        simp only [Option.some.injEq] at h; subst h
        obtain ⟨l, ⟨h1, h2, h3, h4, h5, h6, h7⟩, hk⟩ := hK
        exact knownC noOv names (conOk_of tF1_ok) (writeArp_run K op sha spa tha tpa _ l m c _ N h1 h2 h3 h4 h5 h6 h7 (fun L' m' c' cap' N' g _ => hk L' m' c' cap' N' g))
      · cases h
    · cases h
  · cases h
theorem tHead_ok : TblOk Try.prog tHead := by
  intro f tm σ C h K hK
  unfold tHead at h
  split at h
  · rename_i hf
    obtain rfl : f = 47 := by simpa using hf
    split at h
    · split at h
      · rename_i m c N fr to proto ttl id len hs hN hl hn
        obtain rfl := cell_inj (aslX_eq hs)
        obtain rfl := cell_inj (xiX_eq hN)
        obtain ⟨rfl, _⟩ := intsK_eq hl
        obtain rfl := xiX_eq hn
        simp only [Option.some.injEq] at h; subst h
        obtain ⟨l, ⟨h1, h2, h3, h4, h5, h6, h7, h8⟩, hk⟩ := hK
        exact knownC noOv names (conOk_of tF1_ok) (writeHead_run K fr to proto ttl id len _ l m c _ N h1 h2 h3 h4 h5 h6 h7 h8 (fun L' m' c' cap' N' g _ => hk L' m' c' cap' N' g))
      · cases h
    · cases h
  · cases h
theorem tWEnds_ok : TblOk Try.prog tWEnds := by
  intro f tm σ C h K hK
  unfold tWEnds at h
  split at h
  · rename_i hf
    obtain rfl : f = 48 := by simpa using hf
    split at h
    · split at h
      · rename_i m c N sport dport seq ack flags win p len hs hN hl hp hn
        obtain rfl := cell_inj (aslX_eq hs)
        obtain rfl := cell_inj (xiX_eq hN)
        obtain ⟨rfl, _⟩ := intsK_eq hl
        obtain rfl := xiX_eq hp
        obtain rfl := xiX_eq hn
        simp only [Option.some.injEq] at h; subst h
        obtain ⟨l, ⟨h1, h2, h3, h4, h5, h6, h7, h8, h9⟩, hk, hk'⟩ := hK
        exact knownC noOv names (conOk_of tF1_ok) (writeEnds_run K sport dport seq ack flags win p len _ l m c _ N h1 h2 h3 h4 h5 h6 h7 h8 h9 (fun hp L' m' c' cap' N' g _ => hk hp L' m' c' cap' N' g) hk')
      · cases h
    · cases h
  · cases h
theorem tESum_ok : TblOk Try.prog tESum := by
  intro f tm σ C h K hK
  unfold tESum at h
  split at h
  · rename_i hf
    obtain rfl : f = 66 := by simpa using hf
    split at h
    · split at h
      · rename_i o n c fr to proto ttl id hs hl
        obtain rfl := aslX_eq hs
        obtain ⟨rfl, _⟩ := intsK_eq hl
        simp only [Option.some.injEq] at h; subst h
        obtain ⟨⟨h1, h2, h3, h4, h5, h6⟩, hk⟩ := hK
        intro w0 en w hok vs hvs
        exact calls_open (knownC noOv names (conOk_of tF1_ok) (endsSum_run K fr to proto ttl id _ o n c _ h1 h2 h3 h4 h5 h6 (fun A g => hk A _ g rfl)) w0 en w hok vs hvs)
      · cases h
    · cases h
  · cases h
def tF3 : Tbl := tblOr tF1 (tblOr tEnds (tblOr tArp (tblOr tHead (tblOr tWEnds tESum))))
theorem tF3_ok : TblOk Try.prog tF3 := tblOr_ok tF1_ok (tblOr_ok tEnds_ok (tblOr_ok tArp_ok (tblOr_ok tHead_ok (tblOr_ok tWEnds_ok tESum_ok))))
end Go.Proofs.Ytnnloikmjofkfaa
end

section
namespace Go.Proofs.Ytnnloikmjofkfaa
open Go Reck
set_option linter.unusedVariables false
set_option maxRecDepth 100000
theorem sizeT_vc (K : AV → St → Prop) (dst src type op sha spa tha tpa fr to proto ttl id sport dport seq ack flags win : Int) (B : List Int) (o n c cap : Nat) : (runI inv0 tF3 25 [frA dst src type op sha spa tha tpa fr to proto ttl id sport dport seq ack flags win (aslC ⟨0, o, n, c⟩)] (ar [bs B cap true]) K) = (∀ (z0 : Int), z0 = (↑n : Int) → ∀ (z1 : Int), z1 = IntKind.wrap IntKind.i64 ((14 : Int) + z0) → (type = (2054 : Int) → ∀ (z2 : Int), z2 = IntKind.wrap IntKind.i64 (z1 + (28 : Int)) → K (Sum.inl (Sum.inl (Sum.inr (Sum.inr (Sum.inr (Sum.inr (Sum.inr (Sum.inr (Sum.inl (IntKind.i64, z2)))))))))) { heap := [], ints := [], opqs := (0 : Nat), arrs := [some { elem := OfNat.ofNat (5 : Nat), k := AK.n IntKind.u8, l := B, cap := cap, ro := true }], junks := (0 : Nat) }) ∧ (¬type = (2054 : Int) → (type = (2048 : Int) → ∀ (a3 b4 : Int), a3 = U.en proto → b4 = U.ea proto → ∀ (z5 : Int), z5 = IntKind.wrap IntKind.i64 ((20 : Int) + a3) → ∀ (z6 : Int), z6 = IntKind.wrap IntKind.i64 (z1 + z5) → K (Sum.inl (Sum.inl (Sum.inr (Sum.inr (Sum.inr (Sum.inr (Sum.inr (Sum.inr (Sum.inl (IntKind.i64, z6)))))))))) { heap := [], ints := [], opqs := (0 : Nat), arrs := [some { elem := OfNat.ofNat (5 : Nat), k := AK.n IntKind.u8, l := B, cap := cap, ro := true }], junks := (0 : Nat) }) ∧ (¬type = (2048 : Int) → K (Sum.inl (Sum.inl (Sum.inr (Sum.inr (Sum.inr (Sum.inr (Sum.inr (Sum.inr (Sum.inl (IntKind.i64, z1)))))))))) { heap := [], ints := [], opqs := (0 : Nat), arrs := [some { elem := OfNat.ofNat (5 : Nat), k := AK.n IntKind.u8, l := B, cap := cap, ro := true }], junks := (0 : Nat) }))) := by kernel_rfl
theorem sizeF_vc (K : AV → St → Prop) (dst src type op sha spa tha tpa fr to proto ttl id sport dport seq ack flags win : Int) (B : List Int) (o n c cap : Nat) : (runI inv0 tF3 25 [frA dst src type op sha spa tha tpa fr to proto ttl id sport dport seq ack flags win (aslC ⟨0, o, n, c⟩)] (ar [bs B cap false]) K) = (∀ (z0 : Int), z0 = (↑n : Int) → ∀ (z1 : Int), z1 = IntKind.wrap IntKind.i64 ((14 : Int) + z0) → (type = (2054 : Int) → ∀ (z2 : Int), z2 = IntKind.wrap IntKind.i64 (z1 + (28 : Int)) → K (Sum.inl (Sum.inl (Sum.inr (Sum.inr (Sum.inr (Sum.inr (Sum.inr (Sum.inr (Sum.inl (IntKind.i64, z2)))))))))) { heap := [], ints := [], opqs := (0 : Nat), arrs := [some { elem := OfNat.ofNat (5 : Nat), k := AK.n IntKind.u8, l := B, cap := cap, ro := false }], junks := (0 : Nat) }) ∧ (¬type = (2054 : Int) → (type = (2048 : Int) → ∀ (a3 b4 : Int), a3 = U.en proto → b4 = U.ea proto → ∀ (z5 : Int), z5 = IntKind.wrap IntKind.i64 ((20 : Int) + a3) → ∀ (z6 : Int), z6 = IntKind.wrap IntKind.i64 (z1 + z5) → K (Sum.inl (Sum.inl (Sum.inr (Sum.inr (Sum.inr (Sum.inr (Sum.inr (Sum.inr (Sum.inl (IntKind.i64, z6)))))))))) { heap := [], ints := [], opqs := (0 : Nat), arrs := [some { elem := OfNat.ofNat (5 : Nat), k := AK.n IntKind.u8, l := B, cap := cap, ro := false }], junks := (0 : Nat) }) ∧ (¬type = (2048 : Int) → K (Sum.inl (Sum.inl (Sum.inr (Sum.inr (Sum.inr (Sum.inr (Sum.inr (Sum.inr (Sum.inl (IntKind.i64, z1)))))))))) { heap := [], ints := [], opqs := (0 : Nat), arrs := [some { elem := OfNat.ofNat (5 : Nat), k := AK.n IntKind.u8, l := B, cap := cap, ro := false }], junks := (0 : Nat) }))) := by kernel_rfl
theorem sealT_vc (K : AV → St → Prop) (dst src type op sha spa tha tpa fr to proto ttl id sport dport seq ack flags win : Int) (B L : List Int) (o n c cap m lc lcap : Nat) (N : Int) : (runI inv0 tF3 50 [ptr 0 0, frA dst src type op sha spa tha tpa fr to proto ttl id sport dport seq ack flags win (aslC ⟨1, o, n, c⟩)] ⟨[outB (aslC ⟨0, 0, m, lc⟩) N], [], 0, [some (bs L lcap false), some (bs B cap true)], 0⟩ K) = ((m = List.length L ∧ m ≤ (16777216 : Nat)) ∧ ∀ (L'0 : List Int) (c'1 cap'2 : Nat), L'0 = L → m ≤ c'1 → c'1 ≤ cap'2 → (¬type = (2048 : Int) → K (Sum.inr []) { heap := [some { elem := (108 : Nat), cells := [Sum.inr (Sum.inr (Sum.inr (Sum.inr (Sum.inr (Sum.inr (Sum.inr (Sum.inl { a := (0 : Nat), o := (0 : Nat), n := m, c := lc }))))))), Sum.inr (Sum.inr (Sum.inr (Sum.inr (Sum.inr (Sum.inr (Sum.inl (IntKind.i64, N)))))))], j := none, c := (2 : Nat), z := false }], ints := [], opqs := (0 : Nat), arrs := [some { elem := OfNat.ofNat (5 : Nat), k := AK.n IntKind.u8, l := L, cap := lcap, ro := false }, some { elem := OfNat.ofNat (5 : Nat), k := AK.n IntKind.u8, l := B, cap := cap, ro := true }], junks := (0 : Nat) }) ∧ (¬¬type = (2048 : Int) → ∀ (a3 b4 : Int), a3 = U.en proto → b4 = U.ea proto → (a3 = (0 : Int) → ((0 : Int) ≤ (14 : Int) ∧ (14 : Int) ≤ (34 : Int) ∧ (34 : Int) ≤ (↑c'1 : Int)) ∧ ∀ (o5 n6 c7 : Nat), ((↑o5 : Int) = if (↑(ASl.c { a := (2 : Nat), o := (0 : Nat), n := m, c := c'1 }) : Int) = (14 : Int) then (↑(OfNat.ofNat (0 : Nat)) : Int) else (↑(OfNat.ofNat (0 : Nat)) : Int) + (14 : Int)) → (↑n6 : Int) = (20 : Int) → (↑c7 : Int) = (↑c'1 : Int) - (14 : Int) → (U.B L'0 ∧ o5 + n6 ≤ List.length L'0 ∧ n6 ≤ (900 : Nat)) ∧ ∀ (z8 : Int), z8 = U.S L'0 o5 n6 → ∀ (z9 : Int), z9 = IntKind.wrap IntKind.u64 z8 → (U.By L ∧ m = List.length L ∧ List.length L ≤ (65536 : Nat) ∧ N ≤ (8 : Int) * (↑(List.length L) : Int) ∧ ((0 : Int) ≤ (192 : Int) ∧ (208 : Int) ≤ N) ∧ ((1 : Int) ≤ (16 : Int) ∧ (16 : Int) ≤ (64 : Int)) ∧ (0 : Int) ≤ z9 ∧ z9 ≤ (18446744073709551615 : Int)) ∧ ∀ (L'10 : List Int), U.Sto L (192 : Int) (16 : Int) z9 L'10 → K (Sum.inr []) { heap := [some { elem := (108 : Nat), cells := [Sum.inr (Sum.inr (Sum.inr (Sum.inr (Sum.inr (Sum.inr (Sum.inr (Sum.inl { a := (0 : Nat), o := (0 : Nat), n := m, c := lc }))))))), Sum.inr (Sum.inr (Sum.inr (Sum.inr (Sum.inr (Sum.inr (Sum.inl (IntKind.i64, N)))))))], j := none, c := (2 : Nat), z := false }], ints := [], opqs := (0 : Nat), arrs := [some { elem := OfNat.ofNat (5 : Nat), k := AK.n IntKind.u8, l := L'10, cap := lcap, ro := false }, some { elem := OfNat.ofNat (5 : Nat), k := AK.n IntKind.u8, l := B, cap := cap, ro := true }], junks := (0 : Nat) }) ∧ (¬a3 = (0 : Int) → ∀ (z11 : Int), z11 = IntKind.wrap IntKind.i64 ((34 : Int) + b4) → ((0 : Int) ≤ (14 : Int) ∧ (14 : Int) ≤ (34 : Int) ∧ (34 : Int) ≤ (↑c'1 : Int)) ∧ ∀ (o12 n13 c14 : Nat), ((↑o12 : Int) = if (↑(ASl.c { a := (2 : Nat), o := (0 : Nat), n := m, c := c'1 }) : Int) = (14 : Int) then (↑(OfNat.ofNat (0 : Nat)) : Int) else (↑(OfNat.ofNat (0 : Nat)) : Int) + (14 : Int)) → (↑n13 : Int) = (20 : Int) → (↑c14 : Int) = (↑c'1 : Int) - (14 : Int) → (U.B L'0 ∧ o12 + n13 ≤ List.length L'0 ∧ n13 ≤ (900 : Nat)) ∧ ∀ (z15 : Int), z15 = U.S L'0 o12 n13 → ∀ (z16 : Int), z16 = IntKind.wrap IntKind.u64 z15 → (U.By L ∧ m = List.length L ∧ List.length L ≤ (65536 : Nat) ∧ N ≤ (8 : Int) * (↑(List.length L) : Int) ∧ ((0 : Int) ≤ (192 : Int) ∧ (208 : Int) ≤ N) ∧ ((1 : Int) ≤ (16 : Int) ∧ (16 : Int) ≤ (64 : Int)) ∧ (0 : Int) ≤ z16 ∧ z16 ≤ (18446744073709551615 : Int)) ∧ ∀ (L'17 : List Int), U.Sto L (192 : Int) (16 : Int) z16 L'17 → ((0 : Int) ≤ (14 : Int) ∧ (14 : Int) ≤ (34 : Int) ∧ (34 : Int) ≤ (↑c'1 : Int)) ∧ ∀ (o18 n19 c20 : Nat), ((↑o18 : Int) = if (↑(ASl.c { a := (2 : Nat), o := (0 : Nat), n := m, c := c'1 }) : Int) = (14 : Int) then (↑(OfNat.ofNat (0 : Nat)) : Int) else (↑(OfNat.ofNat (0 : Nat)) : Int) + (14 : Int)) → (↑n19 : Int) = (20 : Int) → (↑c20 : Int) = (↑c'1 : Int) - (14 : Int) → (U.B L'0 ∧ o18 + n19 ≤ List.length L'0 ∧ n19 ≤ (900 : Nat)) ∧ ∀ (z21 : Int), z21 = U.S L'0 o18 n19 → (¬z11 = (24 : Int) → ((0 : Int) ≤ (34 : Int) ∧ (34 : Int) ≤ (↑m : Int)) ∧ ∀ (o22 n23 c24 : Nat), ((↑o22 : Int) = if (↑(ASl.c { a := (2 : Nat), o := (0 : Nat), n := m, c := c'1 }) : Int) = (34 : Int) then (↑(OfNat.ofNat (0 : Nat)) : Int) else (↑(OfNat.ofNat (0 : Nat)) : Int) + (34 : Int)) → (↑n23 : Int) = (↑m : Int) - (34 : Int) → (↑c24 : Int) = (↑c'1 : Int) - (34 : Int) → (((0 : Int) ≤ fr ∧ fr ≤ (4294967295 : Int)) ∧ ((0 : Int) ≤ to ∧ to ≤ (4294967295 : Int)) ∧ ((0 : Int) ≤ proto ∧ proto ≤ (255 : Int)) ∧ U.B L'0 ∧ o22 + n23 ≤ List.length L'0 ∧ n23 ≤ (900 : Nat)) ∧ ∀ (A25 : List Int) (z26 : Int), U.EsIn A25 fr to proto (↑n23 : Int) → z26 = U.es A25 L'0 o22 n23 proto → fr = fr ∧ to = to ∧ proto = proto ∧ ttl = ttl ∧ id = id ∧ ∀ (z27 : Int), z27 = IntKind.wrap IntKind.i64 ((8 : Int) * z11) → ∀ (z28 : Int), z28 = IntKind.wrap IntKind.u64 z26 → (U.By L'17 ∧ m = List.length L'17 ∧ List.length L'17 ≤ (65536 : Nat) ∧ N ≤ (8 : Int) * (↑(List.length L'17) : Int) ∧ ((0 : Int) ≤ z27 ∧ z27 + (16 : Int) ≤ N) ∧ ((1 : Int) ≤ (16 : Int) ∧ (16 : Int) ≤ (64 : Int)) ∧ (0 : Int) ≤ z28 ∧ z28 ≤ (18446744073709551615 : Int)) ∧ ∀ (L'29 : List Int), U.Sto L'17 z27 (16 : Int) z28 L'29 → K (Sum.inr []) { heap := [some { elem := (108 : Nat), cells := [Sum.inr (Sum.inr (Sum.inr (Sum.inr (Sum.inr (Sum.inr (Sum.inr (Sum.inl { a := (0 : Nat), o := (0 : Nat), n := m, c := lc }))))))), Sum.inr (Sum.inr (Sum.inr (Sum.inr (Sum.inr (Sum.inr (Sum.inl (IntKind.i64, N)))))))], j := none, c := (2 : Nat), z := false }], ints := [], opqs := (0 : Nat), arrs := [some { elem := OfNat.ofNat (5 : Nat), k := AK.n IntKind.u8, l := L'29, cap := lcap, ro := false }, some { elem := OfNat.ofNat (5 : Nat), k := AK.n IntKind.u8, l := B, cap := cap, ro := true }], junks := (0 : Nat) }) ∧ (¬¬z11 = (24 : Int) → ∀ (z30 : Int), z30 = IntKind.wrap IntKind.i64 ((8 : Int) * z11) → ∀ (z31 : Int), z31 = IntKind.wrap IntKind.u64 z21 → (U.By L'17 ∧ m = List.length L'17 ∧ List.length L'17 ≤ (65536 : Nat) ∧ N ≤ (8 : Int) * (↑(List.length L'17) : Int) ∧ ((0 : Int) ≤ z30 ∧ z30 + (16 : Int) ≤ N) ∧ ((1 : Int) ≤ (16 : Int) ∧ (16 : Int) ≤ (64 : Int)) ∧ (0 : Int) ≤ z31 ∧ z31 ≤ (18446744073709551615 : Int)) ∧ ∀ (L'32 : List Int), U.Sto L'17 z30 (16 : Int) z31 L'32 → K (Sum.inr []) { heap := [some { elem := (108 : Nat), cells := [Sum.inr (Sum.inr (Sum.inr (Sum.inr (Sum.inr (Sum.inr (Sum.inr (Sum.inl { a := (0 : Nat), o := (0 : Nat), n := m, c := lc }))))))), Sum.inr (Sum.inr (Sum.inr (Sum.inr (Sum.inr (Sum.inr (Sum.inl (IntKind.i64, N)))))))], j := none, c := (2 : Nat), z := false }], ints := [], opqs := (0 : Nat), arrs := [some { elem := OfNat.ofNat (5 : Nat), k := AK.n IntKind.u8, l := L'32, cap := lcap, ro := false }, some { elem := OfNat.ofNat (5 : Nat), k := AK.n IntKind.u8, l := B, cap := cap, ro := true }], junks := (0 : Nat) })))) := by kernel_rfl
theorem sealF_vc (K : AV → St → Prop) (dst src type op sha spa tha tpa fr to proto ttl id sport dport seq ack flags win : Int) (B L : List Int) (o n c cap m lc lcap : Nat) (N : Int) : (runI inv0 tF3 50 [ptr 0 0, frA dst src type op sha spa tha tpa fr to proto ttl id sport dport seq ack flags win (aslC ⟨1, o, n, c⟩)] ⟨[outB (aslC ⟨0, 0, m, lc⟩) N], [], 0, [some (bs L lcap false), some (bs B cap false)], 0⟩ K) = ((m = List.length L ∧ m ≤ (16777216 : Nat)) ∧ ∀ (L'0 : List Int) (c'1 cap'2 : Nat), L'0 = L → m ≤ c'1 → c'1 ≤ cap'2 → (¬type = (2048 : Int) → K (Sum.inr []) { heap := [some { elem := (108 : Nat), cells := [Sum.inr (Sum.inr (Sum.inr (Sum.inr (Sum.inr (Sum.inr (Sum.inr (Sum.inl { a := (0 : Nat), o := (0 : Nat), n := m, c := lc }))))))), Sum.inr (Sum.inr (Sum.inr (Sum.inr (Sum.inr (Sum.inr (Sum.inl (IntKind.i64, N)))))))], j := none, c := (2 : Nat), z := false }], ints := [], opqs := (0 : Nat), arrs := [some { elem := OfNat.ofNat (5 : Nat), k := AK.n IntKind.u8, l := L, cap := lcap, ro := false }, some { elem := OfNat.ofNat (5 : Nat), k := AK.n IntKind.u8, l := B, cap := cap, ro := false }], junks := (0 : Nat) }) ∧ (¬¬type = (2048 : Int) → ∀ (a3 b4 : Int), a3 = U.en proto → b4 = U.ea proto → (a3 = (0 : Int) → ((0 : Int) ≤ (14 : Int) ∧ (14 : Int) ≤ (34 : Int) ∧ (34 : Int) ≤ (↑c'1 : Int)) ∧ ∀ (o5 n6 c7 : Nat), ((↑o5 : Int) = if (↑(ASl.c { a := (2 : Nat), o := (0 : Nat), n := m, c := c'1 }) : Int) = (14 : Int) then (↑(OfNat.ofNat (0 : Nat)) : Int) else (↑(OfNat.ofNat (0 : Nat)) : Int) + (14 : Int)) → (↑n6 : Int) = (20 : Int) → (↑c7 : Int) = (↑c'1 : Int) - (14 : Int) → (U.B L'0 ∧ o5 + n6 ≤ List.length L'0 ∧ n6 ≤ (900 : Nat)) ∧ ∀ (z8 : Int), z8 = U.S L'0 o5 n6 → ∀ (z9 : Int), z9 = IntKind.wrap IntKind.u64 z8 → (U.By L ∧ m = List.length L ∧ List.length L ≤ (65536 : Nat) ∧ N ≤ (8 : Int) * (↑(List.length L) : Int) ∧ ((0 : Int) ≤ (192 : Int) ∧ (208 : Int) ≤ N) ∧ ((1 : Int) ≤ (16 : Int) ∧ (16 : Int) ≤ (64 : Int)) ∧ (0 : Int) ≤ z9 ∧ z9 ≤ (18446744073709551615 : Int)) ∧ ∀ (L'10 : List Int), U.Sto L (192 : Int) (16 : Int) z9 L'10 → K (Sum.inr []) { heap := [some { elem := (108 : Nat), cells := [Sum.inr (Sum.inr (Sum.inr (Sum.inr (Sum.inr (Sum.inr (Sum.inr (Sum.inl { a := (0 : Nat), o := (0 : Nat), n := m, c := lc }))))))), Sum.inr (Sum.inr (Sum.inr (Sum.inr (Sum.inr (Sum.inr (Sum.inl (IntKind.i64, N)))))))], j := none, c := (2 : Nat), z := false }], ints := [], opqs := (0 : Nat), arrs := [some { elem := OfNat.ofNat (5 : Nat), k := AK.n IntKind.u8, l := L'10, cap := lcap, ro := false }, some { elem := OfNat.ofNat (5 : Nat), k := AK.n IntKind.u8, l := B, cap := cap, ro := false }], junks := (0 : Nat) }) ∧ (¬a3 = (0 : Int) → ∀ (z11 : Int), z11 = IntKind.wrap IntKind.i64 ((34 : Int) + b4) → ((0 : Int) ≤ (14 : Int) ∧ (14 : Int) ≤ (34 : Int) ∧ (34 : Int) ≤ (↑c'1 : Int)) ∧ ∀ (o12 n13 c14 : Nat), ((↑o12 : Int) = if (↑(ASl.c { a := (2 : Nat), o := (0 : Nat), n := m, c := c'1 }) : Int) = (14 : Int) then (↑(OfNat.ofNat (0 : Nat)) : Int) else (↑(OfNat.ofNat (0 : Nat)) : Int) + (14 : Int)) → (↑n13 : Int) = (20 : Int) → (↑c14 : Int) = (↑c'1 : Int) - (14 : Int) → (U.B L'0 ∧ o12 + n13 ≤ List.length L'0 ∧ n13 ≤ (900 : Nat)) ∧ ∀ (z15 : Int), z15 = U.S L'0 o12 n13 → ∀ (z16 : Int), z16 = IntKind.wrap IntKind.u64 z15 → (U.By L ∧ m = List.length L ∧ List.length L ≤ (65536 : Nat) ∧ N ≤ (8 : Int) * (↑(List.length L) : Int) ∧ ((0 : Int) ≤ (192 : Int) ∧ (208 : Int) ≤ N) ∧ ((1 : Int) ≤ (16 : Int) ∧ (16 : Int) ≤ (64 : Int)) ∧ (0 : Int) ≤ z16 ∧ z16 ≤ (18446744073709551615 : Int)) ∧ ∀ (L'17 : List Int), U.Sto L (192 : Int) (16 : Int) z16 L'17 → ((0 : Int) ≤ (14 : Int) ∧ (14 : Int) ≤ (34 : Int) ∧ (34 : Int) ≤ (↑c'1 : Int)) ∧ ∀ (o18 n19 c20 : Nat), ((↑o18 : Int) = if (↑(ASl.c { a := (2 : Nat), o := (0 : Nat), n := m, c := c'1 }) : Int) = (14 : Int) then (↑(OfNat.ofNat (0 : Nat)) : Int) else (↑(OfNat.ofNat (0 : Nat)) : Int) + (14 : Int)) → (↑n19 : Int) = (20 : Int) → (↑c20 : Int) = (↑c'1 : Int) - (14 : Int) → (U.B L'0 ∧ o18 + n19 ≤ List.length L'0 ∧ n19 ≤ (900 : Nat)) ∧ ∀ (z21 : Int), z21 = U.S L'0 o18 n19 → (¬z11 = (24 : Int) → ((0 : Int) ≤ (34 : Int) ∧ (34 : Int) ≤ (↑m : Int)) ∧ ∀ (o22 n23 c24 : Nat), ((↑o22 : Int) = if (↑(ASl.c { a := (2 : Nat), o := (0 : Nat), n := m, c := c'1 }) : Int) = (34 : Int) then (↑(OfNat.ofNat (0 : Nat)) : Int) else (↑(OfNat.ofNat (0 : Nat)) : Int) + (34 : Int)) → (↑n23 : Int) = (↑m : Int) - (34 : Int) → (↑c24 : Int) = (↑c'1 : Int) - (34 : Int) → (((0 : Int) ≤ fr ∧ fr ≤ (4294967295 : Int)) ∧ ((0 : Int) ≤ to ∧ to ≤ (4294967295 : Int)) ∧ ((0 : Int) ≤ proto ∧ proto ≤ (255 : Int)) ∧ U.B L'0 ∧ o22 + n23 ≤ List.length L'0 ∧ n23 ≤ (900 : Nat)) ∧ ∀ (A25 : List Int) (z26 : Int), U.EsIn A25 fr to proto (↑n23 : Int) → z26 = U.es A25 L'0 o22 n23 proto → fr = fr ∧ to = to ∧ proto = proto ∧ ttl = ttl ∧ id = id ∧ ∀ (z27 : Int), z27 = IntKind.wrap IntKind.i64 ((8 : Int) * z11) → ∀ (z28 : Int), z28 = IntKind.wrap IntKind.u64 z26 → (U.By L'17 ∧ m = List.length L'17 ∧ List.length L'17 ≤ (65536 : Nat) ∧ N ≤ (8 : Int) * (↑(List.length L'17) : Int) ∧ ((0 : Int) ≤ z27 ∧ z27 + (16 : Int) ≤ N) ∧ ((1 : Int) ≤ (16 : Int) ∧ (16 : Int) ≤ (64 : Int)) ∧ (0 : Int) ≤ z28 ∧ z28 ≤ (18446744073709551615 : Int)) ∧ ∀ (L'29 : List Int), U.Sto L'17 z27 (16 : Int) z28 L'29 → K (Sum.inr []) { heap := [some { elem := (108 : Nat), cells := [Sum.inr (Sum.inr (Sum.inr (Sum.inr (Sum.inr (Sum.inr (Sum.inr (Sum.inl { a := (0 : Nat), o := (0 : Nat), n := m, c := lc }))))))), Sum.inr (Sum.inr (Sum.inr (Sum.inr (Sum.inr (Sum.inr (Sum.inl (IntKind.i64, N)))))))], j := none, c := (2 : Nat), z := false }], ints := [], opqs := (0 : Nat), arrs := [some { elem := OfNat.ofNat (5 : Nat), k := AK.n IntKind.u8, l := L'29, cap := lcap, ro := false }, some { elem := OfNat.ofNat (5 : Nat), k := AK.n IntKind.u8, l := B, cap := cap, ro := false }], junks := (0 : Nat) }) ∧ (¬¬z11 = (24 : Int) → ∀ (z30 : Int), z30 = IntKind.wrap IntKind.i64 ((8 : Int) * z11) → ∀ (z31 : Int), z31 = IntKind.wrap IntKind.u64 z21 → (U.By L'17 ∧ m = List.length L'17 ∧ List.length L'17 ≤ (65536 : Nat) ∧ N ≤ (8 : Int) * (↑(List.length L'17) : Int) ∧ ((0 : Int) ≤ z30 ∧ z30 + (16 : Int) ≤ N) ∧ ((1 : Int) ≤ (16 : Int) ∧ (16 : Int) ≤ (64 : Int)) ∧ (0 : Int) ≤ z31 ∧ z31 ≤ (18446744073709551615 : Int)) ∧ ∀ (L'32 : List Int), U.Sto L'17 z30 (16 : Int) z31 L'32 → K (Sum.inr []) { heap := [some { elem := (108 : Nat), cells := [Sum.inr (Sum.inr (Sum.inr (Sum.inr (Sum.inr (Sum.inr (Sum.inr (Sum.inl { a := (0 : Nat), o := (0 : Nat), n := m, c := lc }))))))), Sum.inr (Sum.inr (Sum.inr (Sum.inr (Sum.inr (Sum.inr (Sum.inl (IntKind.i64, N)))))))], j := none, c := (2 : Nat), z := false }], ints := [], opqs := (0 : Nat), arrs := [some { elem := OfNat.ofNat (5 : Nat), k := AK.n IntKind.u8, l := L'32, cap := lcap, ro := false }, some { elem := OfNat.ofNat (5 : Nat), k := AK.n IntKind.u8, l := B, cap := cap, ro := false }], junks := (0 : Nat) })))) := by kernel_rfl
end Go.Proofs.Ytnnloikmjofkfaa
end

section
set_option linter.unusedVariables false
set_option linter.unusedSimpArgs false
namespace Go.Proofs.Ytnnloikmjofkfaa
open Go Reck

def U.size (type p n : Int) : Int := if type = 2054 then 42 + n else if type = 2048 then 34 + U.en p + n else 14 + n
theorem en_bnd (p : Int) : 0 ≤ U.en p ∧ U.en p ≤ 20 := by unfold U.en; split <;> (try split) <;> omega
theorem ea_bnd (p : Int) : 0 ≤ U.ea p ∧ U.ea p ≤ 16 := by unfold U.ea; split <;> (try split) <;> omega
theorem en_ea (p : Int) (h : ¬ U.en p = 0) : U.ea p + 2 ≤ U.en p ∧ 8 ≤ U.en p := by
  unfold U.en at *; unfold U.ea; split <;> (try split) <;> simp_all
structure U.Seal (L : List Int) (type p fr to : Int) (L' : List Int) : Prop where
  no : ¬ type = 2048 → L' = L
  one : type = 2048 → U.en p = 0 → U.Sto L 192 16 (U.S L 14 20) L'
  two : type = 2048 → ¬ U.en p = 0 → ∃ A L1, U.EsIn A fr to p (L.length - 34) ∧ U.Sto L 192 16 (U.S L 14 20) L1 ∧ U.Sto L1 (8 * (34 + U.ea p)) 16 (U.es A L 34 (L.length - 34) p) L'
theorem out_by {L : List Int} {N : Int} {l : List Bool} (h : U.Out L N l) : U.By L := by
  obtain ⟨cs, h1, h2, _⟩ := h
  exact ⟨cs, h1, h2.1⟩
theorem by_B {L : List Int} (h : U.By L) : U.B L := by
  obtain ⟨cs, h1, h2⟩ := h
  refine ⟨fun x hx => ?_⟩
  rw [h1] at hx
  obtain ⟨y, hy, rfl⟩ := List.mem_map.1 hx
  have := h2 y hy; omega
theorem out_mod {L : List Int} {N : Int} {l : List Bool} (h : U.Out L N l) : (L.length : Int) = (N + 7) / 8 := by
  obtain ⟨cs, h1, h2, h3, _⟩ := h
  have := h2.2.1
  rw [h1, nz_length, this, h3]; omega
theorem sto_len {L L' : List Int} {a n v : Int} (h : U.Sto L a n v L') : L'.length = L.length := by
  obtain ⟨cs, ds, h1, h2, h3⟩ := h
  rw [h1, h2, nz_length, nz_length, h3.1]
theorem sto_by {L L' : List Int} {a n v : Int} (h : U.Sto L a n v L') : U.By L' := by
  obtain ⟨cs, ds, h1, h2, h3⟩ := h
  exact ⟨ds, h2, h3.2.1⟩
theorem netS_bnd {s : Int} (h : 0 ≤ s) : 0 ≤ netS s ∧ netS s ≤ 65535 := by
  unfold netS
  split
  · omega
  · split <;> omega
theorem S_bnd {L : List Int} (h : U.B L) (o n : Nat) : 0 ≤ U.S L o n ∧ U.S L o n ≤ 65535 :=
  netS_bnd (fold_bnd true 0 _ (byteL_sub h.out o n)).1
theorem S2_bnd {L M : List Int} (h : U.B L) (h' : U.B M) (o n o' n' : Nat) : 0 ≤ U.S2 L M o n o' n' ∧ U.S2 L M o n o' n' ≤ 65535 := by
  refine netS_bnd (fold_bnd true 0 _ ?_).1
  intro x hx
  rcases List.mem_append.1 hx with hx | hx
  · exact byteL_sub h.out o n x hx
  · exact byteL_sub h'.out o' n' x hx
theorem es_bnd {A L : List Int} (h : U.B A) (h' : U.B L) (o n : Nat) (p : Int) : 0 ≤ U.es A L o n p ∧ U.es A L o n p ≤ 65535 := by
  have := S2_bnd h h' 0 12 o n
  unfold U.es
  split <;> omega
theorem cut14 {c o a m : Nat} (h : 34 ≤ c) (ho : (o : Int) = if ((⟨a, 0, m, c⟩ : ASl).c : Int) = 14 then ((0 : Nat) : Int) else ((0 : Nat) : Int) + 14) : o = 14 := by
  dsimp only at ho
  rw [if_neg (by omega)] at ho; omega
theorem sizeT_run (K : AV → St → Prop) (dst src type op sha spa tha tpa fr to proto ttl id sport dport seq ack flags win : Int) (B : List Int) (o n c cap : Nat) (hn : n ≤ 16777216) (h : K (xi .i64 (U.size type proto n)) (ar [bs B cap true])) : runI inv0 tF3 25 [frA dst src type op sha spa tha tpa fr to proto ttl id sport dport seq ack flags win (aslC ⟨0, o, n, c⟩)] (ar [bs B cap true]) K := by
  rw [sizeT_vc]
  unfold U.size at h
  intro z0 h0 z1 h1
  have e1 := w64 h1 (by omega)
  refine ⟨fun ht z2 h2 => ?_, fun ht => ⟨fun ht2 a3 b4 h3 h4 z5 h5 z6 h6 => ?_, fun ht2 => ?_⟩⟩
  · have e2 := w64 h2 (by omega)
    rw [if_pos ht] at h
    have : z2 = 42 + (n : Int) := by omega
    rw [this]; exact h
  · have hb := en_bnd proto
    have e5 := w64 h5 (by omega)
    have e6 := w64 h6 (by omega)
    rw [if_neg ht, if_pos ht2] at h
    have : z6 = 34 + U.en proto + (n : Int) := by omega
    rw [this]; exact h
  · rw [if_neg ht, if_neg ht2] at h
    have : z1 = 14 + (n : Int) := by omega
    rw [this]; exact h
theorem sizeF_run (K : AV → St → Prop) (dst src type op sha spa tha tpa fr to proto ttl id sport dport seq ack flags win : Int) (B : List Int) (o n c cap : Nat) (hn : n ≤ 16777216) (h : K (xi .i64 (U.size type proto n)) (ar [bs B cap false])) : runI inv0 tF3 25 [frA dst src type op sha spa tha tpa fr to proto ttl id sport dport seq ack flags win (aslC ⟨0, o, n, c⟩)] (ar [bs B cap false]) K := by
  rw [sizeF_vc]
  unfold U.size at h
  intro z0 h0 z1 h1
  have e1 := w64 h1 (by omega)
  refine ⟨fun ht z2 h2 => ?_, fun ht => ⟨fun ht2 a3 b4 h3 h4 z5 h5 z6 h6 => ?_, fun ht2 => ?_⟩⟩
  · have e2 := w64 h2 (by omega)
    rw [if_pos ht] at h
    have : z2 = 42 + (n : Int) := by omega
    rw [this]; exact h
  · have hb := en_bnd proto
    have e5 := w64 h5 (by omega)
    have e6 := w64 h6 (by omega)
    rw [if_neg ht, if_pos ht2] at h
    have : z6 = 34 + U.en proto + (n : Int) := by omega
    rw [this]; exact h
  · rw [if_neg ht, if_neg ht2] at h
    have : z1 = 14 + (n : Int) := by omega
    rw [this]; exact h
theorem sealT_run (K : AV → St → Prop) (dst src type op sha spa tha tpa fr to proto ttl id sport dport seq ack flags win : Int) (B L : List Int) (l : List Bool) (o n c cap m lc lcap : Nat) (N : Int) (hO : U.OutP L N m lc lcap l) (h8 : N = 8 * m) (hm9 : m ≤ 800) (hip : type = 2048 → 34 + U.en proto ≤ m ∧ (0 ≤ fr ∧ fr ≤ 4294967295) ∧ (0 ≤ to ∧ to ≤ 4294967295) ∧ (0 ≤ proto ∧ proto ≤ 255))
    (hk : ∀ L' : List Int, U.Seal L type proto fr to L' → K (.inr []) ⟨[outB (aslC ⟨0, 0, m, lc⟩) N], [], 0, [some (bs L' lcap false), some (bs B cap true)], 0⟩) :
    runI inv0 tF3 50 [ptr 0 0, frA dst src type op sha spa tha tpa fr to proto ttl id sport dport seq ack flags win (aslC ⟨1, o, n, c⟩)] ⟨[outB (aslC ⟨0, 0, m, lc⟩) N], [], 0, [some (bs L lcap false), some (bs B cap true)], 0⟩ K := by
  rw [sealT_vc]
  obtain ⟨g1, g2, g3, g4⟩ := hO.out
  have hBy := out_by g1
  have hB := by_B hBy
  refine ⟨⟨g2, by omega⟩, fun L0 c1 p1 q1 q2 q3 => ⟨fun ht => hk L ⟨fun _ => rfl, fun h => absurd h ht, fun h => absurd h ht⟩, fun ht => ?_⟩⟩
  have ht : type = 2048 := by omega
  subst q1
  obtain ⟨i1, i2, i3, i4⟩ := hip ht
  have hb := en_bnd proto
  intro a3 b4 ha3 hb4
  have hS := S_bnd hB 14 20
  refine ⟨fun h0 => ⟨⟨by omega, by omega, by omega⟩, fun o5 n6 c7 ho5 hn6 hc7 => ?_⟩, fun h0 z11 h11 => ⟨⟨by omega, by omega, by omega⟩, fun o12 n13 c14 ho12 hn13 hc14 => ?_⟩⟩
  · have eo : o5 = 14 := cut14 (m := m) (by omega) ho5
    have en : n6 = 20 := by omega
    subst eo; subst en
    refine ⟨⟨hB, by omega, by omega⟩, fun z8 h8' z9 h9 => ?_⟩
    have e9 := wu64 h9 (by omega)
    refine ⟨⟨hBy, g2, by omega, by omega, ⟨by omega, by omega⟩, by decide, by omega, by omega⟩, fun L10 hs => ?_⟩
    rw [e9, h8'] at hs
    exact hk L10 ⟨fun h => absurd ht h, fun _ _ => hs, fun _ h => absurd (ha3.symm.trans h0) h⟩
  · have eo : o12 = 14 := cut14 (m := m) (by omega) ho12
    have en : n13 = 20 := by omega
    subst eo; subst en
    have hea := en_ea proto (by omega)
    have hb4' := ea_bnd proto
    have e11 := w64 h11 (by omega)
    refine ⟨⟨hB, by omega, by omega⟩, fun z15 h15 z16 h16 => ?_⟩
    have e16 := wu64 h16 (by omega)
    refine ⟨⟨hBy, g2, by omega, by omega, ⟨by omega, by omega⟩, by decide, by omega, by omega⟩, fun L17 hs => ?_⟩
    rw [e16, h15] at hs
    have l17 := sto_len hs
    refine ⟨⟨by omega, by omega, by omega⟩, fun o18 n19 c20 ho18 hn19 hc20 => ⟨⟨hB, ?_, by omega⟩, fun z21 h21 => ⟨fun _ => ⟨⟨by omega, by omega⟩, fun o22 n23 c24 ho22 hn23 hc24 => ?_⟩, fun h => absurd (by omega) h⟩⟩⟩
    · have : o18 = 14 := cut14 (m := m) (by omega) ho18
      omega
    · have eo : o22 = 34 := by
        dsimp only at ho22
        rw [if_neg (by omega)] at ho22
        have : (o22 : Int) = 0 + 34 := ho22
        omega
      have en : n23 = L0.length - 34 := by omega
      subst eo; subst en
      refine ⟨⟨i2, i3, i4, hB, by omega, by omega⟩, fun A z26 hA h26 => ⟨rfl, rfl, rfl, rfl, rfl, fun z27 h27 z28 h28 => ?_⟩⟩
      have hbnd := es_bnd (by_B (out_by hA.out)) hB 34 (L0.length - 34) proto
      have e27 := w64 h27 (by omega)
      have e28 := wu64 h28 (by omega)
      refine ⟨⟨sto_by hs, by omega, by omega, by omega, ⟨by omega, by omega⟩, by decide, by omega, by omega⟩, fun L29 hs2 => ?_⟩
      have e27' : z27 = 8 * (34 + U.ea proto) := by omega
      rw [e27', e28, h26] at hs2
      refine hk L29 ⟨fun h => absurd ht h, fun _ h => absurd (ha3.trans h) h0, fun _ _ => ⟨A, L17, ?_, hs, hs2⟩⟩
      have : ((L0.length - 34 : Nat) : Int) = (L0.length : Int) - 34 := by omega
      rw [← this]; exact hA
theorem sealF_run (K : AV → St → Prop) (dst src type op sha spa tha tpa fr to proto ttl id sport dport seq ack flags win : Int) (B L : List Int) (l : List Bool) (o n c cap m lc lcap : Nat) (N : Int) (hO : U.OutP L N m lc lcap l) (h8 : N = 8 * m) (hm9 : m ≤ 800) (hip : type = 2048 → 34 + U.en proto ≤ m ∧ (0 ≤ fr ∧ fr ≤ 4294967295) ∧ (0 ≤ to ∧ to ≤ 4294967295) ∧ (0 ≤ proto ∧ proto ≤ 255))
    (hk : ∀ L' : List Int, U.Seal L type proto fr to L' → K (.inr []) ⟨[outB (aslC ⟨0, 0, m, lc⟩) N], [], 0, [some (bs L' lcap false), some (bs B cap false)], 0⟩) :
    runI inv0 tF3 50 [ptr 0 0, frA dst src type op sha spa tha tpa fr to proto ttl id sport dport seq ack flags win (aslC ⟨1, o, n, c⟩)] ⟨[outB (aslC ⟨0, 0, m, lc⟩) N], [], 0, [some (bs L lcap false), some (bs B cap false)], 0⟩ K := by
  rw [sealF_vc]
  obtain ⟨g1, g2, g3, g4⟩ := hO.out
  have hBy := out_by g1
  have hB := by_B hBy
  refine ⟨⟨g2, by omega⟩, fun L0 c1 p1 q1 q2 q3 => ⟨fun ht => hk L ⟨fun _ => rfl, fun h => absurd h ht, fun h => absurd h ht⟩, fun ht => ?_⟩⟩
  have ht : type = 2048 := by omega
  subst q1
  obtain ⟨i1, i2, i3, i4⟩ := hip ht
  have hb := en_bnd proto
  intro a3 b4 ha3 hb4
  have hS := S_bnd hB 14 20
  refine ⟨fun h0 => ⟨⟨by omega, by omega, by omega⟩, fun o5 n6 c7 ho5 hn6 hc7 => ?_⟩, fun h0 z11 h11 => ⟨⟨by omega, by omega, by omega⟩, fun o12 n13 c14 ho12 hn13 hc14 => ?_⟩⟩
  · have eo : o5 = 14 := cut14 (m := m) (by omega) ho5
    have en : n6 = 20 := by omega
    subst eo; subst en
    refine ⟨⟨hB, by omega, by omega⟩, fun z8 h8' z9 h9 => ?_⟩
    have e9 := wu64 h9 (by omega)
    refine ⟨⟨hBy, g2, by omega, by omega, ⟨by omega, by omega⟩, by decide, by omega, by omega⟩, fun L10 hs => ?_⟩
    rw [e9, h8'] at hs
    exact hk L10 ⟨fun h => absurd ht h, fun _ _ => hs, fun _ h => absurd (ha3.symm.trans h0) h⟩
  · have eo : o12 = 14 := cut14 (m := m) (by omega) ho12
    have en : n13 = 20 := by omega
    subst eo; subst en
    have hea := en_ea proto (by omega)
    have hb4' := ea_bnd proto
    have e11 := w64 h11 (by omega)
    refine ⟨⟨hB, by omega, by omega⟩, fun z15 h15 z16 h16 => ?_⟩
    have e16 := wu64 h16 (by omega)
    refine ⟨⟨hBy, g2, by omega, by omega, ⟨by omega, by omega⟩, by decide, by omega, by omega⟩, fun L17 hs => ?_⟩
    rw [e16, h15] at hs
    have l17 := sto_len hs
    refine ⟨⟨by omega, by omega, by omega⟩, fun o18 n19 c20 ho18 hn19 hc20 => ⟨⟨hB, ?_, by omega⟩, fun z21 h21 => ⟨fun _ => ⟨⟨by omega, by omega⟩, fun o22 n23 c24 ho22 hn23 hc24 => ?_⟩, fun h => absurd (by omega) h⟩⟩⟩
    · have : o18 = 14 := cut14 (m := m) (by omega) ho18
      omega
    · have eo : o22 = 34 := by
        dsimp only at ho22
        rw [if_neg (by omega)] at ho22
        have : (o22 : Int) = 0 + 34 := ho22
        omega
      have en : n23 = L0.length - 34 := by omega
      subst eo; subst en
      refine ⟨⟨i2, i3, i4, hB, by omega, by omega⟩, fun A z26 hA h26 => ⟨rfl, rfl, rfl, rfl, rfl, fun z27 h27 z28 h28 => ?_⟩⟩
      have hbnd := es_bnd (by_B (out_by hA.out)) hB 34 (L0.length - 34) proto
      have e27 := w64 h27 (by omega)
      have e28 := wu64 h28 (by omega)
      refine ⟨⟨sto_by hs, by omega, by omega, by omega, ⟨by omega, by omega⟩, by decide, by omega, by omega⟩, fun L29 hs2 => ?_⟩
      have e27' : z27 = 8 * (34 + U.ea proto) := by omega
      rw [e27', e28, h26] at hs2
      refine hk L29 ⟨fun h => absurd ht h, fun _ h => absurd (ha3.trans h) h0, fun _ _ => ⟨A, L17, ?_, hs, hs2⟩⟩
      have : ((L0.length - 34 : Nat) : Int) = (L0.length : Int) - 34 := by omega
      rw [← this]; exact hA
end Go.Proofs.Ytnnloikmjofkfaa
end

section
set_option linter.unusedVariables false
set_option linter.unusedSimpArgs false
namespace Go.Proofs.Ytnnloikmjofkfaa
open Go Reck

def kFr : List IntKind := [.u64, .u64, .i64, .i64, .u64, .u64, .u32, .u32, .u32, .u32, .i64, .i64, .i64, .i64, .i64, .u32, .u32, .i64, .i64]
def frX (l : List Cell) : Option (List Int × Cell) :=
  match intsK kFr (l.take 19), l.drop 19 with
  | some vs, [b] => some (vs, b)
  | _, _ => none
theorem frX_eq {l : List Cell} {vs : List Int} {b : Cell} (h : frX l = some (vs, b)) : l = mkK kFr vs ++ [b] := by
  unfold frX at h
  split at h
  · rename_i vs' b' h1 h2
    simp only [Option.some.injEq, Prod.mk.injEq] at h
    obtain ⟨rfl, rfl⟩ := h
    rw [← (intsK_eq h1).1, ← h2, List.take_append_drop]
  · cases h
def tSize : Tbl := fun f args σ => if f == 25 then match args, σ with
    | [.inl (.inr l)], ⟨[], [], 0, [some ⟨5, .n .u8, B, cap, ro⟩], 0⟩ => match frX l with
      | some ([dst, src, type, op, sha, tha, spa, tpa, fr, to, proto, ttl, id, sport, dport, seq, ack, flags, win], b) => match aslX (cell b) with
        | some ⟨0, o, n, c⟩ => some fun K => n ≤ 16777216 ∧ ∀ z : Int, z = U.size type proto n → K (xi .i64 z) (ar [bs B cap ro])
        | _ => none
      | _ => none
    | _, _ => none
  else none
def tSeal : Tbl := fun f args σ => if f == 50 then match args, σ with
    | [.inl (.inl (.inr (.inl (0, 0)))), .inl (.inr l)], ⟨[some ⟨108, [s, N], none, 2, false⟩], [], 0, [some ⟨5, .n .u8, L, lcap, false⟩, some ⟨5, .n .u8, B, cap, ro⟩], 0⟩ => match aslX (cell s), xiX (cell N), frX l with
      | some ⟨0, 0, m, lc⟩, some (.i64, N), some ([dst, src, type, op, sha, tha, spa, tpa, fr, to, proto, ttl, id, sport, dport, seq, ack, flags, win], b) => match aslX (cell b) with
        | some ⟨1, o, n, c⟩ => some fun K => ∃ l, (U.OutP L N m lc lcap l ∧ N = 8 * m ∧ m ≤ 800 ∧ (type = 2048 → 34 + U.en proto ≤ m ∧ (0 ≤ fr ∧ fr ≤ 4294967295) ∧ (0 ≤ to ∧ to ≤ 4294967295) ∧ (0 ≤ proto ∧ proto ≤ 255))) ∧
            ∀ L' : List Int, U.Seal L type proto fr to L' → K (.inr []) ⟨[outB (aslC ⟨0, 0, m, lc⟩) N], [], 0, [some (bs L' lcap false), some (bs B cap ro)], 0⟩
        | _ => none
      | _, _, _ => none
    | _, _ => none
  else none
theorem tSize_ok : TblOk Try.prog tSize := by
  intro f tm σ C h K hK
  unfold tSize at h
  split at h
  · rename_i hf
    obtain rfl : f = 25 := by simpa using hf
    split at h
    · rename_i B cap ro
      split at h
      · rename_i dst src type op sha tha spa tpa fr to proto ttl id sport dport seq ack flags win b hl
        obtain rfl := frX_eq hl
        split at h
        · rename_i o n c hs
          obtain rfl := cell_inj (aslX_eq hs)
          simp only [Option.some.injEq] at h; subst h
          cases ro with
          | true => exact knownC noOv names (conOk_of tF3_ok) (sizeT_run K dst src type op sha spa tha tpa fr to proto ttl id sport dport seq ack flags win B o n c cap hK.1 (hK.2 _ rfl))
          | false => exact knownC noOv names (conOk_of tF3_ok) (sizeF_run K dst src type op sha spa tha tpa fr to proto ttl id sport dport seq ack flags win B o n c cap hK.1 (hK.2 _ rfl))
        · cases h
      · cases h
    · cases h
  · cases h
theorem tSeal_ok : TblOk Try.prog tSeal := by
  intro f tm σ C h K hK
  unfold tSeal at h
  split at h
  · rename_i hf
    obtain rfl : f = 50 := by simpa using hf
    split at h
    · rename_i s0 N0 L lcap B cap ro
      split at h
      · rename_i m lc N dst src type op sha tha spa tpa fr to proto ttl id sport dport seq ack flags win b hs hN hl
        obtain rfl := cell_inj (aslX_eq hs)
        obtain rfl := cell_inj (xiX_eq hN)
        obtain rfl := frX_eq hl
        split at h
        · rename_i o n c hs
          obtain rfl := cell_inj (aslX_eq hs)
          simp only [Option.some.injEq] at h; subst h
          obtain ⟨l, ⟨h1, h2, h3, h4⟩, hk⟩ := hK
          cases ro with
          | true => exact knownC noOv names (conOk_of tF3_ok) (sealT_run K dst src type op sha spa tha tpa fr to proto ttl id sport dport seq ack flags win B L l o n c cap m lc lcap N h1 h2 h3 h4 hk)
          | false => exact knownC noOv names (conOk_of tF3_ok) (sealF_run K dst src type op sha spa tha tpa fr to proto ttl id sport dport seq ack flags win B L l o n c cap m lc lcap N h1 h2 h3 h4 hk)
        · cases h
      · cases h
    · cases h
  · cases h
def tF6 : Tbl := tblOr tF3 (tblOr tSize tSeal)
theorem tF6_ok : TblOk Try.prog tF6 := tblOr_ok tF3_ok (tblOr_ok tSize_ok tSeal_ok)
end Go.Proofs.Ytnnloikmjofkfaa
end
