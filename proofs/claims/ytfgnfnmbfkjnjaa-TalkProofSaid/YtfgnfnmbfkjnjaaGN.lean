/- Parts of a proof, one behind the other: K5 K6 K7 K8. No condition. -/
import Derived.Test.YtfgnfnmbfkjnjaaGM
section
namespace Go.Proofs.Ytfgnfnmbfkjnjaa
open Go Reck
set_option maxRecDepth 100000
set_option linter.unusedVariables false
set_option linter.unusedSimpArgs false
abbrev T6 := W4 × Int × Int
def U.ad (v : W4) (m : Int) : W4 :=
  let r := U.rn (v.1, v.2.1, v.2.2.1, xorI .u64 v.2.2.2 m) 2
  (xorI .u64 r.1 m, r.2.1, r.2.2.1, r.2.2.2)
structure U.W (m : Int) : Prop where
  out : inW m
def tWAdd : Tbl := fun f args σ => if f == 50 then match args, σ with
    | [.inl (.inl (.inr (.inl (0, 0)))), k], ⟨[some ⟨90, [a, b, c, d], none, 4, false⟩], [], 0, [], 0⟩ => match xW4 a b c d, intX k with
      | some v, some (.u64, m) => some fun K => (U.in4 v ∧ U.W m) ∧ ∀ z : W4, z = U.ad v m → K (.inr []) (st4 z)
      | _, _ => none
    | _, _ => none
  else none
def tRRnd : Tbl := fun f args σ => if f == 53 then match args, σ with
    | [.inl (.inr [a, b, c, d]), k], ⟨[], [], 0, [], 0⟩ => match xW4 a b c d, intX k with
      | some v, some (.i64, n) => some fun K => (U.in4 v ∧ 0 ≤ n ∧ n < 100) ∧ ∀ z : W4, z = U.rn v n → K (rowW z) emptySt
      | _, _ => none
    | _, _ => none
  else none
/-- A byte more. -/
def tstep (s : T6) (c : Int) : T6 :=
  let m := orI .u64 s.2.1 (shlI .u64 c (s.2.2 % 8 * 8))
  if (s.2.2 + 1) % 8 = 0 then (U.ad s.1 m, 0, s.2.2 + 1) else (s.1, m, s.2.2 + 1)
def tfold (s : T6) (l : List Int) : T6 := l.foldl tstep s
structure U.tagI (v0 : W4) (m0 n0 : Int) (L : List Int) (o n : Nat) (k m nn : Int) (v : W4) : Prop where
  out : ∃ j : Nat, k = j ∧ j ≤ n ∧ (v, m, nn) = tfold (v0, m0, n0) (((L.drop o).take n).take j) ∧ U.in4 v ∧ inW m ∧ nn = n0 + j ∧ 0 ≤ n0 ∧ n0 ≤ 10000
/-- The document's word. -/
def wordFrom (P : List Int) (i : Nat) : Nat → Int
  | 0 => 0
  | t + 1 => wordFrom P i t * 256 + P.getD (8 * i + (7 - t)) 0
structure U.refMI (L : List Int) (o n : Nat) (i : Int) (k m : Int) : Prop where
  out : ∃ t : Nat, k = 7 - t ∧ t ≤ 8 ∧ m = wordFrom ((L.drop o).take n) i.toNat t ∧ 0 ≤ m ∧ m < 256 ^ t
def U.rfold (v0 : W4) (P : List Int) : Nat → W4
  | 0 => v0
  | i + 1 => U.ad (U.rfold v0 P i) (if i = P.length / 8 then IntKind.wrap .u64 (wordFrom P i 8 + ((P.length % 256 : Nat) : Int) * 72057594037927936) else wordFrom P i 8)
structure U.refTI (v0 : W4) (L : List Int) (o n : Nat) (i : Int) (v : W4) : Prop where
  out : ∃ j : Nat, i = j ∧ j ≤ n / 8 + 1 ∧ v = U.rfold v0 ((L.drop o).take n) j ∧ U.in4 v
def blkWat (i : Nat) (σ : St) : W4 := match σ.heap.getD i none with
  | some ⟨_, [a, b, c, d], _, _, _⟩ => (xX a, xX b, xX c, xX d)
  | _ => (0, 0, 0, 0)
def setWat (i : Nat) (x : W4) (σ : St) : St := match σ.heap.getD i none with
  | some ⟨t, _, j, c, z⟩ => ⟨σ.heap.set i (some ⟨t, w4 x, j, c, z⟩), σ.ints, σ.opqs, σ.arrs, σ.junks⟩
  | _ => σ
def ptrAt (tm : List AV) (t : Nat) : Nat := match tm.getD t (lit undef) with
  | .inl (.inl (.inr (.inl (i, _)))) => i
  | _ => 0
def tagInv (c : Code) (tm : List AV) (σ : St) : Inv where
  X := Int × Int × Int × W4
  tags := [0]
  tag _ _ := 0
  J := wrBut [31, 8, 9] c
  val _ x := [(31, xi .i64 x.1), (8, xi .u64 x.2.1), (9, xi .i64 x.2.2.1)]
  st _ x σ' := setWat (ptrAt tm 7) x.2.2.2 σ'
  I _ x := U.tagI (blkWat (ptrAt tm 7) σ) (slotI tm 8) (slotI tm 9) (slotA tm 29 σ) (slotS tm 29).o (slotS tm 29).n x.1 x.2.1 x.2.2.1 x.2.2.2
  m _ x := ((slotS tm 29).n - x.1).toNat
  ren := noRen
def refTInv (c : Code) (tm : List AV) (σ : St) : Inv where
  X := Int × W4
  tags := [0]
  tag _ _ := 0
  J := wrBut [8] c
  val _ x := [(8, xi .i64 x.1)]
  st _ x σ' := setWat (ptrAt tm 7) x.2 σ'
  I _ x := U.refTI (blkWat (ptrAt tm 7) σ) (slotA tm 2 σ) (slotS tm 2).o (slotS tm 2).n x.1 x.2
  m _ x := (1000 - x.1).toNat
  ren := noRen
def refMInv (c : Code) (tm : List AV) (σ : St) : Inv where
  X := Int × Int
  tags := [0]
  tag _ _ := 0
  J := wrBut [10, 9] c
  val _ x := [(10, xi .i64 x.1), (9, xi .u64 x.2)]
  st _ _ σ := σ
  I _ x := U.refMI (slotA tm 2 σ) (slotS tm 2).o (slotS tm 2).n (slotI tm 8) x.1 x.2
  m _ x := (x.1 + 1).toNat
  ren := noRen
def inv6 (c : Code) (tm : List AV) (σ : St) : Option Inv :=
  match tm.length, firstReg c with
  | 74, some 8 => if isAsl (tm.getD 29 (lit undef)) then some (tagInv c tm σ) else none
  | 91, some 3 => if isAsl (tm.getD 2 (lit undef)) then some (refTInv c tm σ) else none
  | 91, some 7 => if isXint (tm.getD 8 (lit undef)) then some (refMInv c tm σ) else none
  | _, _ => none
abbrev runG (tbl : Tbl) (f : Nat) (args : List AV) (σ : St) (K : AV → St → Prop) : Prop := goT Try.prog [] (orcOf inv6 tbl) (opMem Try.prog) 3000 (.inr (.inr (.inr (.inr f)))) args σ (retC σ K)
theorem add_vc (K : AV → St → Prop) (v : W4) (m : Int) : (runG tRnd 50 [ptr0, xi .u64 m] (st4 v) K) = (∀ (z0 : Int), z0 = xorI IntKind.u64 (Prod.snd (Prod.snd (Prod.snd v))) m → (U.in4 (Prod.fst v, Prod.fst (Prod.snd v), Prod.fst (Prod.snd (Prod.snd v)), z0) ∧ (0 : Int) ≤ (2 : Int) ∧ (2 : Int) < (100 : Int)) ∧ ∀ (z1 : W4), z1 = U.rn (Prod.fst v, Prod.fst (Prod.snd v), Prod.fst (Prod.snd (Prod.snd v)), z0) (2 : Int) → ∀ (z2 : Int), z2 = xorI IntKind.u64 (Prod.fst z1) m → K (Sum.inr []) { heap := [some { elem := (90 : Nat), cells := [Sum.inr (Sum.inr (Sum.inr (Sum.inr (Sum.inr (Sum.inr (Sum.inl (IntKind.u64, z2))))))), Sum.inr (Sum.inr (Sum.inr (Sum.inr (Sum.inr (Sum.inr (Sum.inl (IntKind.u64, Prod.fst (Prod.snd z1)))))))), Sum.inr (Sum.inr (Sum.inr (Sum.inr (Sum.inr (Sum.inr (Sum.inl (IntKind.u64, Prod.fst (Prod.snd (Prod.snd z1))))))))), Sum.inr (Sum.inr (Sum.inr (Sum.inr (Sum.inr (Sum.inr (Sum.inl (IntKind.u64, Prod.snd (Prod.snd (Prod.snd z1)))))))))], j := none, c := (4 : Nat), z := false }], ints := [], opqs := (0 : Nat), arrs := [], junks := (0 : Nat) }) := by kernel_rfl
theorem tag_vc (K : AV → St → Prop) (a b : Int) (L : List Int) (o n c cap : Nat) (ro : Bool) : (runG (tblOr tWAdd tRnd) 37 [xi .u64 a, xi .u64 b, sl ⟨0, 0, 1, none, 1⟩] ⟨[pt [aslC ⟨0, o, n, c⟩]], [], 0, [some (bs L cap ro)], 0⟩ K) = (∀ (z0 : Int), z0 = xorI IntKind.u64 a (8317987319222330741 : Int) → ∀ (z1 : Int), z1 = xorI IntKind.u64 b (7237128888997146477 : Int) → ∀ (z2 : Int), z2 = xorI IntKind.u64 a (7816392313619706465 : Int) → ∀ (z3 : Int), z3 = xorI IntKind.u64 b (8387220255154660723 : Int) → ∀ (z4 : Int), z4 = (↑n : Int) → (∃ (y5 : Int × Int × Int × W4), a = a ∧ b = b ∧ (0 : Int) = Prod.fst (Prod.snd y5) ∧ (0 : Int) = Prod.fst (Prod.snd (Prod.snd y5)) ∧ (o = o ∧ n = n ∧ c = c) ∧ a = a ∧ z0 = z0 ∧ b = b ∧ z1 = z1 ∧ a = a ∧ z2 = z2 ∧ b = b ∧ z3 = z3 ∧ z0 = z0 ∧ z1 = z1 ∧ z2 = z2 ∧ z3 = z3 ∧ (o = o ∧ n = n ∧ c = c) ∧ (o = o ∧ n = n ∧ c = c) ∧ z4 = z4 ∧ (0 : Int) = Prod.fst y5 ∧ (o = o ∧ n = n ∧ c = c) ∧ z0 = Prod.fst (Prod.snd (Prod.snd (Prod.snd y5))) ∧ z1 = Prod.fst (Prod.snd (Prod.snd (Prod.snd (Prod.snd y5)))) ∧ z2 = Prod.fst (Prod.snd (Prod.snd (Prod.snd (Prod.snd (Prod.snd y5))))) ∧ z3 = Prod.snd (Prod.snd (Prod.snd (Prod.snd (Prod.snd (Prod.snd y5))))) ∧ (L = L ∧ cap = cap ∧ ro = ro) ∧ U.tagI (z0, z1, z2, z3) (0 : Int) (0 : Int) L o n (Prod.fst y5) (Prod.fst (Prod.snd y5)) (Prod.fst (Prod.snd (Prod.snd y5))) (Prod.snd (Prod.snd (Prod.snd y5)))) ∧ ∀ (x6 : Int × Int × Int × W4), U.tagI (z0, z1, z2, z3) (0 : Int) (0 : Int) L o n (Prod.fst x6) (Prod.fst (Prod.snd x6)) (Prod.fst (Prod.snd (Prod.snd x6))) (Prod.snd (Prod.snd (Prod.snd x6))) → (Prod.fst x6 < z4 → ((0 : Int) ≤ Prod.fst x6 ∧ Prod.fst x6 < (↑n : Int)) ∧ ∀ (j7 : Nat), (↑j7 : Int) = (↑o : Int) + Prod.fst x6 → j7 < List.length L ∧ ∀ (z8 : Int), z8 = List.getD L j7 (0 : Int) → ∀ (z9 : Int), z9 = IntKind.wrap IntKind.u64 z8 → ¬(8 : Int) = (0 : Int) ∧ ∀ (z10 : Int), z10 = Int.tmod (Prod.fst (Prod.snd (Prod.snd x6))) (8 : Int) → ∀ (z11 : Int), z11 = IntKind.wrap IntKind.i64 (z10 * (8 : Int)) → (0 : Int) ≤ z11 ∧ ∀ (z12 : Int), z12 = shlI IntKind.u64 z9 z11 → ∀ (z13 : Int), z13 = orI IntKind.u64 (Prod.fst (Prod.snd x6)) z12 → ∀ (z14 : Int), z14 = IntKind.wrap IntKind.i64 (Prod.fst (Prod.snd (Prod.snd x6)) + (1 : Int)) → ¬(8 : Int) = (0 : Int) ∧ ∀ (z15 : Int), z15 = Int.tmod z14 (8 : Int) → (z15 = (0 : Int) → (U.in4 (Prod.fst (Prod.snd (Prod.snd (Prod.snd x6))), Prod.fst (Prod.snd (Prod.snd (Prod.snd (Prod.snd x6)))), Prod.fst (Prod.snd (Prod.snd (Prod.snd (Prod.snd (Prod.snd x6))))), Prod.snd (Prod.snd (Prod.snd (Prod.snd (Prod.snd (Prod.snd x6)))))) ∧ U.W z13) ∧ ∀ (z16 : W4), z16 = U.ad (Prod.fst (Prod.snd (Prod.snd (Prod.snd x6))), Prod.fst (Prod.snd (Prod.snd (Prod.snd (Prod.snd x6)))), Prod.fst (Prod.snd (Prod.snd (Prod.snd (Prod.snd (Prod.snd x6))))), Prod.snd (Prod.snd (Prod.snd (Prod.snd (Prod.snd (Prod.snd x6)))))) z13 → ∀ (z17 : Int), z17 = IntKind.wrap IntKind.i64 (Prod.fst x6 + (1 : Int)) → ∃ (y18 : Int × Int × Int × W4), a = a ∧ b = b ∧ (0 : Int) = Prod.fst (Prod.snd y18) ∧ z14 = Prod.fst (Prod.snd (Prod.snd y18)) ∧ (o = o ∧ n = n ∧ c = c) ∧ a = a ∧ z0 = z0 ∧ b = b ∧ z1 = z1 ∧ a = a ∧ z2 = z2 ∧ b = b ∧ z3 = z3 ∧ z0 = z0 ∧ z1 = z1 ∧ z2 = z2 ∧ z3 = z3 ∧ (o = o ∧ n = n ∧ c = c) ∧ (o = o ∧ n = n ∧ c = c) ∧ z4 = z4 ∧ z17 = Prod.fst y18 ∧ (o = o ∧ n = n ∧ c = c) ∧ Prod.fst z16 = Prod.fst (Prod.snd (Prod.snd (Prod.snd y18))) ∧ Prod.fst (Prod.snd z16) = Prod.fst (Prod.snd (Prod.snd (Prod.snd (Prod.snd y18)))) ∧ Prod.fst (Prod.snd (Prod.snd z16)) = Prod.fst (Prod.snd (Prod.snd (Prod.snd (Prod.snd (Prod.snd y18))))) ∧ Prod.snd (Prod.snd (Prod.snd z16)) = Prod.snd (Prod.snd (Prod.snd (Prod.snd (Prod.snd (Prod.snd y18))))) ∧ (L = L ∧ cap = cap ∧ ro = ro) ∧ U.tagI (z0, z1, z2, z3) (0 : Int) (0 : Int) L o n (Prod.fst y18) (Prod.fst (Prod.snd y18)) (Prod.fst (Prod.snd (Prod.snd y18))) (Prod.snd (Prod.snd (Prod.snd y18))) ∧ Int.toNat ((↑n : Int) - Prod.fst y18) < Int.toNat ((↑n : Int) - Prod.fst x6)) ∧ (¬z15 = (0 : Int) → ∀ (z19 : Int), z19 = IntKind.wrap IntKind.i64 (Prod.fst x6 + (1 : Int)) → ∃ (y20 : Int × Int × Int × W4), a = a ∧ b = b ∧ z13 = Prod.fst (Prod.snd y20) ∧ z14 = Prod.fst (Prod.snd (Prod.snd y20)) ∧ (o = o ∧ n = n ∧ c = c) ∧ a = a ∧ z0 = z0 ∧ b = b ∧ z1 = z1 ∧ a = a ∧ z2 = z2 ∧ b = b ∧ z3 = z3 ∧ z0 = z0 ∧ z1 = z1 ∧ z2 = z2 ∧ z3 = z3 ∧ (o = o ∧ n = n ∧ c = c) ∧ (o = o ∧ n = n ∧ c = c) ∧ z4 = z4 ∧ z19 = Prod.fst y20 ∧ (o = o ∧ n = n ∧ c = c) ∧ Prod.fst (Prod.snd (Prod.snd (Prod.snd x6))) = Prod.fst (Prod.snd (Prod.snd (Prod.snd y20))) ∧ Prod.fst (Prod.snd (Prod.snd (Prod.snd (Prod.snd x6)))) = Prod.fst (Prod.snd (Prod.snd (Prod.snd (Prod.snd y20)))) ∧ Prod.fst (Prod.snd (Prod.snd (Prod.snd (Prod.snd (Prod.snd x6))))) = Prod.fst (Prod.snd (Prod.snd (Prod.snd (Prod.snd (Prod.snd y20))))) ∧ Prod.snd (Prod.snd (Prod.snd (Prod.snd (Prod.snd (Prod.snd x6))))) = Prod.snd (Prod.snd (Prod.snd (Prod.snd (Prod.snd (Prod.snd y20))))) ∧ (L = L ∧ cap = cap ∧ ro = ro) ∧ U.tagI (z0, z1, z2, z3) (0 : Int) (0 : Int) L o n (Prod.fst y20) (Prod.fst (Prod.snd y20)) (Prod.fst (Prod.snd (Prod.snd y20))) (Prod.snd (Prod.snd (Prod.snd y20))) ∧ Int.toNat ((↑n : Int) - Prod.fst y20) < Int.toNat ((↑n : Int) - Prod.fst x6))) ∧ (¬Prod.fst x6 < z4 → ∀ (z21 : Int), z21 = IntKind.wrap IntKind.u64 (Prod.fst (Prod.snd (Prod.snd x6))) → (0 : Int) ≤ (56 : Int) ∧ ∀ (z22 : Int), z22 = shlI IntKind.u64 z21 (56 : Int) → ∀ (z23 : Int), z23 = orI IntKind.u64 (Prod.fst (Prod.snd x6)) z22 → (U.in4 (Prod.fst (Prod.snd (Prod.snd (Prod.snd x6))), Prod.fst (Prod.snd (Prod.snd (Prod.snd (Prod.snd x6)))), Prod.fst (Prod.snd (Prod.snd (Prod.snd (Prod.snd (Prod.snd x6))))), Prod.snd (Prod.snd (Prod.snd (Prod.snd (Prod.snd (Prod.snd x6)))))) ∧ U.W z23) ∧ ∀ (z24 : W4), z24 = U.ad (Prod.fst (Prod.snd (Prod.snd (Prod.snd x6))), Prod.fst (Prod.snd (Prod.snd (Prod.snd (Prod.snd x6)))), Prod.fst (Prod.snd (Prod.snd (Prod.snd (Prod.snd (Prod.snd x6))))), Prod.snd (Prod.snd (Prod.snd (Prod.snd (Prod.snd (Prod.snd x6)))))) z23 → ∀ (z25 : Int), z25 = xorI IntKind.u64 (Prod.fst (Prod.snd (Prod.snd z24))) (255 : Int) → (U.in4 (Prod.fst z24, Prod.fst (Prod.snd z24), z25, Prod.snd (Prod.snd (Prod.snd z24))) ∧ (0 : Int) ≤ (4 : Int) ∧ (4 : Int) < (100 : Int)) ∧ ∀ (z26 : W4), z26 = U.rn (Prod.fst z24, Prod.fst (Prod.snd z24), z25, Prod.snd (Prod.snd (Prod.snd z24))) (4 : Int) → ∀ (z27 : Int), z27 = xorI IntKind.u64 (Prod.fst z26) (Prod.fst (Prod.snd z26)) → ∀ (z28 : Int), z28 = xorI IntKind.u64 z27 (Prod.fst (Prod.snd (Prod.snd z26))) → ∀ (z29 : Int), z29 = xorI IntKind.u64 z28 (Prod.snd (Prod.snd (Prod.snd z26))) → K (Sum.inl (Sum.inl (Sum.inr (Sum.inr (Sum.inr (Sum.inr (Sum.inr (Sum.inr (Sum.inl (IntKind.u64, z29)))))))))) { heap := [some { elem := (26 : Nat), cells := [Sum.inr (Sum.inr (Sum.inr (Sum.inr (Sum.inr (Sum.inr (Sum.inr (Sum.inl { a := (0 : Nat), o := o, n := n, c := c })))))))], j := none, c := (1 : Nat), z := false }], ints := [], opqs := (0 : Nat), arrs := [some { elem := OfNat.ofNat (5 : Nat), k := AK.n IntKind.u8, l := L, cap := cap, ro := ro }], junks := (0 : Nat) })) := by kernel_rfl
theorem rTag_vc (K : AV → St → Prop) (a b : Int) (L : List Int) (o n c cap : Nat) (ro : Bool) : (runG tRRnd 39 [xi .u64 a, xi .u64 b, cell (aslC ⟨0, o, n, c⟩)] (ar [bs L cap ro]) K) = (∀ (z0 : Int), z0 = xorI IntKind.u64 a (8317987319222330741 : Int) → ∀ (z1 : Int), z1 = xorI IntKind.u64 b (7237128888997146477 : Int) → ∀ (z2 : Int), z2 = xorI IntKind.u64 a (7816392313619706465 : Int) → ∀ (z3 : Int), z3 = xorI IntKind.u64 b (8387220255154660723 : Int) → (∃ (y4 : Int × W4), a = a ∧ b = b ∧ (o = o ∧ n = n ∧ c = c) ∧ (0 : Int) = Prod.fst y4 ∧ a = a ∧ z0 = z0 ∧ b = b ∧ z1 = z1 ∧ a = a ∧ z2 = z2 ∧ b = b ∧ z3 = z3 ∧ z0 = z0 ∧ z1 = z1 ∧ z2 = z2 ∧ z3 = z3 ∧ z0 = Prod.fst (Prod.snd y4) ∧ z1 = Prod.fst (Prod.snd (Prod.snd y4)) ∧ z2 = Prod.fst (Prod.snd (Prod.snd (Prod.snd y4))) ∧ z3 = Prod.snd (Prod.snd (Prod.snd (Prod.snd y4))) ∧ (L = L ∧ cap = cap ∧ ro = ro) ∧ U.refTI (z0, z1, z2, z3) L o n (Prod.fst y4) (Prod.snd y4)) ∧ ∀ (x5 : Int × W4), U.refTI (z0, z1, z2, z3) L o n (Prod.fst x5) (Prod.snd x5) → ∀ (z6 : Int), z6 = (↑n : Int) → ¬(8 : Int) = (0 : Int) ∧ ∀ (z7 : Int), z7 = IntKind.wrap IntKind.i64 (Int.tdiv z6 (8 : Int)) → (Prod.fst x5 ≤ z7 → (∃ (y8 : Int × Int), a = a ∧ b = b ∧ (o = o ∧ n = n ∧ c = c) ∧ Prod.fst x5 = Prod.fst x5 ∧ (0 : Int) = Prod.snd y8 ∧ (7 : Int) = Prod.fst y8 ∧ a = a ∧ z0 = z0 ∧ b = b ∧ z1 = z1 ∧ a = a ∧ z2 = z2 ∧ b = b ∧ z3 = z3 ∧ z0 = z0 ∧ z1 = z1 ∧ z2 = z2 ∧ z3 = z3 ∧ Prod.fst x5 = Prod.fst x5 ∧ (o = o ∧ n = n ∧ c = c) ∧ z6 = z6 ∧ z7 = z7 ∧ Prod.fst (Prod.snd x5) = Prod.fst (Prod.snd x5) ∧ Prod.fst (Prod.snd (Prod.snd x5)) = Prod.fst (Prod.snd (Prod.snd x5)) ∧ Prod.fst (Prod.snd (Prod.snd (Prod.snd x5))) = Prod.fst (Prod.snd (Prod.snd (Prod.snd x5))) ∧ Prod.snd (Prod.snd (Prod.snd (Prod.snd x5))) = Prod.snd (Prod.snd (Prod.snd (Prod.snd x5))) ∧ (L = L ∧ cap = cap ∧ ro = ro) ∧ U.refMI L o n (Prod.fst x5) (Prod.fst y8) (Prod.snd y8)) ∧ ∀ (x9 : Int × Int), U.refMI L o n (Prod.fst x5) (Prod.fst x9) (Prod.snd x9) → ((0 : Int) ≤ Prod.fst x9 → ∀ (z10 : Int), z10 = IntKind.wrap IntKind.u64 (Prod.snd x9 * (256 : Int)) → ∀ (z11 : Int), z11 = IntKind.wrap IntKind.i64 ((8 : Int) * Prod.fst x5) → ∀ (z12 : Int), z12 = IntKind.wrap IntKind.i64 (z11 + Prod.fst x9) → ∀ (z13 : Int), z13 = (↑n : Int) → (z12 < z13 → ∀ (z14 : Int), z14 = IntKind.wrap IntKind.i64 ((8 : Int) * Prod.fst x5) → ∀ (z15 : Int), z15 = IntKind.wrap IntKind.i64 (z14 + Prod.fst x9) → ((0 : Int) ≤ z15 ∧ z15 < (↑n : Int)) ∧ ∀ (j16 : Nat), (↑j16 : Int) = (↑o : Int) + z15 → j16 < List.length L ∧ ∀ (z17 : Int), z17 = List.getD L j16 (0 : Int) → ∀ (z18 : Int), z18 = IntKind.wrap IntKind.u64 z17 → ∀ (z19 : Int), z19 = IntKind.wrap IntKind.u64 (z10 + z18) → ∀ (z20 : Int), z20 = IntKind.wrap IntKind.i64 (Prod.fst x9 - (1 : Int)) → ∃ (y21 : Int × Int), a = a ∧ b = b ∧ (o = o ∧ n = n ∧ c = c) ∧ Prod.fst x5 = Prod.fst x5 ∧ z19 = Prod.snd y21 ∧ z20 = Prod.fst y21 ∧ a = a ∧ z0 = z0 ∧ b = b ∧ z1 = z1 ∧ a = a ∧ z2 = z2 ∧ b = b ∧ z3 = z3 ∧ z0 = z0 ∧ z1 = z1 ∧ z2 = z2 ∧ z3 = z3 ∧ Prod.fst x5 = Prod.fst x5 ∧ (o = o ∧ n = n ∧ c = c) ∧ z6 = z6 ∧ z7 = z7 ∧ Prod.fst (Prod.snd x5) = Prod.fst (Prod.snd x5) ∧ Prod.fst (Prod.snd (Prod.snd x5)) = Prod.fst (Prod.snd (Prod.snd x5)) ∧ Prod.fst (Prod.snd (Prod.snd (Prod.snd x5))) = Prod.fst (Prod.snd (Prod.snd (Prod.snd x5))) ∧ Prod.snd (Prod.snd (Prod.snd (Prod.snd x5))) = Prod.snd (Prod.snd (Prod.snd (Prod.snd x5))) ∧ (L = L ∧ cap = cap ∧ ro = ro) ∧ U.refMI L o n (Prod.fst x5) (Prod.fst y21) (Prod.snd y21) ∧ Int.toNat (Prod.fst y21 + (1 : Int)) < Int.toNat (Prod.fst x9 + (1 : Int))) ∧ (¬z12 < z13 → ∀ (z22 : Int), z22 = IntKind.wrap IntKind.i64 (Prod.fst x9 - (1 : Int)) → ∃ (y23 : Int × Int), a = a ∧ b = b ∧ (o = o ∧ n = n ∧ c = c) ∧ Prod.fst x5 = Prod.fst x5 ∧ z10 = Prod.snd y23 ∧ z22 = Prod.fst y23 ∧ a = a ∧ z0 = z0 ∧ b = b ∧ z1 = z1 ∧ a = a ∧ z2 = z2 ∧ b = b ∧ z3 = z3 ∧ z0 = z0 ∧ z1 = z1 ∧ z2 = z2 ∧ z3 = z3 ∧ Prod.fst x5 = Prod.fst x5 ∧ (o = o ∧ n = n ∧ c = c) ∧ z6 = z6 ∧ z7 = z7 ∧ Prod.fst (Prod.snd x5) = Prod.fst (Prod.snd x5) ∧ Prod.fst (Prod.snd (Prod.snd x5)) = Prod.fst (Prod.snd (Prod.snd x5)) ∧ Prod.fst (Prod.snd (Prod.snd (Prod.snd x5))) = Prod.fst (Prod.snd (Prod.snd (Prod.snd x5))) ∧ Prod.snd (Prod.snd (Prod.snd (Prod.snd x5))) = Prod.snd (Prod.snd (Prod.snd (Prod.snd x5))) ∧ (L = L ∧ cap = cap ∧ ro = ro) ∧ U.refMI L o n (Prod.fst x5) (Prod.fst y23) (Prod.snd y23) ∧ Int.toNat (Prod.fst y23 + (1 : Int)) < Int.toNat (Prod.fst x9 + (1 : Int)))) ∧ (¬(0 : Int) ≤ Prod.fst x9 → ∀ (z24 : Int), z24 = (↑n : Int) → ¬(8 : Int) = (0 : Int) ∧ ∀ (z25 : Int), z25 = IntKind.wrap IntKind.i64 (Int.tdiv z24 (8 : Int)) → (Prod.fst x5 = z25 → ∀ (z26 : Int), z26 = (↑n : Int) → ¬(256 : Int) = (0 : Int) ∧ ∀ (z27 : Int), z27 = Int.tmod z26 (256 : Int) → ∀ (z28 : Int), z28 = IntKind.wrap IntKind.u64 z27 → ∀ (z29 : Int), z29 = IntKind.wrap IntKind.u64 (z28 * (72057594037927936 : Int)) → ∀ (z30 : Int), z30 = IntKind.wrap IntKind.u64 (Prod.snd x9 + z29) → ∀ (z31 : Int), z31 = xorI IntKind.u64 (Prod.snd (Prod.snd (Prod.snd (Prod.snd x5)))) z30 → (U.in4 (Prod.fst (Prod.snd x5), Prod.fst (Prod.snd (Prod.snd x5)), Prod.fst (Prod.snd (Prod.snd (Prod.snd x5))), z31) ∧ (0 : Int) ≤ (2 : Int) ∧ (2 : Int) < (100 : Int)) ∧ ∀ (z32 : W4), z32 = U.rn (Prod.fst (Prod.snd x5), Prod.fst (Prod.snd (Prod.snd x5)), Prod.fst (Prod.snd (Prod.snd (Prod.snd x5))), z31) (2 : Int) → ∀ (z33 : Int), z33 = xorI IntKind.u64 (Prod.fst z32) z30 → ∀ (z34 : Int), z34 = IntKind.wrap IntKind.i64 (Prod.fst x5 + (1 : Int)) → ∃ (y35 : Int × W4), a = a ∧ b = b ∧ (o = o ∧ n = n ∧ c = c) ∧ z34 = Prod.fst y35 ∧ a = a ∧ z0 = z0 ∧ b = b ∧ z1 = z1 ∧ a = a ∧ z2 = z2 ∧ b = b ∧ z3 = z3 ∧ z0 = z0 ∧ z1 = z1 ∧ z2 = z2 ∧ z3 = z3 ∧ z33 = Prod.fst (Prod.snd y35) ∧ Prod.fst (Prod.snd z32) = Prod.fst (Prod.snd (Prod.snd y35)) ∧ Prod.fst (Prod.snd (Prod.snd z32)) = Prod.fst (Prod.snd (Prod.snd (Prod.snd y35))) ∧ Prod.snd (Prod.snd (Prod.snd z32)) = Prod.snd (Prod.snd (Prod.snd (Prod.snd y35))) ∧ (L = L ∧ cap = cap ∧ ro = ro) ∧ U.refTI (z0, z1, z2, z3) L o n (Prod.fst y35) (Prod.snd y35) ∧ Int.toNat ((1000 : Int) - Prod.fst y35) < Int.toNat ((1000 : Int) - Prod.fst x5)) ∧ (¬Prod.fst x5 = z25 → ∀ (z36 : Int), z36 = xorI IntKind.u64 (Prod.snd (Prod.snd (Prod.snd (Prod.snd x5)))) (Prod.snd x9) → (U.in4 (Prod.fst (Prod.snd x5), Prod.fst (Prod.snd (Prod.snd x5)), Prod.fst (Prod.snd (Prod.snd (Prod.snd x5))), z36) ∧ (0 : Int) ≤ (2 : Int) ∧ (2 : Int) < (100 : Int)) ∧ ∀ (z37 : W4), z37 = U.rn (Prod.fst (Prod.snd x5), Prod.fst (Prod.snd (Prod.snd x5)), Prod.fst (Prod.snd (Prod.snd (Prod.snd x5))), z36) (2 : Int) → ∀ (z38 : Int), z38 = xorI IntKind.u64 (Prod.fst z37) (Prod.snd x9) → ∀ (z39 : Int), z39 = IntKind.wrap IntKind.i64 (Prod.fst x5 + (1 : Int)) → ∃ (y40 : Int × W4), a = a ∧ b = b ∧ (o = o ∧ n = n ∧ c = c) ∧ z39 = Prod.fst y40 ∧ a = a ∧ z0 = z0 ∧ b = b ∧ z1 = z1 ∧ a = a ∧ z2 = z2 ∧ b = b ∧ z3 = z3 ∧ z0 = z0 ∧ z1 = z1 ∧ z2 = z2 ∧ z3 = z3 ∧ z38 = Prod.fst (Prod.snd y40) ∧ Prod.fst (Prod.snd z37) = Prod.fst (Prod.snd (Prod.snd y40)) ∧ Prod.fst (Prod.snd (Prod.snd z37)) = Prod.fst (Prod.snd (Prod.snd (Prod.snd y40))) ∧ Prod.snd (Prod.snd (Prod.snd z37)) = Prod.snd (Prod.snd (Prod.snd (Prod.snd y40))) ∧ (L = L ∧ cap = cap ∧ ro = ro) ∧ U.refTI (z0, z1, z2, z3) L o n (Prod.fst y40) (Prod.snd y40) ∧ Int.toNat ((1000 : Int) - Prod.fst y40) < Int.toNat ((1000 : Int) - Prod.fst x5)))) ∧ (¬Prod.fst x5 ≤ z7 → ∀ (z41 : Int), z41 = xorI IntKind.u64 (Prod.fst (Prod.snd (Prod.snd (Prod.snd x5)))) (255 : Int) → (U.in4 (Prod.fst (Prod.snd x5), Prod.fst (Prod.snd (Prod.snd x5)), z41, Prod.snd (Prod.snd (Prod.snd (Prod.snd x5)))) ∧ (0 : Int) ≤ (4 : Int) ∧ (4 : Int) < (100 : Int)) ∧ ∀ (z42 : W4), z42 = U.rn (Prod.fst (Prod.snd x5), Prod.fst (Prod.snd (Prod.snd x5)), z41, Prod.snd (Prod.snd (Prod.snd (Prod.snd x5)))) (4 : Int) → ∀ (z43 : Int), z43 = xorI IntKind.u64 (Prod.fst z42) (Prod.fst (Prod.snd z42)) → ∀ (z44 : Int), z44 = xorI IntKind.u64 z43 (Prod.fst (Prod.snd (Prod.snd z42))) → ∀ (z45 : Int), z45 = xorI IntKind.u64 z44 (Prod.snd (Prod.snd (Prod.snd z42))) → K (Sum.inl (Sum.inl (Sum.inr (Sum.inr (Sum.inr (Sum.inr (Sum.inr (Sum.inr (Sum.inl (IntKind.u64, z45)))))))))) { heap := [], ints := [], opqs := (0 : Nat), arrs := [some { elem := OfNat.ofNat (5 : Nat), k := AK.n IntKind.u8, l := L, cap := cap, ro := ro }], junks := (0 : Nat) })) := by kernel_rfl
end Go.Proofs.Ytfgnfnmbfkjnjaa
end

section
set_option linter.unusedVariables false
set_option linter.unusedSimpArgs false
set_option maxRecDepth 10000
namespace Go.Proofs.Ytfgnfnmbfkjnjaa
open Go Reck
theorem or_in (a b : Int) : inW (orI .u64 a b) := by
  unfold inW orI
  rw [show ∀ n, IntKind.wrap .u64 n = n % 18446744073709551616 from wrapU]; omega
theorem ad_in {v : W4} (h : U.in4 v) (m : Int) : U.in4 (U.ad v m) := by
  have h1 : U.in4 (U.rn (v.1, v.2.1, v.2.2.1, xorI .u64 v.2.2.2 m) 2) := rndN_in (v := (v.1, v.2.1, v.2.2.1, xorI .u64 v.2.2.2 m)) ⟨h.out.1, h.out.2.1, h.out.2.2.1, xor_in _ _⟩ 2
  exact ⟨xor_in _ _, h1.out.2.1, h1.out.2.2.1, h1.out.2.2.2⟩
theorem wadd_run (K : AV → St → Prop) (v : W4) (m : Int) (hv : U.in4 v) (h : K (.inr []) (st4 (U.ad v m))) : runG tRnd 50 [ptr0, xi .u64 m] (st4 v) K := by
  rw [add_vc]
  intro z0 e0
  refine ⟨⟨⟨hv.out.1, hv.out.2.1, hv.out.2.2.1, e0 ▸ xor_in _ _⟩, by decide⟩, fun z1 e1 z2 e2 => ?_⟩
  have : U.ad v m = (z2, z1.2.1, z1.2.2.1, z1.2.2.2) := by rw [e2, e1, e0]; rfl
  rw [this] at h; exact h
theorem tWAdd_ok : TblOk Try.prog tWAdd := by
  intro f tm σ C h K hK
  unfold tWAdd at h
  split at h
  · rename_i hf
    obtain rfl : f = 50 := by simpa using hf
    split at h
    · split at h
      · rename_i k a b c d _ _ v n hv hk
        simp only [Option.some.injEq] at h; subst h
        obtain ⟨⟨k1, k2⟩, k3⟩ := hK
        intro w0 e W hW vs hvs
        rw [xW4_eq hv] at hW
        refine knownC noOv names (conOk_of tRnd_ok) (wadd_run K v n k1 (k3 _ rfl)) w0 e W hW vs ?_
        obtain ⟨x, y, rfl⟩ : ∃ x y, vs = [x, y] := by
          match vs, map_len hvs with
          | [x, y], _ => exact ⟨x, y, rfl⟩
        simp only [List.map_cons, List.map_nil, List.cons.injEq, and_true] at hvs ⊢
        refine ⟨hvs.1, ?_⟩
        rw [intX_ok hk hvs.2]
        rfl
      · cases h
    · cases h
  · cases h
theorem tRRnd_ok : TblOk Try.prog tRRnd := by
  intro f tm σ C h K hK
  unfold tRRnd at h
  split at h
  · rename_i hf
    obtain rfl : f = 53 := by simpa using hf
    split at h
    · split at h
      · rename_i a b c d k _ _ v n hv hk
        simp only [Option.some.injEq] at h; subst h
        obtain ⟨⟨k1, k2⟩, k3⟩ := hK
        intro w0 e W hW vs hvs
        rw [xW4_eq hv] at hvs
        refine knownC noOv names (conOk_of tRot_ok) (rRounds_run K v n k1 k2 (k3 _ rfl)) w0 e W hW vs ?_
        obtain ⟨x, y, rfl⟩ : ∃ x y, vs = [x, y] := by
          match vs, map_len hvs with
          | [x, y], _ => exact ⟨x, y, rfl⟩
        simp only [List.map_cons, List.map_nil, List.cons.injEq, and_true] at hvs ⊢
        refine ⟨hvs.1, ?_⟩
        rw [intX_ok hk hvs.2]
        rfl
      · cases h
    · cases h
  · cases h
theorem tfold_snoc (s : T6) (l : List Int) (c : Int) : tfold s (l ++ [c]) = tstep (tfold s l) c := by simp [tfold]
def initW (a b : Int) : W4 := (xorI .u64 a 8317987319222330741, xorI .u64 b 7237128888997146477, xorI .u64 a 7816392313619706465, xorI .u64 b 8387220255154660723)
def finW (v : W4) : Int :=
  let r := U.rn (v.1, v.2.1, xorI .u64 v.2.2.1 255, v.2.2.2) 4
  xorI .u64 (xorI .u64 (xorI .u64 r.1 r.2.1) r.2.2.1) r.2.2.2
def lastM (s : T6) : Int := orI .u64 s.2.1 (shlI .u64 s.2.2 56)
def U.T (a b : Int) (L : List Int) (o n : Nat) : Int :=
  finW (U.ad (tfold (initW a b, 0, 0) ((L.drop o).take n)).1 (lastM (tfold (initW a b, 0, 0) ((L.drop o).take n))))
theorem tagI_zero (v0 : W4) (m0 n0 : Int) (L : List Int) (o n : Nat) (hv : U.in4 v0) (hm : inW m0) (hn : 0 ≤ n0 ∧ n0 ≤ 10000) : U.tagI v0 m0 n0 L o n 0 m0 n0 v0 :=
  ⟨0, rfl, Nat.zero_le _, rfl, hv, hm, by omega, hn⟩
theorem tagI_next {v0 v : W4} {m0 n0 : Int} {L : List Int} {o n : Nat} {k m nn k' : Int} {v' : W4} {m' n' : Int} (hI : U.tagI v0 m0 n0 L o n k m nn v) (hl : o + n ≤ L.length) (hn : n ≤ 300) (hk : k < n) {j : Nat} (hj : (j : Int) = o + k) (hk' : k' = k + 1)
    (hs : tstep (v, m, nn) (L.getD j 0) = (v', m', n')) (hv : U.in4 v') (hm : inW m') (hn' : n' = nn + 1) : U.tagI v0 m0 n0 L o n k' m' n' v' := by
  obtain ⟨i, h1, h2, h3, h4, h5, h6, h7⟩ := hI
  have hlen := sub_len L o n hl
  have hji : j = o + i := by omega
  refine ⟨i + 1, by rw [hk', h1]; simp, by omega, ?_, hv, hm, by push_cast; omega, h7⟩
  rw [take_get (by omega), tfold_snoc, ← h3, sub_get L o n i hl (by omega), ← hji, hs]
theorem tstep_of {v : W4} {m nn c z9 z10 z11 z12 z13 z14 z15 : Int} (hc : 0 ≤ c ∧ c ≤ 255) (hnn : 0 ≤ nn ∧ nn ≤ 10400) (e9 : z9 = IntKind.wrap .u64 c) (e10 : z10 = Int.tmod nn 8) (e11 : z11 = IntKind.wrap .i64 (z10 * 8)) (e12 : z12 = shlI .u64 z9 z11) (e13 : z13 = orI .u64 m z12)
    (e14 : z14 = IntKind.wrap .i64 (nn + 1)) (e15 : z15 = Int.tmod z14 8) : 0 ≤ z11 ∧ z14 = nn + 1 ∧ (z15 = 0 → tstep (v, m, nn) c = (U.ad v z13, 0, z14)) ∧ (¬ z15 = 0 → tstep (v, m, nn) c = (v, z13, z14)) ∧ inW z13 := by
  have e9 := wu64 e9 (by omega)
  rw [Int.tmod_eq_emod_of_nonneg (by omega)] at e10
  have e11 := w64 e11 (by omega)
  have e14 := w64 e14 (by omega)
  rw [Int.tmod_eq_emod_of_nonneg (by omega)] at e15
  have em : z13 = orI .u64 m (shlI .u64 c (nn % 8 * 8)) := by rw [e13, e12, e9, e11, e10]
  refine ⟨by omega, e14, fun h => ?_, fun h => ?_, e13 ▸ or_in _ _⟩
  · unfold tstep
    have : (nn + 1) % 8 = 0 := by omega
    simp only [this, if_true]; rw [← em, e14]
  · unfold tstep
    have : ¬ (nn + 1) % 8 = 0 := by omega
    simp only [this, if_false]; rw [← em, e14]
theorem tag_run (K : AV → St → Prop) (a b : Int) (L : List Int) (o n c cap : Nat) (ro : Bool) (hb : byteL L) (hl : o + n ≤ L.length) (hn : n ≤ 300)
    (h : K (xi .u64 (U.T a b L o n)) ⟨[pt [aslC ⟨0, o, n, c⟩]], [], 0, [some (bs L cap ro)], 0⟩) : runG (tblOr tWAdd tRnd) 37 [xi .u64 a, xi .u64 b, sl ⟨0, 0, 1, none, 1⟩] ⟨[pt [aslC ⟨0, o, n, c⟩]], [], 0, [some (bs L cap ro)], 0⟩ K := by
  rw [tag_vc]
  intro z0 e0 z1 e1 z2 e2 z3 e3 z4 e4
  have hini : (z0, z1, z2, z3) = initW a b := by rw [e0, e1, e2, e3]; rfl
  have hv0 : U.in4 (z0, z1, z2, z3) := ⟨e0 ▸ xor_in _ _, e1 ▸ xor_in _ _, e2 ▸ xor_in _ _, e3 ▸ xor_in _ _⟩
  clear e0 e1 e2 e3
  refine ⟨⟨(0, 0, 0, (z0, z1, z2, z3)), ?_⟩, ?_⟩
  · simp only [and_self, true_and]; exact tagI_zero _ _ _ _ _ _ hv0 (by unfold inW; decide) (by decide)
  rintro ⟨k, m, nn, v⟩ hI
  dsimp only at hI ⊢
  obtain ⟨j, h1, h2, h3, h4, h5, h6, h7⟩ := id hI
  refine ⟨fun hlt => ⟨by omega, fun j7 hj => ⟨by omega, fun z8 e8 z9 e9 => ⟨by decide, fun z10 e10 z11 e11 => ?_⟩⟩⟩, fun hge z21 e21 => ⟨by decide, fun z22 e22 z23 e23 => ?_⟩⟩
  · have hc := byteL_get hb j7
    rw [← e8] at hc
    have T := @tstep_of v m nn z8 z9 z10 z11 (shlI .u64 z9 z11) _ _ _ hc (by omega) e9 e10 e11 rfl rfl rfl rfl
    refine ⟨T.1, fun z12 e12 z13 e13 z14 e14 => ⟨by decide, fun z15 e15 => ?_⟩⟩
    have T := @tstep_of v m nn z8 z9 z10 z11 z12 z13 z14 z15 hc (by omega) e9 e10 e11 e12 e13 e14 e15
    obtain ⟨t1, t2, t3, t4, t5⟩ := T
    refine ⟨fun hz => ⟨⟨h4, ⟨t5⟩⟩, fun z16 e16 z17 e17 => ⟨(z17, 0, z14, z16), ?_⟩⟩, fun hz z19 e19 => ⟨(z19, z13, z14, v), ?_⟩⟩
    · have e17 := w64 e17 (by omega)
      simp only [and_self, true_and]
      refine ⟨tagI_next hI hl hn (by omega) hj e17 (by rw [← e8, t3 hz, e16]) (e16 ▸ ad_in h4 _) (by unfold inW; decide) t2, by omega⟩
    · have e19 := w64 e19 (by omega)
      simp only [and_self, true_and]
      refine ⟨tagI_next hI hl hn (by omega) hj e19 (by rw [← e8, t4 hz]) h4 t5 t2, by omega⟩
  · refine ⟨⟨h4, ⟨e23 ▸ or_in _ _⟩⟩, fun z24 e24 z25 e25 => ?_⟩
    have hz := ad_in h4 z23
    have e24' : z24 = U.ad v z23 := e24
    rw [← e24'] at hz
    refine ⟨⟨⟨hz.out.1, hz.out.2.1, e25 ▸ xor_in _ _, hz.out.2.2.2⟩, by decide⟩, fun z26 e26 z27 e27 z28 e28 z29 e29 => ?_⟩
    have hP : (L.drop o).take n = ((L.drop o).take n).take j := by rw [List.take_of_length_le (l := (L.drop o).take n) (by rw [sub_len L o n hl]; omega)]
    have e : U.T a b L o n = z29 := by
      unfold U.T
      rw [hP, ← hini, ← h3]
      have e21 := wu64 e21 (by omega)
      have : z23 = lastM (v, m, nn) := by rw [e23, e22, e21]; rfl
      rw [← this]
      show finW (U.ad v z23) = _
      rw [← e24', e29, e28, e27, e26, e25]; rfl
    rw [e] at h; exact h
end Go.Proofs.Ytfgnfnmbfkjnjaa
end

section
set_option linter.unusedVariables false
set_option linter.unusedSimpArgs false
set_option maxRecDepth 10000
namespace Go.Proofs.Ytfgnfnmbfkjnjaa
open Go Reck
theorem getD_sub (L : List Int) (o n k : Nat) (hl : o + n ≤ L.length) : ((L.drop o).take n).getD k 0 = if k < n then L.getD (o + k) 0 else 0 := by
  by_cases h : k < n
  · rw [if_pos h, sub_get L o n k hl h]
  · rw [if_neg h]
    have := sub_len L o n hl
    rw [List.getD_eq_getElem?_getD, List.getElem?_eq_none (by omega)]; rfl
theorem pow8 (t : Nat) (h : t < 8) : (256 : Int) ^ t ≤ 72057594037927936 ∧ (1 : Int) ≤ 256 ^ t := by
  have : ∀ t : Fin 8, (256 : Int) ^ (t.val) ≤ 72057594037927936 ∧ (1 : Int) ≤ 256 ^ t.val := by decide
  exact this ⟨t, h⟩
theorem refMI_next {L : List Int} {o n : Nat} {i k m k' m' : Int} (hI : U.refMI L o n i k m) (hl : o + n ≤ L.length) (hb : byteL L) (hi : 0 ≤ i) (hk : 0 ≤ k) (hk' : k' = k - 1) (hm : m' = m * 256 + (if 8 * i + k < n then L.getD (o + (8 * i + k).toNat) 0 else 0)) : U.refMI L o n i k' m' := by
  obtain ⟨t, h1, h2, h3, h4, h5⟩ := hI
  have hp := pow8 t (by omega)
  have hc := byteL_get hb (o + (8 * i + k).toNat)
  refine ⟨t + 1, by push_cast; omega, by omega, ?_, ?_, ?_⟩
  · show _ = wordFrom _ _ t * 256 + _
    rw [getD_sub L o n _ hl, hm, h3, show 8 * i.toNat + (7 - t) = (8 * i + k).toNat by omega]
    congr 1
    by_cases h : 8 * i + k < n
    · rw [if_pos h, if_pos (by omega)]
    · rw [if_neg h, if_neg (by omega)]
  · split at hm <;> omega
  · rw [Int.pow_succ]
    generalize (256 : Int) ^ t = p at *
    split at hm <;> omega
theorem refMI_small {L : List Int} {o n : Nat} {i k m : Int} (hI : U.refMI L o n i k m) (hk : 0 ≤ k) : 0 ≤ m ∧ m ≤ 72057594037927935 := by
  obtain ⟨t, h1, h2, h3, h4, h5⟩ := hI
  have hp := pow8 t (by omega)
  generalize (256 : Int) ^ t = p at *
  omega
theorem refMI_end {L : List Int} {o n : Nat} {i k m : Int} (hI : U.refMI L o n i k m) (hk : ¬ 0 ≤ k) : m = wordFrom ((L.drop o).take n) i.toNat 8 := by
  obtain ⟨t, h1, h2, h3, h4, h5⟩ := hI
  obtain rfl : t = 8 := by omega
  exact h3
def U.RT (a b : Int) (L : List Int) (o n : Nat) : Int := finW (U.rfold (initW a b) ((L.drop o).take n) (n / 8 + 1))
theorem refTI_next {v0 v : W4} {L : List Int} {o n : Nat} {i m i' : Int} {v' : W4} (hI : U.refTI v0 L o n i v) (hl : o + n ≤ L.length) (hle : i ≤ n / 8) (hi : i' = i + 1)
    (hm : m = if i.toNat = n / 8 then IntKind.wrap .u64 (wordFrom ((L.drop o).take n) i.toNat 8 + ((n % 256 : Nat) : Int) * 72057594037927936) else wordFrom ((L.drop o).take n) i.toNat 8) (hv : v' = U.ad v m) : U.refTI v0 L o n i' v' := by
  obtain ⟨j, h1, h2, h3, h4⟩ := hI
  refine ⟨j + 1, by rw [hi, h1]; simp, by omega, ?_, hv ▸ ad_in h4 _⟩
  show v' = U.ad (U.rfold v0 _ j) _
  rw [← h3, hv, hm, sub_len L o n hl, h1, Int.toNat_natCast]
theorem rTag_run (K : AV → St → Prop) (a b : Int) (L : List Int) (o n c cap : Nat) (ro : Bool) (hb : byteL L) (hl : o + n ≤ L.length) (hn : n ≤ 900)
    (h : K (xi .u64 (U.RT a b L o n)) (ar [bs L cap ro])) : runG tRRnd 39 [xi .u64 a, xi .u64 b, cell (aslC ⟨0, o, n, c⟩)] (ar [bs L cap ro]) K := by
  rw [rTag_vc]
  intro z0 e0 z1 e1 z2 e2 z3 e3
  have hini : (z0, z1, z2, z3) = initW a b := by rw [e0, e1, e2, e3]; rfl
  have hv0 : U.in4 (z0, z1, z2, z3) := ⟨e0 ▸ xor_in _ _, e1 ▸ xor_in _ _, e2 ▸ xor_in _ _, e3 ▸ xor_in _ _⟩
  clear e0 e1 e2 e3
  refine ⟨⟨(0, (z0, z1, z2, z3)), ?_⟩, ?_⟩
  · simp only [and_self, true_and]; exact ⟨0, rfl, by omega, rfl, hv0⟩
  rintro ⟨i, v⟩ hI
  dsimp only at hI ⊢
  obtain ⟨j, h1, h2, h3, h4⟩ := id hI
  intro z6 e6
  refine ⟨by decide, fun z7 e7 => ?_⟩
  have e7 := w64 e7 (by rw [e6, Int.tdiv_eq_ediv_of_nonneg (by omega)]; omega)
  rw [e6, Int.tdiv_eq_ediv_of_nonneg (by omega)] at e7
  refine ⟨fun hle => ⟨⟨(7, 0), ?_⟩, ?_⟩, fun hgt z41 e41 => ?_⟩
  · simp only [and_self, true_and]; exact ⟨0, by simp, by omega, rfl, by decide, by decide⟩
  · rintro ⟨k, m⟩ hM
    dsimp only at hM ⊢
    refine ⟨fun hk z10 e10 z11 e11 z12 e12 z13 e13 => ?_, fun hk z24 e24 => ⟨by decide, fun z25 e25 => ?_⟩⟩
    · have hs := refMI_small hM hk
      have hk7 : k ≤ 7 := by obtain ⟨t, t1, _⟩ := hM; omega
      have e10 := wu64 e10 (by omega)
      have e11 := w64 e11 (by omega)
      have e12 := w64 e12 (by omega)
      refine ⟨fun hlt z14 e14 z15 e15 => ?_, fun hge z22 e22 => ⟨(z22, z10), ?_⟩⟩
      · have e14 := w64 e14 (by omega)
        have e15 := w64 e15 (by omega)
        refine ⟨by omega, fun j16 hj => ⟨by omega, fun z17 e17 z18 e18 z19 e19 z20 e20 => ⟨(z20, z19), ?_⟩⟩⟩
        have hc := byteL_get hb j16
        rw [← e17] at hc
        have e18 := wu64 e18 (by omega)
        have e19 := wu64 e19 (by omega)
        have e20 := w64 e20 (by omega)
        simp only [and_self, true_and]
        refine ⟨refMI_next hM hl hb (by omega) hk e20 ?_, by omega⟩
        rw [if_pos (by omega), e19, e10, e18, e17, show o + (8 * i + k).toNat = j16 by omega]
      · have e22 := w64 e22 (by omega)
        simp only [and_self, true_and]
        refine ⟨refMI_next hM hl hb (by omega) hk e22 ?_, by omega⟩
        rw [if_neg (by omega), e10]; omega
    · have e25 := w64 e25 (by rw [e24, Int.tdiv_eq_ediv_of_nonneg (by omega)]; omega)
      rw [e24, Int.tdiv_eq_ediv_of_nonneg (by omega)] at e25
      have hm := refMI_end hM hk
      have hm2 : 0 ≤ m := by obtain ⟨t, _, _, _, t4, _⟩ := hM; exact t4
      refine ⟨fun he z26 e26 => ⟨by decide, fun z27 e27 z28 e28 z29 e29 z30 e30 z31 e31 => ?_⟩, fun hne z36 e36 => ?_⟩
      · refine ⟨⟨⟨h4.out.1, h4.out.2.1, h4.out.2.2.1, e31 ▸ xor_in _ _⟩, by decide⟩, fun z32 e32 z33 e33 z34 e34 => ⟨(z34, (z33, z32.2.1, z32.2.2.1, z32.2.2.2)), ?_⟩⟩
        simp only [and_self, true_and]
        have e34 := w64 e34 (by omega)
        rw [e26, Int.tmod_eq_emod_of_nonneg (by omega)] at e27
        have e28 := wu64 e28 (by omega)
        have e29 := wu64 e29 (by omega)
        refine ⟨refTI_next hI hl (by omega) e34 (m := z30) ?_ ?_, by omega⟩
        · rw [if_pos (by omega), e30, hm, e29, e28, e27]; push_cast; rfl
        · rw [e33, e32, e31]; rfl
      · refine ⟨⟨⟨h4.out.1, h4.out.2.1, h4.out.2.2.1, e36 ▸ xor_in _ _⟩, by decide⟩, fun z37 e37 z38 e38 z39 e39 => ⟨(z39, (z38, z37.2.1, z37.2.2.1, z37.2.2.2)), ?_⟩⟩
        simp only [and_self, true_and]
        have e39 := w64 e39 (by omega)
        refine ⟨refTI_next hI hl (by omega) e39 (m := m) ?_ ?_, by omega⟩
        · rw [if_neg (by omega), hm]
        · rw [e38, e37, e36]; rfl
  · refine ⟨⟨⟨h4.out.1, h4.out.2.1, e41 ▸ xor_in _ _, h4.out.2.2.2⟩, by decide⟩, fun z42 e42 z43 e43 z44 e44 z45 e45 => ?_⟩
    have e : U.RT a b L o n = z45 := by
      unfold U.RT
      rw [← hini, show n / 8 + 1 = j by omega, ← h3, e45, e44, e43, e42, e41]; rfl
    rw [e] at h; exact h
end Go.Proofs.Ytfgnfnmbfkjnjaa
end

section
set_option linter.unusedVariables false
set_option linter.unusedSimpArgs false
set_option maxRecDepth 10000
namespace Go.Proofs.Ytfgnfnmbfkjnjaa
open Go Reck
def pw (P : List Int) (i : Nat) : Nat → Int
  | 0 => 0
  | r + 1 => pw P i r + P.getD (8 * i + r) 0 * 256 ^ r
theorem pw_in {P : List Int} (hb : byteL P) (i r : Nat) : 0 ≤ pw P i r ∧ pw P i r < 256 ^ r := by
  induction r with
  | zero => exact ⟨Int.le_refl _, by show (0 : Int) < 1; decide⟩
  | succ r ih =>
    have hc := byteL_get hb (8 * i + r)
    rw [Int.pow_succ]
    show 0 ≤ pw P i r + P.getD (8 * i + r) 0 * 256 ^ r ∧ pw P i r + P.getD (8 * i + r) 0 * 256 ^ r < _
    have h0 : (0 : Int) ≤ 256 ^ r := Int.pow_nonneg (by decide)
    have h1 : 0 ≤ P.getD (8 * i + r) 0 * 256 ^ r := Int.mul_nonneg hc.1 h0
    have h2 : P.getD (8 * i + r) 0 * 256 ^ r ≤ 255 * 256 ^ r := Int.mul_le_mul_of_nonneg_right hc.2 h0
    omega
theorem word_pw (P : List Int) (i : Nat) : wordFrom P i 8 = pw P i 8 := by
  simp only [wordFrom, pw, Nat.reduceSub, Nat.reduceAdd, Nat.add_zero]
  omega
theorem pw_const {P : List Int} (i r : Nat) (h : P.length ≤ 8 * i + r) : ∀ s, pw P i (r + s) = pw P i r := by
  intro s
  induction s with
  | zero => rfl
  | succ s ih =>
    show pw P i (r + s) + P.getD (8 * i + (r + s)) 0 * 256 ^ (r + s) = _
    rw [ih, List.getD_eq_getElem?_getD, List.getElem?_eq_none (by omega)]; simp
theorem or_add {a b : Int} (s : Nat) (ha : 0 ≤ a ∧ a < 2 ^ s) (hb : 0 ≤ b) (h : b * 2 ^ s ≤ 18446744073709551615) (ha2 : a ≤ 18446744073709551615) : orI .u64 a (b * 2 ^ s) = a + b * 2 ^ s := by
  obtain ⟨x, rfl⟩ : ∃ x : Nat, a = x := ⟨a.toNat, by omega⟩
  obtain ⟨y, rfl⟩ : ∃ y : Nat, b = y := ⟨b.toNat, by omega⟩
  have e : ((y : Int) * 2 ^ s) = ((y * 2 ^ s : Nat) : Int) := by push_cast; rfl
  have hx : x < 2 ^ s := by have := ha.2; exact_mod_cast this
  rw [e] at h ⊢
  rw [or_nat x _ (by omega) (by omega)]
  have := Nat.shiftLeft_add_eq_or_of_lt hx y
  rw [Nat.shiftLeft_eq, Nat.or_comm] at this
  rw [← this]; push_cast; omega
theorem pow_256 (r : Nat) : (256 : Int) ^ r = 2 ^ (8 * r) := by rw [Int.pow_mul]; rfl
theorem part_step {P : List Int} (hb : byteL P) (v : W4) (i r : Nat) (hr : r < 8) : tstep (v, pw P i r, ((8 * i + r : Nat) : Int)) (P.getD (8 * i + r) 0) = if r = 7 then (U.ad v (pw P i 8), 0, ((8 * i + 8 : Nat) : Int)) else (v, pw P i (r + 1), ((8 * i + (r + 1) : Nat) : Int)) := by
  have hc := byteL_get hb (8 * i + r)
  have hp := pw_in hb i r
  have hp8 := pow8 r hr
  have hsh : shlI .u64 (P.getD (8 * i + r) 0) (((8 * i + r : Nat) : Int) % 8 * 8) = P.getD (8 * i + r) 0 * 256 ^ r := by
    unfold shlI
    rw [show ((((8 * i + r : Nat) : Int) % 8 * 8).toNat) = 8 * r by omega, show min (8 * r) (IntKind.bits .u64) = 8 * r from Nat.min_eq_left (by show 8 * r ≤ 64; omega), ← pow_256, wrapU]
    have h0 : (0 : Int) ≤ P.getD (8 * i + r) 0 * 256 ^ r := Int.mul_nonneg hc.1 (by omega)
    have h2 : P.getD (8 * i + r) 0 * 256 ^ r ≤ 255 * 256 ^ r := Int.mul_le_mul_of_nonneg_right hc.2 (by omega)
    omega
  have hor : orI .u64 (pw P i r) (shlI .u64 (P.getD (8 * i + r) 0) (((8 * i + r : Nat) : Int) % 8 * 8)) = pw P i (r + 1) := by
    rw [hsh]
    have h2 : P.getD (8 * i + r) 0 * 256 ^ r ≤ 255 * 256 ^ r := Int.mul_le_mul_of_nonneg_right hc.2 (by omega)
    have := or_add (8 * r) (a := pw P i r) (b := P.getD (8 * i + r) 0) (by rw [← pow_256]; exact hp) hc.1 (by rw [← pow_256]; omega) (by omega)
    rw [← pow_256] at this
    rw [this]; rfl
  unfold tstep
  simp only
  rw [hor]
  by_cases h7 : r = 7
  · subst h7
    rw [if_pos (by omega), if_pos rfl]
    congr 2
  · rw [if_neg (by omega), if_neg h7]
    congr 2
theorem part {P : List Int} (hb : byteL P) (v : W4) (i : Nat) : ∀ r, r < 8 → 8 * i + r ≤ P.length → ∀ l, tfold (v, 0, ((8 * i : Nat) : Int)) (((P.drop (8 * i)).take r) ++ l) = tfold (v, pw P i r, ((8 * i + r : Nat) : Int)) l := by
  intro r
  induction r with
  | zero => intro _ _ l; rfl
  | succ r ih =>
    intro hr hl l
    rw [take_get (by simp; omega), List.append_assoc, ih (by omega) (by omega)]
    have hg : (P.drop (8 * i)).getD r 0 = P.getD (8 * i + r) 0 := by simp [List.getD, List.getElem?_drop]
    rw [hg]
    show tfold (tstep _ _) l = _
    rw [part_step hb v i r (by omega), if_neg (by omega)]
theorem whole {P : List Int} (hb : byteL P) (v : W4) (i : Nat) (h : 8 * i + 8 ≤ P.length) : tfold (v, 0, ((8 * i : Nat) : Int)) ((P.drop (8 * i)).take 8) = (U.ad v (pw P i 8), 0, ((8 * i + 8 : Nat) : Int)) := by
  rw [take_get (by simp; omega), part hb v i 7 (by omega) (by omega)]
  have hg : (P.drop (8 * i)).getD 7 0 = P.getD (8 * i + 7) 0 := by simp [List.getD, List.getElem?_drop]
  rw [hg]
  show tstep _ _ = _
  rw [part_step hb v i 7 (by omega), if_pos rfl]
theorem words {P : List Int} (hb : byteL P) (v : W4) : ∀ i, i ≤ P.length / 8 → tfold (v, 0, 0) (P.take (8 * i)) = (U.rfold v P i, 0, ((8 * i : Nat) : Int)) := by
  intro i
  induction i with
  | zero => intro _; rfl
  | succ i ih =>
    intro h
    have e : P.take (8 * (i + 1)) = P.take (8 * i) ++ (P.drop (8 * i)).take 8 := by
      rw [show 8 * (i + 1) = 8 * i + 8 by omega, List.take_add]
    have : tfold (v, 0, 0) (P.take (8 * (i + 1))) = tfold (tfold (v, 0, 0) (P.take (8 * i))) ((P.drop (8 * i)).take 8) := by rw [e]; simp [tfold]
    rw [this, ih (by omega), whole hb _ i (by omega)]
    show _ = (U.ad _ _, _, _)
    rw [if_neg (by omega), word_pw]
    congr 2
theorem tag_eq (a b : Int) (L : List Int) (o n : Nat) (hb : byteL L) (hl : o + n ≤ L.length) (hn : n ≤ 900) : U.T a b L o n = U.RT a b L o n := by
  unfold U.T U.RT
  have hlen := sub_len L o n hl
  have hB := byteL_sub hb o n
  generalize (L.drop o).take n = P at *
  generalize initW a b = v
  have e : P = P.take (8 * (n / 8)) ++ ((P.drop (8 * (n / 8))).take (n % 8) ++ []) := by
    rw [List.append_nil, List.take_of_length_le (l := P.drop _) (by simp; omega), List.take_append_drop]
  have hf : tfold (v, 0, 0) P = (U.rfold v P (n / 8), pw P (n / 8) (n % 8), (n : Int)) := by
    have h1 : tfold (v, 0, 0) P = tfold (tfold (v, 0, 0) (P.take (8 * (n / 8)))) ((P.drop (8 * (n / 8))).take (n % 8) ++ []) := by
      conv => lhs; rw [e]
      simp only [tfold, List.foldl_append]
    rw [h1, words hB v _ (by omega), part hB _ (n / 8) (n % 8) (by omega) (by omega)]
    show (_, _, _) = _
    rw [show 8 * (n / 8) + n % 8 = n by omega]
  rw [hf]
  show finW (U.ad _ (lastM (_, _, _))) = finW (U.ad (U.rfold v P (n / 8)) _)
  rw [if_pos (by omega)]
  congr 2
  unfold lastM
  dsimp only
  have hp := pw_in hB (n / 8) (n % 8)
  have hp8 := pow8 (n % 8) (by omega)
  have hw : wordFrom P (n / 8) 8 = pw P (n / 8) (n % 8) := by
    rw [word_pw]
    have := pw_const (P := P) (n / 8) (n % 8) (by omega) (8 - n % 8)
    rw [show n % 8 + (8 - n % 8) = 8 by omega] at this
    exact this
  have hs : shlI .u64 (n : Int) 56 = ((n % 256 : Nat) : Int) * 2 ^ 56 := by
    unfold shlI
    rw [show min (Int.toNat 56) (IntKind.bits .u64) = 56 from rfl, wrapU]; omega
  have h7 : pw P (n / 8) (n % 8) < 2 ^ 56 := by have : (2 : Int) ^ 56 = 72057594037927936 := rfl; omega
  rw [hs, or_add 56 ⟨hp.1, h7⟩ (by omega) (by omega) (by omega), hw, hlen, wrapU]
  omega
end Go.Proofs.Ytfgnfnmbfkjnjaa
end
