/- Layer 3: the frames' sum: what its functions come to. No condition. -/
import Derived.Test.YtpmnioadbkhpoaaSNet
namespace Go.Proofs.Ytpmnioadbkhpoaa
open Go Reck
set_option maxRecDepth 100000
set_option linter.unusedVariables false
def step1 (w : Nat) : Nat := if w % 2 = 1 then w / 2 ^^^ 3988292384 else w / 2
def iter1 : Nat → Nat → Nat
  | 0, w => w
  | n + 1, w => step1 (iter1 n w)
def crcN (w c : Nat) : Nat := iter1 8 (w ^^^ c)
def crcF (w : Nat) (l : List Int) : Nat := l.foldl (fun w c => crcN w c.toNat) w
structure U.byteI (w0 : Int) (k w : Int) : Prop where
  out : ∃ j : Nat, k = j ∧ j ≤ 8 ∧ w = (iter1 j w0.toNat : Nat) ∧ iter1 j w0.toNat < 4294967296
structure U.refBI (w0 c : Int) (k w : Int) : Prop where
  out : ∃ j v : Nat, k = j ∧ j ≤ 8 ∧ w = v ∧ v < 4294967296 ∧ v ^^^ (c.toNat / 2 ^ j) = iter1 j (w0.toNat ^^^ c.toNat)
structure U.crcI (w0 : Int) (L : List Int) (o n : Nat) (k w : Int) : Prop where
  out : ∃ j : Nat, k = j ∧ j ≤ n ∧ w = (crcF w0.toNat (((L.drop o).take n).take j) : Nat) ∧ crcF w0.toNat (((L.drop o).take n).take j) < 4294967296
def U.crcB (w c : Int) : Int := (crcN w.toNat c.toNat : Nat)
def U.C (L : List Int) (o n : Nat) : Int := 4294967295 - (crcF 4294967295 ((L.drop o).take n) : Nat)
def byteInv (c : Code) (tm : List AV) : Inv where
  X := Int × Int
  tags := [0]
  tag _ _ := 0
  J := wrBut [10, 0] c
  val _ x := [(10, xi .i64 x.1), (0, xi .u32 x.2)]
  st _ _ σ := σ
  I _ x := U.byteI (slotI tm 0) x.1 x.2
  m _ x := (8 - x.1).toNat
  ren := noRen
def refBInv (c : Code) (tm : List AV) : Inv where
  X := Int × Int
  tags := [0]
  tag _ _ := 0
  J := wrBut [6, 3] c
  val _ x := [(6, xi .i64 x.1), (3, xi .u32 x.2)]
  st _ _ σ := σ
  I _ x := U.refBI (slotI tm 3) (slotI tm 5) x.1 x.2
  m _ x := (8 - x.1).toNat
  ren := noRen
def crcInv (c : Code) (tm : List AV) (σ : St) (i l : Nat) : Inv where
  X := Int × Int
  tags := [0]
  tag _ _ := 0
  J := wrBut [i, 3] c
  val _ x := [(i, xi .i64 x.1), (3, xi .u32 x.2)]
  st _ _ σ := σ
  I _ x := U.crcI (slotI tm 3) (slotA tm l σ) (slotS tm l).o (slotS tm l).n x.1 x.2
  m _ x := ((slotS tm l).n - x.1).toNat
  ren := noRen
def inv2 (c : Code) (tm : List AV) (σ : St) : Option Inv :=
  match tm.length, firstReg c with
  | 22, some 3 => if isXint (tm.getD 0 (lit undef)) then some (byteInv c tm) else none
  | 35, some 6 => if isXint (tm.getD 5 (lit undef)) then some (refBInv c tm) else none
  | 35, some 3 => if isAsl (tm.getD 8 (lit undef)) then some (crcInv c tm σ 10 8) else none
  | 27, some 6 => if isAsl (tm.getD 14 (lit undef)) then some (crcInv c tm σ 16 14) else none
  | _, _ => none
def tByte : Tbl := fun f args σ => if f == 17 then match args, σ with
    | [a, b], ⟨[], [], 0, [], 0⟩ => match intX a, intX b with
      | some (.u32, w), some (.u8, c) => some fun K => (0 ≤ w ∧ w ≤ 4294967295 ∧ 0 ≤ c ∧ c ≤ 255) ∧ ∀ z : Int, z = U.crcB w c → K (xi .u32 z) emptySt
      | _, _ => none
    | _, _ => none
  else none
abbrev runB (tbl : Tbl) (f : Nat) (args : List AV) (σ : St) (K : AV → St → Prop) : Prop := goT Try.prog [] (orcOf inv2 tbl) (opMem Try.prog) 3000 (.inr (.inr (.inr (.inr f)))) args σ (retC σ K)
theorem byte_vc (K : AV → St → Prop) (w c : Int) : (runB tbl0 17 [xi .u32 w, xi .u8 c] emptySt K) = (∀ (z0 : Int), z0 = IntKind.wrap IntKind.u32 c → ∀ (z1 : Int), z1 = xorI IntKind.u32 w z0 → (∃ (y2 : Int × Int), z1 = Prod.snd y2 ∧ c = c ∧ w = w ∧ c = c ∧ z0 = z0 ∧ z1 = z1 ∧ (0 : Int) = Prod.fst y2 ∧ U.byteI z1 (Prod.fst y2) (Prod.snd y2)) ∧ ∀ (x3 : Int × Int), U.byteI z1 (Prod.fst x3) (Prod.snd x3) → (Prod.fst x3 < (8 : Int) → ∀ (z4 : Int), z4 = andI IntKind.u32 (Prod.snd x3) (1 : Int) → (z4 = (1 : Int) → (0 : Int) ≤ (1 : Int) ∧ ∀ (z5 : Int), z5 = shrI IntKind.u32 (Prod.snd x3) (1 : Int) → ∀ (z6 : Int), z6 = xorI IntKind.u32 z5 (3988292384 : Int) → ∀ (z7 : Int), z7 = IntKind.wrap IntKind.i64 (Prod.fst x3 + (1 : Int)) → ∃ (y8 : Int × Int), z6 = Prod.snd y8 ∧ c = c ∧ w = w ∧ c = c ∧ z0 = z0 ∧ z1 = z1 ∧ z7 = Prod.fst y8 ∧ U.byteI z1 (Prod.fst y8) (Prod.snd y8) ∧ Int.toNat ((8 : Int) - Prod.fst y8) < Int.toNat ((8 : Int) - Prod.fst x3)) ∧ (¬z4 = (1 : Int) → (0 : Int) ≤ (1 : Int) ∧ ∀ (z9 : Int), z9 = shrI IntKind.u32 (Prod.snd x3) (1 : Int) → ∀ (z10 : Int), z10 = IntKind.wrap IntKind.i64 (Prod.fst x3 + (1 : Int)) → ∃ (y11 : Int × Int), z9 = Prod.snd y11 ∧ c = c ∧ w = w ∧ c = c ∧ z0 = z0 ∧ z1 = z1 ∧ z10 = Prod.fst y11 ∧ U.byteI z1 (Prod.fst y11) (Prod.snd y11) ∧ Int.toNat ((8 : Int) - Prod.fst y11) < Int.toNat ((8 : Int) - Prod.fst x3))) ∧ (¬Prod.fst x3 < (8 : Int) → K (Sum.inl (Sum.inl (Sum.inr (Sum.inr (Sum.inr (Sum.inr (Sum.inr (Sum.inr (Sum.inl (IntKind.u32, Prod.snd x3)))))))))) { heap := [], ints := [], opqs := (0 : Nat), arrs := [], junks := (0 : Nat) })) := by kernel_rfl
theorem refCrc_vc (K : AV → St → Prop) (L : List Int) (o n c cap : Nat) (ro : Bool) : (runB tbl0 14 [cell (aslC ⟨0, o, n, c⟩)] (ar [bs L cap ro]) K) = (∀ (z0 : Int), z0 = (↑n : Int) → (∃ (y1 : Int × Int), (o = o ∧ n = n ∧ c = c) ∧ (4294967295 : Int) = Prod.snd y1 ∧ (o = o ∧ n = n ∧ c = c) ∧ z0 = z0 ∧ (0 : Int) = Prod.fst y1 ∧ (L = L ∧ cap = cap ∧ ro = ro) ∧ U.crcI (4294967295 : Int) L o n (Prod.fst y1) (Prod.snd y1)) ∧ ∀ (x2 : Int × Int), U.crcI (4294967295 : Int) L o n (Prod.fst x2) (Prod.snd x2) → (Prod.fst x2 < z0 → ((0 : Int) ≤ Prod.fst x2 ∧ Prod.fst x2 < (↑n : Int)) ∧ ∀ (j3 : Nat), (↑j3 : Int) = (↑o : Int) + Prod.fst x2 → j3 < List.length L ∧ ∀ (z4 : Int), z4 = List.getD L j3 (0 : Int) → (∃ (y5 : Int × Int), (o = o ∧ n = n ∧ c = c) ∧ Prod.snd x2 = Prod.snd y5 ∧ z4 = z4 ∧ (0 : Int) = Prod.fst y5 ∧ (o = o ∧ n = n ∧ c = c) ∧ z0 = z0 ∧ Prod.fst x2 = Prod.fst x2 ∧ j3 = j3 ∧ z4 = z4 ∧ (L = L ∧ cap = cap ∧ ro = ro) ∧ U.refBI (Prod.snd x2) z4 (Prod.fst y5) (Prod.snd y5)) ∧ ∀ (x6 : Int × Int), U.refBI (Prod.snd x2) z4 (Prod.fst x6) (Prod.snd x6) → (Prod.fst x6 < (8 : Int) → ∀ (z7 : Int), z7 = IntKind.wrap IntKind.u32 z4 → ∀ (z8 : Int), z8 = IntKind.wrap IntKind.u64 (Prod.fst x6) → (0 : Int) ≤ z8 ∧ ∀ (z9 : Int), z9 = shrI IntKind.u32 z7 z8 → ∀ (z10 : Int), z10 = IntKind.wrap IntKind.u32 (Prod.snd x6 + z9) → ¬(2 : Int) = (0 : Int) ∧ ∀ (z11 : Int), z11 = Int.tmod z10 (2 : Int) → (z11 = (1 : Int) → ¬(2 : Int) = (0 : Int) ∧ ∀ (z12 : Int), z12 = IntKind.wrap IntKind.u32 (Int.tdiv (Prod.snd x6) (2 : Int)) → ∀ (z13 : Int), z13 = xorI IntKind.u32 z12 (3988292384 : Int) → ∀ (z14 : Int), z14 = IntKind.wrap IntKind.i64 (Prod.fst x6 + (1 : Int)) → ∃ (y15 : Int × Int), (o = o ∧ n = n ∧ c = c) ∧ z13 = Prod.snd y15 ∧ z4 = z4 ∧ z14 = Prod.fst y15 ∧ (o = o ∧ n = n ∧ c = c) ∧ z0 = z0 ∧ Prod.fst x2 = Prod.fst x2 ∧ j3 = j3 ∧ z4 = z4 ∧ (L = L ∧ cap = cap ∧ ro = ro) ∧ U.refBI (Prod.snd x2) z4 (Prod.fst y15) (Prod.snd y15) ∧ Int.toNat ((8 : Int) - Prod.fst y15) < Int.toNat ((8 : Int) - Prod.fst x6)) ∧ (¬z11 = (1 : Int) → ¬(2 : Int) = (0 : Int) ∧ ∀ (z16 : Int), z16 = IntKind.wrap IntKind.u32 (Int.tdiv (Prod.snd x6) (2 : Int)) → ∀ (z17 : Int), z17 = IntKind.wrap IntKind.i64 (Prod.fst x6 + (1 : Int)) → ∃ (y18 : Int × Int), (o = o ∧ n = n ∧ c = c) ∧ z16 = Prod.snd y18 ∧ z4 = z4 ∧ z17 = Prod.fst y18 ∧ (o = o ∧ n = n ∧ c = c) ∧ z0 = z0 ∧ Prod.fst x2 = Prod.fst x2 ∧ j3 = j3 ∧ z4 = z4 ∧ (L = L ∧ cap = cap ∧ ro = ro) ∧ U.refBI (Prod.snd x2) z4 (Prod.fst y18) (Prod.snd y18) ∧ Int.toNat ((8 : Int) - Prod.fst y18) < Int.toNat ((8 : Int) - Prod.fst x6))) ∧ (¬Prod.fst x6 < (8 : Int) → ∀ (z19 : Int), z19 = IntKind.wrap IntKind.i64 (Prod.fst x2 + (1 : Int)) → ∃ (y20 : Int × Int), (o = o ∧ n = n ∧ c = c) ∧ Prod.snd x6 = Prod.snd y20 ∧ (o = o ∧ n = n ∧ c = c) ∧ z0 = z0 ∧ z19 = Prod.fst y20 ∧ (L = L ∧ cap = cap ∧ ro = ro) ∧ U.crcI (4294967295 : Int) L o n (Prod.fst y20) (Prod.snd y20) ∧ Int.toNat ((↑n : Int) - Prod.fst y20) < Int.toNat ((↑n : Int) - Prod.fst x2))) ∧ (¬Prod.fst x2 < z0 → ∀ (z21 : Int), z21 = IntKind.wrap IntKind.u32 ((4294967295 : Int) - Prod.snd x2) → K (Sum.inl (Sum.inl (Sum.inr (Sum.inr (Sum.inr (Sum.inr (Sum.inr (Sum.inr (Sum.inl (IntKind.u32, z21)))))))))) { heap := [], ints := [], opqs := (0 : Nat), arrs := [some { elem := OfNat.ofNat (5 : Nat), k := IntKind.u8, l := L, cap := cap, ro := ro }], junks := (0 : Nat) })) := by kernel_rfl
theorem crc1_vc (K : AV → St → Prop) (L : List Int) (o n c cap : Nat) (ro : Bool) : (runB tByte 13 [sl ⟨0, 0, 1, none, 1⟩] ⟨[pt [aslC ⟨0, o, n, c⟩]], [], 0, [some (bs L cap ro)], 0⟩ K) = (∀ (z0 : Int), z0 = (↑n : Int) → (∃ (y1 : Int × Int), (4294967295 : Int) = Prod.snd y1 ∧ (o = o ∧ n = n ∧ c = c) ∧ (o = o ∧ n = n ∧ c = c) ∧ (o = o ∧ n = n ∧ c = c) ∧ z0 = z0 ∧ (0 : Int) = Prod.fst y1 ∧ (o = o ∧ n = n ∧ c = c) ∧ (L = L ∧ cap = cap ∧ ro = ro) ∧ U.crcI (4294967295 : Int) L o n (Prod.fst y1) (Prod.snd y1)) ∧ ∀ (x2 : Int × Int), U.crcI (4294967295 : Int) L o n (Prod.fst x2) (Prod.snd x2) → (Prod.fst x2 < z0 → ((0 : Int) ≤ Prod.fst x2 ∧ Prod.fst x2 < (↑n : Int)) ∧ ∀ (j3 : Nat), (↑j3 : Int) = (↑o : Int) + Prod.fst x2 → j3 < List.length L ∧ ∀ (z4 : Int), z4 = List.getD L j3 (0 : Int) → ((0 : Int) ≤ Prod.snd x2 ∧ Prod.snd x2 ≤ (4294967295 : Int) ∧ (0 : Int) ≤ z4 ∧ z4 ≤ (255 : Int)) ∧ ∀ (z5 : Int), z5 = U.crcB (Prod.snd x2) z4 → ∀ (z6 : Int), z6 = IntKind.wrap IntKind.i64 (Prod.fst x2 + (1 : Int)) → ∃ (y7 : Int × Int), z5 = Prod.snd y7 ∧ (o = o ∧ n = n ∧ c = c) ∧ (o = o ∧ n = n ∧ c = c) ∧ (o = o ∧ n = n ∧ c = c) ∧ z0 = z0 ∧ z6 = Prod.fst y7 ∧ (o = o ∧ n = n ∧ c = c) ∧ (L = L ∧ cap = cap ∧ ro = ro) ∧ U.crcI (4294967295 : Int) L o n (Prod.fst y7) (Prod.snd y7) ∧ Int.toNat ((↑n : Int) - Prod.fst y7) < Int.toNat ((↑n : Int) - Prod.fst x2)) ∧ (¬Prod.fst x2 < z0 → ∀ (z8 : Int), z8 = xorI IntKind.u32 (4294967295 : Int) (Prod.snd x2) → K (Sum.inl (Sum.inl (Sum.inr (Sum.inr (Sum.inr (Sum.inr (Sum.inr (Sum.inr (Sum.inl (IntKind.u32, z8)))))))))) { heap := [some { elem := (22 : Nat), cells := [Sum.inr (Sum.inr (Sum.inr (Sum.inr (Sum.inr (Sum.inr (Sum.inr (Sum.inl { a := (0 : Nat), o := o, n := n, c := c })))))))], j := none, c := (1 : Nat), z := false }], ints := [], opqs := (0 : Nat), arrs := [some { elem := OfNat.ofNat (5 : Nat), k := IntKind.u8, l := L, cap := cap, ro := ro }], junks := (0 : Nat) })) := by kernel_rfl
end Go.Proofs.Ytpmnioadbkhpoaa
