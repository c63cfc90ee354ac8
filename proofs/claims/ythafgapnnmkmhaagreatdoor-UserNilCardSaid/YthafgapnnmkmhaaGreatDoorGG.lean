/- Parts of a proof, one behind the other: B5 B6 B7 B8 B9 BX T1 T2 R1 R2 TB0. No condition. -/
import Derived.Test.YthafgapnnmkmhaaGreatDoorGF
section
namespace Go.Proofs.YthafgapnnmkmhaaGreatDoor
open Go Reck
set_option linter.unusedVariables false
def tB4 : Tbl := tblOr tB2 (tblOr tAdd (tblOr tClone tNew0))
theorem tB4_ok : TblOk Tryz.prog tB4 := tblOr_ok tB2_ok (tblOr_ok tAdd_ok (tblOr_ok tClone_ok tNew0_ok))
structure U.bytI (L0 : List Int) (N0 : Int) (B : List Int) (o n : Nat) (k : Int) (L : List Int) (c cap : Nat) (N : Int) : Prop where
  out : ∃ (l0 : List Bool) (j : Nat), k = j ∧ j ≤ n ∧ U.Out L0 N0 l0 ∧ U.Out L N (l0 ++ nums 8 ((((B.drop o).take n).take j).map Int.toNat)) ∧ c ≤ cap ∧ L.length ≤ c ∧ N = N0 + 8 * k
def bytesInv (c : Code) (tm : List AV) (σ : St) : Inv where
  X := Int × List Int × Nat × Nat × Int
  tags := [0]
  tag _ _ := 0
  J := wrBut [40] c
  val _ x := [(40, xi .i64 x.1)]
  st _ x σ' := ⟨setCells σ' (ptrB 0 tm) [aslC ⟨σ.arrs.length, 0, x.2.1.length, x.2.2.1⟩, xintC .i64 x.2.2.2.2], σ'.ints, σ'.opqs, σ'.arrs.take σ.arrs.length ++ [some ⟨5, .n .u8, x.2.1, x.2.2.2.1, false⟩], σ'.junks⟩
  I _ x := U.bytI (cellL (cellAt 0 0 tm σ) σ) (cellI (cellAt 0 1 tm σ)) (slotA tm 38 σ) (slotS tm 38).o (slotS tm 38).n x.1 x.2.1 x.2.2.1 x.2.2.2.1 x.2.2.2.2
  m _ x := ((slotS tm 38).n - x.1).toNat
  ren tm' σ' := ([], cellA (cellAt 0 0 tm' σ'))
structure U.never : Prop where
  out : False
def neverInv (c : Code) (tm : List AV) : Inv where
  X := Nat
  tags := [0]
  tag _ _ := 0
  J := wrBut [] c
  val _ _ := []
  st _ _ σ' := σ'
  I _ _ := U.never
  m _ _ := 0
  ren := noRen
def invB5 : InvF := fun c tm σ => match tm.length, firstReg c with
  | 50, some 15 => if isAsl (tm.getD 38 (lit undef)) then some (bytesInv c tm σ) else none
  | 65, some 7 => some (neverInv c tm)
  | _, _ => invB3 c tm σ
set_option maxRecDepth 100000
theorem done_vc (K:AV→St→Prop) (L:List Int) (m c cap:Nat) (N:Int):(runI invB5 tB4 102 [ptr 0 0] (outSt L m c cap N) K)=((OfNat.ofNat (0:Nat) + m≤List.length L∧m≤(16777216:Nat))∧∀ (L'0:List Int) (c'1 cap'2:Nat),L'0=List.take m (List.drop (OfNat.ofNat (0:Nat)) L)→m≤c'1→c'1≤cap'2→K (Sum.inl (Sum.inl (Sum.inr (Sum.inr (Sum.inr (Sum.inr (Sum.inr (Sum.inr (Sum.inr (Sum.inl { a := (1:Nat),o := OfNat.ofNat (0:Nat),n := m,c := c'1 })))))))))) { heap := [some { elem := nat_lit 173,cells := [Sum.inr (Sum.inr (Sum.inr (Sum.inr (Sum.inr (Sum.inr (Sum.inr (Sum.inl { a := OfNat.ofNat (0:Nat),o := OfNat.ofNat (0:Nat),n := m,c := c }))))))),Sum.inr (Sum.inr (Sum.inr (Sum.inr (Sum.inr (Sum.inr (Sum.inl (IntKind.i64,N)))))))],j := none,c := OfNat.ofNat (2:Nat),z := false }],ints := [],opqs := (0:Nat),arrs := [some { elem := OfNat.ofNat (5:Nat),k := AK.n IntKind.u8,l := L,cap := cap,ro := false },some { elem := OfNat.ofNat (5:Nat),k := AK.n IntKind.u8,l := L'0,cap := cap'2,ro := false }],junks := (0:Nat) }) := by kernel_rfl
theorem bits1_vc (K:AV→St→Prop) (L:List Int) (m c cap:Nat) (N n u:Int):(runI invB5 tB4 100 [ptr 0 0,xi .i64 n,sl ⟨1,0,1,none,1⟩] ⟨[outB (aslC ⟨0,0,m,c⟩) N,some ⟨27,[xintC .u64 u],none,1,false⟩],[],0,[some (bs L cap false)],0⟩ K)=(((1:Int)≤n→(n≤(64:Int)→∀ (z0:Int),z0=IntKind.wrap IntKind.i64 ((524288:Int) - N)→¬n=(0:Int)∧∀ (z1:Int),z1=IntKind.wrap IntKind.i64 (Int.tdiv z0 n)→(z1<(1:Int)→K (Sum.inl (Sum.inl (Sum.inr (Sum.inr (Sum.inr (Sum.inr (Sum.inr (Sum.inr (Sum.inl (IntKind.i64,(4:Int))))))))))) { heap := [some { elem := nat_lit 173,cells := [Sum.inr (Sum.inr (Sum.inr (Sum.inr (Sum.inr (Sum.inr (Sum.inr (Sum.inl { a := OfNat.ofNat (0:Nat),o := OfNat.ofNat (0:Nat),n := m,c := c }))))))),Sum.inr (Sum.inr (Sum.inr (Sum.inr (Sum.inr (Sum.inr (Sum.inl (IntKind.i64,N)))))))],j := none,c := OfNat.ofNat (2:Nat),z := false },some { elem := nat_lit 27,cells := [Sum.inr (Sum.inr (Sum.inr (Sum.inr (Sum.inr (Sum.inr (Sum.inl (IntKind.u64,u)))))))],j := none,c := OfNat.ofNat (1:Nat),z := false }],ints := [],opqs := (0:Nat),arrs := [some { elem := OfNat.ofNat (5:Nat),k := AK.n IntKind.u8,l := L,cap := cap,ro := false }],junks := (0:Nat) })∧(¬z1<(1:Int)→∃ (y2:List Bool),(U.Out L N y2∧m=List.length L∧c≤cap∧m≤c∧((1:Int)≤n∧n≤(64:Int))∧N + n≤(524288:Int)∧(0:Int)≤u∧u≤(18446744073709551615:Int))∧∀ (L'3:List Int) (m'4 c'5 cap'6:Nat) (N'7:Int),U.Out L'3 N'7 (U.app y2 n u)→N'7=N + n→m'4=List.length L'3→c'5≤cap'6→m'4≤c'5→K (Sum.inl (Sum.inl (Sum.inr (Sum.inr (Sum.inr (Sum.inr (Sum.inr (Sum.inr (Sum.inl (IntKind.i64,(0:Int))))))))))) { heap := [some { elem := nat_lit 173,cells := [Sum.inr (Sum.inr (Sum.inr (Sum.inr (Sum.inr (Sum.inr (Sum.inr (Sum.inl { a := (1:Nat),o := OfNat.ofNat (0:Nat),n := m'4,c := c'5 }))))))),Sum.inr (Sum.inr (Sum.inr (Sum.inr (Sum.inr (Sum.inr (Sum.inl (IntKind.i64,N'7)))))))],j := none,c := OfNat.ofNat (2:Nat),z := false },some { elem := nat_lit 27,cells := [Sum.inr (Sum.inr (Sum.inr (Sum.inr (Sum.inr (Sum.inr (Sum.inl (IntKind.u64,u)))))))],j := none,c := OfNat.ofNat (1:Nat),z := false }],ints := [],opqs := (0:Nat),arrs := [none,some { elem := OfNat.ofNat (5:Nat),k := AK.n IntKind.u8,l := L'3,cap := cap'6,ro := false }],junks := (0:Nat) }))∧(¬n≤(64:Int)→K (Sum.inl (Sum.inl (Sum.inr (Sum.inr (Sum.inr (Sum.inr (Sum.inr (Sum.inr (Sum.inl (IntKind.i64,(1:Int))))))))))) { heap := [some { elem := nat_lit 173,cells := [Sum.inr (Sum.inr (Sum.inr (Sum.inr (Sum.inr (Sum.inr (Sum.inr (Sum.inl { a := OfNat.ofNat (0:Nat),o := OfNat.ofNat (0:Nat),n := m,c := c }))))))),Sum.inr (Sum.inr (Sum.inr (Sum.inr (Sum.inr (Sum.inr (Sum.inl (IntKind.i64,N)))))))],j := none,c := OfNat.ofNat (2:Nat),z := false },some { elem := nat_lit 27,cells := [Sum.inr (Sum.inr (Sum.inr (Sum.inr (Sum.inr (Sum.inr (Sum.inl (IntKind.u64,u)))))))],j := none,c := OfNat.ofNat (1:Nat),z := false }],ints := [],opqs := (0:Nat),arrs := [some { elem := OfNat.ofNat (5:Nat),k := AK.n IntKind.u8,l := L,cap := cap,ro := false }],junks := (0:Nat) }))∧(¬(1:Int)≤n→K (Sum.inl (Sum.inl (Sum.inr (Sum.inr (Sum.inr (Sum.inr (Sum.inr (Sum.inr (Sum.inl (IntKind.i64,(1:Int))))))))))) { heap := [some { elem := nat_lit 173,cells := [Sum.inr (Sum.inr (Sum.inr (Sum.inr (Sum.inr (Sum.inr (Sum.inr (Sum.inl { a := OfNat.ofNat (0:Nat),o := OfNat.ofNat (0:Nat),n := m,c := c }))))))),Sum.inr (Sum.inr (Sum.inr (Sum.inr (Sum.inr (Sum.inr (Sum.inl (IntKind.i64,N)))))))],j := none,c := OfNat.ofNat (2:Nat),z := false },some { elem := nat_lit 27,cells := [Sum.inr (Sum.inr (Sum.inr (Sum.inr (Sum.inr (Sum.inr (Sum.inl (IntKind.u64,u)))))))],j := none,c := OfNat.ofNat (1:Nat),z := false }],ints := [],opqs := (0:Nat),arrs := [some { elem := OfNat.ofNat (5:Nat),k := AK.n IntKind.u8,l := L,cap := cap,ro := false }],junks := (0:Nat) })) := by kernel_rfl
theorem bits2_vc (K:AV→St→Prop) (L:List Int) (m c cap:Nat) (N n u v:Int):(runI invB5 tB4 100 [ptr 0 0,xi .i64 n,sl ⟨1,0,2,none,2⟩] ⟨[outB (aslC ⟨0,0,m,c⟩) N,some ⟨27,[xintC .u64 u,xintC .u64 v],none,2,false⟩],[],0,[some (bs L cap false)],0⟩ K)=(((1:Int)≤n→(n≤(64:Int)→∀ (z0:Int),z0=IntKind.wrap IntKind.i64 ((524288:Int) - N)→¬n=(0:Int)∧∀ (z1:Int),z1=IntKind.wrap IntKind.i64 (Int.tdiv z0 n)→(z1<(2:Int)→K (Sum.inl (Sum.inl (Sum.inr (Sum.inr (Sum.inr (Sum.inr (Sum.inr (Sum.inr (Sum.inl (IntKind.i64,(4:Int))))))))))) { heap := [some { elem := nat_lit 173,cells := [Sum.inr (Sum.inr (Sum.inr (Sum.inr (Sum.inr (Sum.inr (Sum.inr (Sum.inl { a := OfNat.ofNat (0:Nat),o := OfNat.ofNat (0:Nat),n := m,c := c }))))))),Sum.inr (Sum.inr (Sum.inr (Sum.inr (Sum.inr (Sum.inr (Sum.inl (IntKind.i64,N)))))))],j := none,c := OfNat.ofNat (2:Nat),z := false },some { elem := nat_lit 27,cells := [Sum.inr (Sum.inr (Sum.inr (Sum.inr (Sum.inr (Sum.inr (Sum.inl (IntKind.u64,u))))))),Sum.inr (Sum.inr (Sum.inr (Sum.inr (Sum.inr (Sum.inr (Sum.inl (IntKind.u64,v)))))))],j := none,c := OfNat.ofNat (2:Nat),z := false }],ints := [],opqs := (0:Nat),arrs := [some { elem := OfNat.ofNat (5:Nat),k := AK.n IntKind.u8,l := L,cap := cap,ro := false }],junks := (0:Nat) })∧(¬z1<(2:Int)→∃ (y2:List Bool),(U.Out L N y2∧m=List.length L∧c≤cap∧m≤c∧((1:Int)≤n∧n≤(64:Int))∧N + n≤(524288:Int)∧(0:Int)≤u∧u≤(18446744073709551615:Int))∧∀ (L'3:List Int) (m'4 c'5 cap'6:Nat) (N'7:Int),U.Out L'3 N'7 (U.app y2 n u)→N'7=N + n→m'4=List.length L'3→c'5≤cap'6→m'4≤c'5→∃ (y8:List Bool),(U.Out L'3 N'7 y8∧m'4=List.length L'3∧c'5≤cap'6∧m'4≤c'5∧((1:Int)≤n∧n≤(64:Int))∧N'7 + n≤(524288:Int)∧(0:Int)≤v∧v≤(18446744073709551615:Int))∧∀ (L'9:List Int) (m'10 c'11 cap'12:Nat) (N'13:Int),U.Out L'9 N'13 (U.app y8 n v)→N'13=N'7 + n→m'10=List.length L'9→c'11≤cap'12→m'10≤c'11→K (Sum.inl (Sum.inl (Sum.inr (Sum.inr (Sum.inr (Sum.inr (Sum.inr (Sum.inr (Sum.inl (IntKind.i64,(0:Int))))))))))) { heap := [some { elem := nat_lit 173,cells := [Sum.inr (Sum.inr (Sum.inr (Sum.inr (Sum.inr (Sum.inr (Sum.inr (Sum.inl { a := (1:Nat),o := OfNat.ofNat (0:Nat),n := m'10,c := c'11 }))))))),Sum.inr (Sum.inr (Sum.inr (Sum.inr (Sum.inr (Sum.inr (Sum.inl (IntKind.i64,N'13)))))))],j := none,c := OfNat.ofNat (2:Nat),z := false },some { elem := nat_lit 27,cells := [Sum.inr (Sum.inr (Sum.inr (Sum.inr (Sum.inr (Sum.inr (Sum.inl (IntKind.u64,u))))))),Sum.inr (Sum.inr (Sum.inr (Sum.inr (Sum.inr (Sum.inr (Sum.inl (IntKind.u64,v)))))))],j := none,c := OfNat.ofNat (2:Nat),z := false }],ints := [],opqs := (0:Nat),arrs := [none,some { elem := OfNat.ofNat (5:Nat),k := AK.n IntKind.u8,l := L'9,cap := cap'12,ro := false }],junks := (0:Nat) }))∧(¬n≤(64:Int)→K (Sum.inl (Sum.inl (Sum.inr (Sum.inr (Sum.inr (Sum.inr (Sum.inr (Sum.inr (Sum.inl (IntKind.i64,(1:Int))))))))))) { heap := [some { elem := nat_lit 173,cells := [Sum.inr (Sum.inr (Sum.inr (Sum.inr (Sum.inr (Sum.inr (Sum.inr (Sum.inl { a := OfNat.ofNat (0:Nat),o := OfNat.ofNat (0:Nat),n := m,c := c }))))))),Sum.inr (Sum.inr (Sum.inr (Sum.inr (Sum.inr (Sum.inr (Sum.inl (IntKind.i64,N)))))))],j := none,c := OfNat.ofNat (2:Nat),z := false },some { elem := nat_lit 27,cells := [Sum.inr (Sum.inr (Sum.inr (Sum.inr (Sum.inr (Sum.inr (Sum.inl (IntKind.u64,u))))))),Sum.inr (Sum.inr (Sum.inr (Sum.inr (Sum.inr (Sum.inr (Sum.inl (IntKind.u64,v)))))))],j := none,c := OfNat.ofNat (2:Nat),z := false }],ints := [],opqs := (0:Nat),arrs := [some { elem := OfNat.ofNat (5:Nat),k := AK.n IntKind.u8,l := L,cap := cap,ro := false }],junks := (0:Nat) }))∧(¬(1:Int)≤n→K (Sum.inl (Sum.inl (Sum.inr (Sum.inr (Sum.inr (Sum.inr (Sum.inr (Sum.inr (Sum.inl (IntKind.i64,(1:Int))))))))))) { heap := [some { elem := nat_lit 173,cells := [Sum.inr (Sum.inr (Sum.inr (Sum.inr (Sum.inr (Sum.inr (Sum.inr (Sum.inl { a := OfNat.ofNat (0:Nat),o := OfNat.ofNat (0:Nat),n := m,c := c }))))))),Sum.inr (Sum.inr (Sum.inr (Sum.inr (Sum.inr (Sum.inr (Sum.inl (IntKind.i64,N)))))))],j := none,c := OfNat.ofNat (2:Nat),z := false },some { elem := nat_lit 27,cells := [Sum.inr (Sum.inr (Sum.inr (Sum.inr (Sum.inr (Sum.inr (Sum.inl (IntKind.u64,u))))))),Sum.inr (Sum.inr (Sum.inr (Sum.inr (Sum.inr (Sum.inr (Sum.inl (IntKind.u64,v)))))))],j := none,c := OfNat.ofNat (2:Nat),z := false }],ints := [],opqs := (0:Nat),arrs := [some { elem := OfNat.ofNat (5:Nat),k := AK.n IntKind.u8,l := L,cap := cap,ro := false }],junks := (0:Nat) })) := by kernel_rfl
theorem bits3_vc (K:AV→St→Prop) (L:List Int) (m c cap:Nat) (N n u v x:Int):(runI invB5 tB4 100 [ptr 0 0,xi .i64 n,sl ⟨1,0,3,none,3⟩] ⟨[outB (aslC ⟨0,0,m,c⟩) N,some ⟨27,[xintC .u64 u,xintC .u64 v,xintC .u64 x],none,3,false⟩],[],0,[some (bs L cap false)],0⟩ K)=(((1:Int)≤n→(n≤(64:Int)→∀ (z0:Int),z0=IntKind.wrap IntKind.i64 ((524288:Int) - N)→¬n=(0:Int)∧∀ (z1:Int),z1=IntKind.wrap IntKind.i64 (Int.tdiv z0 n)→(z1<(3:Int)→K (Sum.inl (Sum.inl (Sum.inr (Sum.inr (Sum.inr (Sum.inr (Sum.inr (Sum.inr (Sum.inl (IntKind.i64,(4:Int))))))))))) { heap := [some { elem := nat_lit 173,cells := [Sum.inr (Sum.inr (Sum.inr (Sum.inr (Sum.inr (Sum.inr (Sum.inr (Sum.inl { a := OfNat.ofNat (0:Nat),o := OfNat.ofNat (0:Nat),n := m,c := c }))))))),Sum.inr (Sum.inr (Sum.inr (Sum.inr (Sum.inr (Sum.inr (Sum.inl (IntKind.i64,N)))))))],j := none,c := OfNat.ofNat (2:Nat),z := false },some { elem := nat_lit 27,cells := [Sum.inr (Sum.inr (Sum.inr (Sum.inr (Sum.inr (Sum.inr (Sum.inl (IntKind.u64,u))))))),Sum.inr (Sum.inr (Sum.inr (Sum.inr (Sum.inr (Sum.inr (Sum.inl (IntKind.u64,v))))))),Sum.inr (Sum.inr (Sum.inr (Sum.inr (Sum.inr (Sum.inr (Sum.inl (IntKind.u64,x)))))))],j := none,c := OfNat.ofNat (3:Nat),z := false }],ints := [],opqs := (0:Nat),arrs := [some { elem := OfNat.ofNat (5:Nat),k := AK.n IntKind.u8,l := L,cap := cap,ro := false }],junks := (0:Nat) })∧(¬z1<(3:Int)→∃ (y2:List Bool),(U.Out L N y2∧m=List.length L∧c≤cap∧m≤c∧((1:Int)≤n∧n≤(64:Int))∧N + n≤(524288:Int)∧(0:Int)≤u∧u≤(18446744073709551615:Int))∧∀ (L'3:List Int) (m'4 c'5 cap'6:Nat) (N'7:Int),U.Out L'3 N'7 (U.app y2 n u)→N'7=N + n→m'4=List.length L'3→c'5≤cap'6→m'4≤c'5→∃ (y8:List Bool),(U.Out L'3 N'7 y8∧m'4=List.length L'3∧c'5≤cap'6∧m'4≤c'5∧((1:Int)≤n∧n≤(64:Int))∧N'7 + n≤(524288:Int)∧(0:Int)≤v∧v≤(18446744073709551615:Int))∧∀ (L'9:List Int) (m'10 c'11 cap'12:Nat) (N'13:Int),U.Out L'9 N'13 (U.app y8 n v)→N'13=N'7 + n→m'10=List.length L'9→c'11≤cap'12→m'10≤c'11→∃ (y14:List Bool),(U.Out L'9 N'13 y14∧m'10=List.length L'9∧c'11≤cap'12∧m'10≤c'11∧((1:Int)≤n∧n≤(64:Int))∧N'13 + n≤(524288:Int)∧(0:Int)≤x∧x≤(18446744073709551615:Int))∧∀ (L'15:List Int) (m'16 c'17 cap'18:Nat) (N'19:Int),U.Out L'15 N'19 (U.app y14 n x)→N'19=N'13 + n→m'16=List.length L'15→c'17≤cap'18→m'16≤c'17→K (Sum.inl (Sum.inl (Sum.inr (Sum.inr (Sum.inr (Sum.inr (Sum.inr (Sum.inr (Sum.inl (IntKind.i64,(0:Int))))))))))) { heap := [some { elem := nat_lit 173,cells := [Sum.inr (Sum.inr (Sum.inr (Sum.inr (Sum.inr (Sum.inr (Sum.inr (Sum.inl { a := (1:Nat),o := OfNat.ofNat (0:Nat),n := m'16,c := c'17 }))))))),Sum.inr (Sum.inr (Sum.inr (Sum.inr (Sum.inr (Sum.inr (Sum.inl (IntKind.i64,N'19)))))))],j := none,c := OfNat.ofNat (2:Nat),z := false },some { elem := nat_lit 27,cells := [Sum.inr (Sum.inr (Sum.inr (Sum.inr (Sum.inr (Sum.inr (Sum.inl (IntKind.u64,u))))))),Sum.inr (Sum.inr (Sum.inr (Sum.inr (Sum.inr (Sum.inr (Sum.inl (IntKind.u64,v))))))),Sum.inr (Sum.inr (Sum.inr (Sum.inr (Sum.inr (Sum.inr (Sum.inl (IntKind.u64,x)))))))],j := none,c := OfNat.ofNat (3:Nat),z := false }],ints := [],opqs := (0:Nat),arrs := [none,some { elem := OfNat.ofNat (5:Nat),k := AK.n IntKind.u8,l := L'15,cap := cap'18,ro := false }],junks := (0:Nat) }))∧(¬n≤(64:Int)→K (Sum.inl (Sum.inl (Sum.inr (Sum.inr (Sum.inr (Sum.inr (Sum.inr (Sum.inr (Sum.inl (IntKind.i64,(1:Int))))))))))) { heap := [some { elem := nat_lit 173,cells := [Sum.inr (Sum.inr (Sum.inr (Sum.inr (Sum.inr (Sum.inr (Sum.inr (Sum.inl { a := OfNat.ofNat (0:Nat),o := OfNat.ofNat (0:Nat),n := m,c := c }))))))),Sum.inr (Sum.inr (Sum.inr (Sum.inr (Sum.inr (Sum.inr (Sum.inl (IntKind.i64,N)))))))],j := none,c := OfNat.ofNat (2:Nat),z := false },some { elem := nat_lit 27,cells := [Sum.inr (Sum.inr (Sum.inr (Sum.inr (Sum.inr (Sum.inr (Sum.inl (IntKind.u64,u))))))),Sum.inr (Sum.inr (Sum.inr (Sum.inr (Sum.inr (Sum.inr (Sum.inl (IntKind.u64,v))))))),Sum.inr (Sum.inr (Sum.inr (Sum.inr (Sum.inr (Sum.inr (Sum.inl (IntKind.u64,x)))))))],j := none,c := OfNat.ofNat (3:Nat),z := false }],ints := [],opqs := (0:Nat),arrs := [some { elem := OfNat.ofNat (5:Nat),k := AK.n IntKind.u8,l := L,cap := cap,ro := false }],junks := (0:Nat) }))∧(¬(1:Int)≤n→K (Sum.inl (Sum.inl (Sum.inr (Sum.inr (Sum.inr (Sum.inr (Sum.inr (Sum.inr (Sum.inl (IntKind.i64,(1:Int))))))))))) { heap := [some { elem := nat_lit 173,cells := [Sum.inr (Sum.inr (Sum.inr (Sum.inr (Sum.inr (Sum.inr (Sum.inr (Sum.inl { a := OfNat.ofNat (0:Nat),o := OfNat.ofNat (0:Nat),n := m,c := c }))))))),Sum.inr (Sum.inr (Sum.inr (Sum.inr (Sum.inr (Sum.inr (Sum.inl (IntKind.i64,N)))))))],j := none,c := OfNat.ofNat (2:Nat),z := false },some { elem := nat_lit 27,cells := [Sum.inr (Sum.inr (Sum.inr (Sum.inr (Sum.inr (Sum.inr (Sum.inl (IntKind.u64,u))))))),Sum.inr (Sum.inr (Sum.inr (Sum.inr (Sum.inr (Sum.inr (Sum.inl (IntKind.u64,v))))))),Sum.inr (Sum.inr (Sum.inr (Sum.inr (Sum.inr (Sum.inr (Sum.inl (IntKind.u64,x)))))))],j := none,c := OfNat.ofNat (3:Nat),z := false }],ints := [],opqs := (0:Nat),arrs := [some { elem := OfNat.ofNat (5:Nat),k := AK.n IntKind.u8,l := L,cap := cap,ro := false }],junks := (0:Nat) })) := by kernel_rfl
theorem bits4_vc (K:AV→St→Prop) (L:List Int) (m c cap:Nat) (N n u v x y:Int):(runI invB5 tB4 100 [ptr 0 0,xi .i64 n,sl ⟨1,0,4,none,4⟩] ⟨[outB (aslC ⟨0,0,m,c⟩) N,some ⟨27,[xintC .u64 u,xintC .u64 v,xintC .u64 x,xintC .u64 y],none,4,false⟩],[],0,[some (bs L cap false)],0⟩ K)=(((1:Int)≤n→(n≤(64:Int)→∀ (z0:Int),z0=IntKind.wrap IntKind.i64 ((524288:Int) - N)→¬n=(0:Int)∧∀ (z1:Int),z1=IntKind.wrap IntKind.i64 (Int.tdiv z0 n)→(z1<(4:Int)→K (Sum.inl (Sum.inl (Sum.inr (Sum.inr (Sum.inr (Sum.inr (Sum.inr (Sum.inr (Sum.inl (IntKind.i64,(4:Int))))))))))) { heap := [some { elem := nat_lit 173,cells := [Sum.inr (Sum.inr (Sum.inr (Sum.inr (Sum.inr (Sum.inr (Sum.inr (Sum.inl { a := OfNat.ofNat (0:Nat),o := OfNat.ofNat (0:Nat),n := m,c := c }))))))),Sum.inr (Sum.inr (Sum.inr (Sum.inr (Sum.inr (Sum.inr (Sum.inl (IntKind.i64,N)))))))],j := none,c := OfNat.ofNat (2:Nat),z := false },some { elem := nat_lit 27,cells := [Sum.inr (Sum.inr (Sum.inr (Sum.inr (Sum.inr (Sum.inr (Sum.inl (IntKind.u64,u))))))),Sum.inr (Sum.inr (Sum.inr (Sum.inr (Sum.inr (Sum.inr (Sum.inl (IntKind.u64,v))))))),Sum.inr (Sum.inr (Sum.inr (Sum.inr (Sum.inr (Sum.inr (Sum.inl (IntKind.u64,x))))))),Sum.inr (Sum.inr (Sum.inr (Sum.inr (Sum.inr (Sum.inr (Sum.inl (IntKind.u64,y)))))))],j := none,c := OfNat.ofNat (4:Nat),z := false }],ints := [],opqs := (0:Nat),arrs := [some { elem := OfNat.ofNat (5:Nat),k := AK.n IntKind.u8,l := L,cap := cap,ro := false }],junks := (0:Nat) })∧(¬z1<(4:Int)→∃ (y2:List Bool),(U.Out L N y2∧m=List.length L∧c≤cap∧m≤c∧((1:Int)≤n∧n≤(64:Int))∧N + n≤(524288:Int)∧(0:Int)≤u∧u≤(18446744073709551615:Int))∧∀ (L'3:List Int) (m'4 c'5 cap'6:Nat) (N'7:Int),U.Out L'3 N'7 (U.app y2 n u)→N'7=N + n→m'4=List.length L'3→c'5≤cap'6→m'4≤c'5→∃ (y8:List Bool),(U.Out L'3 N'7 y8∧m'4=List.length L'3∧c'5≤cap'6∧m'4≤c'5∧((1:Int)≤n∧n≤(64:Int))∧N'7 + n≤(524288:Int)∧(0:Int)≤v∧v≤(18446744073709551615:Int))∧∀ (L'9:List Int) (m'10 c'11 cap'12:Nat) (N'13:Int),U.Out L'9 N'13 (U.app y8 n v)→N'13=N'7 + n→m'10=List.length L'9→c'11≤cap'12→m'10≤c'11→∃ (y14:List Bool),(U.Out L'9 N'13 y14∧m'10=List.length L'9∧c'11≤cap'12∧m'10≤c'11∧((1:Int)≤n∧n≤(64:Int))∧N'13 + n≤(524288:Int)∧(0:Int)≤x∧x≤(18446744073709551615:Int))∧∀ (L'15:List Int) (m'16 c'17 cap'18:Nat) (N'19:Int),U.Out L'15 N'19 (U.app y14 n x)→N'19=N'13 + n→m'16=List.length L'15→c'17≤cap'18→m'16≤c'17→∃ (y20:List Bool),(U.Out L'15 N'19 y20∧m'16=List.length L'15∧c'17≤cap'18∧m'16≤c'17∧((1:Int)≤n∧n≤(64:Int))∧N'19 + n≤(524288:Int)∧(0:Int)≤y∧y≤(18446744073709551615:Int))∧∀ (L'21:List Int) (m'22 c'23 cap'24:Nat) (N'25:Int),U.Out L'21 N'25 (U.app y20 n y)→N'25=N'19 + n→m'22=List.length L'21→c'23≤cap'24→m'22≤c'23→K (Sum.inl (Sum.inl (Sum.inr (Sum.inr (Sum.inr (Sum.inr (Sum.inr (Sum.inr (Sum.inl (IntKind.i64,(0:Int))))))))))) { heap := [some { elem := nat_lit 173,cells := [Sum.inr (Sum.inr (Sum.inr (Sum.inr (Sum.inr (Sum.inr (Sum.inr (Sum.inl { a := (1:Nat),o := OfNat.ofNat (0:Nat),n := m'22,c := c'23 }))))))),Sum.inr (Sum.inr (Sum.inr (Sum.inr (Sum.inr (Sum.inr (Sum.inl (IntKind.i64,N'25)))))))],j := none,c := OfNat.ofNat (2:Nat),z := false },some { elem := nat_lit 27,cells := [Sum.inr (Sum.inr (Sum.inr (Sum.inr (Sum.inr (Sum.inr (Sum.inl (IntKind.u64,u))))))),Sum.inr (Sum.inr (Sum.inr (Sum.inr (Sum.inr (Sum.inr (Sum.inl (IntKind.u64,v))))))),Sum.inr (Sum.inr (Sum.inr (Sum.inr (Sum.inr (Sum.inr (Sum.inl (IntKind.u64,x))))))),Sum.inr (Sum.inr (Sum.inr (Sum.inr (Sum.inr (Sum.inr (Sum.inl (IntKind.u64,y)))))))],j := none,c := OfNat.ofNat (4:Nat),z := false }],ints := [],opqs := (0:Nat),arrs := [none,some { elem := OfNat.ofNat (5:Nat),k := AK.n IntKind.u8,l := L'21,cap := cap'24,ro := false }],junks := (0:Nat) }))∧(¬n≤(64:Int)→K (Sum.inl (Sum.inl (Sum.inr (Sum.inr (Sum.inr (Sum.inr (Sum.inr (Sum.inr (Sum.inl (IntKind.i64,(1:Int))))))))))) { heap := [some { elem := nat_lit 173,cells := [Sum.inr (Sum.inr (Sum.inr (Sum.inr (Sum.inr (Sum.inr (Sum.inr (Sum.inl { a := OfNat.ofNat (0:Nat),o := OfNat.ofNat (0:Nat),n := m,c := c }))))))),Sum.inr (Sum.inr (Sum.inr (Sum.inr (Sum.inr (Sum.inr (Sum.inl (IntKind.i64,N)))))))],j := none,c := OfNat.ofNat (2:Nat),z := false },some { elem := nat_lit 27,cells := [Sum.inr (Sum.inr (Sum.inr (Sum.inr (Sum.inr (Sum.inr (Sum.inl (IntKind.u64,u))))))),Sum.inr (Sum.inr (Sum.inr (Sum.inr (Sum.inr (Sum.inr (Sum.inl (IntKind.u64,v))))))),Sum.inr (Sum.inr (Sum.inr (Sum.inr (Sum.inr (Sum.inr (Sum.inl (IntKind.u64,x))))))),Sum.inr (Sum.inr (Sum.inr (Sum.inr (Sum.inr (Sum.inr (Sum.inl (IntKind.u64,y)))))))],j := none,c := OfNat.ofNat (4:Nat),z := false }],ints := [],opqs := (0:Nat),arrs := [some { elem := OfNat.ofNat (5:Nat),k := AK.n IntKind.u8,l := L,cap := cap,ro := false }],junks := (0:Nat) }))∧(¬(1:Int)≤n→K (Sum.inl (Sum.inl (Sum.inr (Sum.inr (Sum.inr (Sum.inr (Sum.inr (Sum.inr (Sum.inl (IntKind.i64,(1:Int))))))))))) { heap := [some { elem := nat_lit 173,cells := [Sum.inr (Sum.inr (Sum.inr (Sum.inr (Sum.inr (Sum.inr (Sum.inr (Sum.inl { a := OfNat.ofNat (0:Nat),o := OfNat.ofNat (0:Nat),n := m,c := c }))))))),Sum.inr (Sum.inr (Sum.inr (Sum.inr (Sum.inr (Sum.inr (Sum.inl (IntKind.i64,N)))))))],j := none,c := OfNat.ofNat (2:Nat),z := false },some { elem := nat_lit 27,cells := [Sum.inr (Sum.inr (Sum.inr (Sum.inr (Sum.inr (Sum.inr (Sum.inl (IntKind.u64,u))))))),Sum.inr (Sum.inr (Sum.inr (Sum.inr (Sum.inr (Sum.inr (Sum.inl (IntKind.u64,v))))))),Sum.inr (Sum.inr (Sum.inr (Sum.inr (Sum.inr (Sum.inr (Sum.inl (IntKind.u64,x))))))),Sum.inr (Sum.inr (Sum.inr (Sum.inr (Sum.inr (Sum.inr (Sum.inl (IntKind.u64,y)))))))],j := none,c := OfNat.ofNat (4:Nat),z := false }],ints := [],opqs := (0:Nat),arrs := [some { elem := OfNat.ofNat (5:Nat),k := AK.n IntKind.u8,l := L,cap := cap,ro := false }],junks := (0:Nat) })) := by kernel_rfl
end Go.Proofs.YthafgapnnmkmhaaGreatDoor
end
section
set_option linter.unusedVariables false
set_option linter.unusedSimpArgs false
namespace Go.Proofs.YthafgapnnmkmhaaGreatDoor
open Go Reck
theorem calls_open {P : Program} {f : FuncId} {vs : Array Value} {w0 w : World} {e : Env} {K : AV → St → Prop}
    (h : Calls P f vs w fun en w' => ∃ x σ' e' v, en = .returned v ∧ e.le e' ∧ Reck.av e' x = some v ∧ Ok w0 e' σ' w' ∧ K (openV x) (openSt σ')) :
    Calls P f vs w fun en w' => ∃ x σ' e' v, en = .returned v ∧ e.le e' ∧ Reck.av e' x = some v ∧ Ok w0 e' σ' w' ∧ K x σ' := by
  refine h.mono ?_
  rintro en w' ⟨x, σ', e', v, h1, h2, h3, h4, h5⟩
  exact ⟨_, _, e', v, h1, h2, by rw [openV_av]; exact h3, openSt_ok h4, h5⟩
def opn (K : AV → St → Prop) : AV → St → Prop := fun x σ => K (openV x) (openSt σ)
def U.inV (L : List Int) (a e n : Int) : Int := if e = 0 ∧ a + n ≤ 8 * L.length then U.loa L a n else 0
def U.inA (L : List Int) (a e n : Int) : Int := if e = 0 ∧ a + n ≤ 8 * L.length then a + n else a
def U.inE (L : List Int) (a e n : Int) : Int := if e = 0 then (if a + n ≤ 8 * L.length then 0 else 7) else e
end Go.Proofs.YthafgapnnmkmhaaGreatDoor
end
section
set_option linter.unusedVariables false
set_option linter.unusedSimpArgs false
namespace Go.Proofs.YthafgapnnmkmhaaGreatDoor
open Go Reck
def U.inB (L : List Int) (a e n : Int) : List Int := if e = 0 ∧ a + 8 * n ≤ 8 * L.length then (L.drop (a.toNat / 8)).take n.toNat else []
theorem done_run (K : AV → St → Prop) (L : List Int) (m c cap : Nat) (N : Int) (hm : m = L.length) (hl : m ≤ 16777216)
    (h : ∀ (L' : List Int) (c' cap' : Nat), L' = L → m ≤ c' → c' ≤ cap' → K (cell (aslC ⟨1, 0, m, c'⟩)) ⟨[outB (aslC ⟨0, 0, m, c⟩) N], [], 0, [some (bs L cap false), some (bs L' cap' false)], 0⟩) : runI invB5 tB4 102 [ptr 0 0] (outSt L m c cap N) K := by
  rw [done_vc]
  refine ⟨⟨by show 0 + m ≤ L.length; omega, hl⟩, fun L' c' cap' h1 h2 h3 => h L' c' cap' ?_ h2 h3⟩
  rw [h1, hm]
  show List.take L.length (List.drop 0 L) = L
  simp
end Go.Proofs.YthafgapnnmkmhaaGreatDoor
end
section
set_option linter.unusedVariables false
set_option linter.unusedSimpArgs false
namespace Go.Proofs.YthafgapnnmkmhaaGreatDoor
open Go Reck
def U.apps (l : List Bool) (n : Int) (vs : List Int) : List Bool := vs.foldl (fun l v => U.app l n v) l
def vB (vs : List Int) : Option Blk := some ⟨27, vs.map (xintC .u64), none, vs.length, false⟩
def bitsPre (L : List Int) (N : Int) (m c cap : Nat) (l : List Bool) (n : Int) (vs : List Int) : Prop := U.Out L N l ∧ m = L.length ∧ c ≤ cap ∧ m ≤ c ∧ (1 ≤ n ∧ n ≤ 64) ∧ N + vs.length * n ≤ 524288 ∧ ∀ v ∈ vs, 0 ≤ v ∧ v ≤ 18446744073709551615
def bitsPost (K : AV → St → Prop) (N : Int) (l : List Bool) (n : Int) (vs : List Int) : Prop := ∀ (L' : List Int) (m' c' cap' : Nat) (N' : Int), U.Out L' N' (U.apps l n vs) → N' = N + vs.length * n → m' = L'.length → c' ≤ cap' → m' ≤ c' → K (xi .i64 0) ⟨[outB (aslC ⟨1, 0, m', c'⟩) N', vB vs], [], 0, [none, some (bs L' cap' false)], 0⟩
def bitsSt (L : List Int) (m c cap : Nat) (N : Int) (vs : List Int) : St := ⟨[outB (aslC ⟨0, 0, m, c⟩) N, vB vs], [], 0, [some (bs L cap false)], 0⟩
theorem room_ok {N n z0 z1 : Int} {k : Nat} (hN : 0 ≤ N) (hn : 1 ≤ n ∧ n ≤ 64) (hr : N + k * n ≤ 524288) (h0 : z0 = IntKind.wrap .i64 (524288 - N)) (h1 : z1 = IntKind.wrap .i64 (Int.tdiv z0 n)) : ¬ z1 < k := by
  have hkn : 0 ≤ (k : Int) * n := Int.mul_nonneg (by omega) (by omega)
  have e0 := w64 h0 (by omega)
  have hd : Int.tdiv z0 n = z0 / n := Int.tdiv_eq_ediv_of_nonneg (by omega)
  have hd0 : 0 ≤ z0 / n := Int.ediv_nonneg (by omega) (by omega)
  have hd1 : z0 / n ≤ z0 := Int.ediv_le_self _ (by omega)
  have e1 := w64 h1 (by rw [hd]; omega)
  rw [hd] at e1
  have : (k : Int) ≤ z0 / n := (Int.le_ediv_iff_mul_le (by omega)).2 (by omega)
  omega
theorem out_nonneg {L : List Int} {N : Int} {l : List Bool} (h : U.Out L N l) : 0 ≤ N := by
  obtain ⟨cs, _, _, h, _⟩ := h; omega
theorem bits1_run (K : AV → St → Prop) (L : List Int) (l : List Bool) (m c cap : Nat) (N n u : Int) (h : bitsPre L N m c cap l n [u]) (hk : bitsPost K N l n [u]) :
    runI invB5 tB4 100 [ptr 0 0, xi .i64 n, sl ⟨1, 0, 1, none, 1⟩] (bitsSt L m c cap N [u]) (opn K) := by
  obtain ⟨h1, h2, h3, h4, h5, h6, h7⟩ := h
  unfold bitsSt
  show runI invB5 tB4 100 [ptr 0 0, xi .i64 n, sl ⟨1, 0, 1, none, 1⟩] ⟨[outB (aslC ⟨0, 0, m, c⟩) N, some ⟨27, [xintC .u64 u], none, 1, false⟩], [], 0, [some (bs L cap false)], 0⟩ _
  rw [bits1_vc]
  have hN := out_nonneg h1
  simp only [List.length_cons, List.length_nil, Nat.zero_add] at h6
  refine ⟨fun _ => ⟨fun _ z0 hz0 => ⟨by omega, fun z1 hz1 => ⟨fun hlt => absurd hlt (room_ok hN h5 h6 hz0 hz1), fun _ => ⟨l, ⟨h1, h2, h3, h4, h5, by simpa using h6, h7 u (by simp)⟩, fun La ma ca pa Na ka1 ka2 ka3 ka4 ka5 => ?_⟩⟩⟩, fun hh => by omega⟩, fun hh => by omega⟩
  exact hk La ma ca pa Na ka1 (by simp; omega) ka3 ka4 ka5
theorem bits2_run (K : AV → St → Prop) (L : List Int) (l : List Bool) (m c cap : Nat) (N n u v : Int) (h : bitsPre L N m c cap l n [u, v]) (hk : bitsPost K N l n [u, v]) :
    runI invB5 tB4 100 [ptr 0 0, xi .i64 n, sl ⟨1, 0, 2, none, 2⟩] (bitsSt L m c cap N [u, v]) (opn K) := by
  obtain ⟨h1, h2, h3, h4, h5, h6, h7⟩ := h
  unfold bitsSt
  show runI invB5 tB4 100 [ptr 0 0, xi .i64 n, sl ⟨1, 0, 2, none, 2⟩] ⟨[outB (aslC ⟨0, 0, m, c⟩) N, some ⟨27, [xintC .u64 u, xintC .u64 v], none, 2, false⟩], [], 0, [some (bs L cap false)], 0⟩ _
  rw [bits2_vc]
  have hN := out_nonneg h1
  simp only [List.length_cons, List.length_nil, Nat.zero_add] at h6
  refine ⟨fun _ => ⟨fun _ z0 hz0 => ⟨by omega, fun z1 hz1 => ⟨fun hlt => absurd hlt (room_ok hN h5 h6 hz0 hz1), fun _ => ⟨l, ⟨h1, h2, h3, h4, h5, by omega, h7 u (by simp)⟩, fun La ma ca pa Na ka1 ka2 ka3 ka4 ka5 =>
    ⟨_, ⟨ka1, ka3, ka4, ka5, h5, by omega, h7 v (by simp)⟩, fun Lb mb cb pb Nb kb1 kb2 kb3 kb4 kb5 => ?_⟩⟩⟩⟩, fun hh => by omega⟩, fun hh => by omega⟩
  exact hk Lb mb cb pb Nb kb1 (by simp only [List.length_cons, List.length_nil]; omega) kb3 kb4 kb5
theorem bits3_run (K : AV → St → Prop) (L : List Int) (l : List Bool) (m c cap : Nat) (N n u v x : Int) (h : bitsPre L N m c cap l n [u, v, x]) (hk : bitsPost K N l n [u, v, x]) :
    runI invB5 tB4 100 [ptr 0 0, xi .i64 n, sl ⟨1, 0, 3, none, 3⟩] (bitsSt L m c cap N [u, v, x]) (opn K) := by
  obtain ⟨h1, h2, h3, h4, h5, h6, h7⟩ := h
  unfold bitsSt
  show runI invB5 tB4 100 [ptr 0 0, xi .i64 n, sl ⟨1, 0, 3, none, 3⟩] ⟨[outB (aslC ⟨0, 0, m, c⟩) N, some ⟨27, [xintC .u64 u, xintC .u64 v, xintC .u64 x], none, 3, false⟩], [], 0, [some (bs L cap false)], 0⟩ _
  rw [bits3_vc]
  have hN := out_nonneg h1
  simp only [List.length_cons, List.length_nil, Nat.zero_add] at h6
  refine ⟨fun _ => ⟨fun _ z0 hz0 => ⟨by omega, fun z1 hz1 => ⟨fun hlt => absurd hlt (room_ok hN h5 h6 hz0 hz1), fun _ => ⟨l, ⟨h1, h2, h3, h4, h5, by omega, h7 u (by simp)⟩, fun La ma ca pa Na ka1 ka2 ka3 ka4 ka5 =>
    ⟨_, ⟨ka1, ka3, ka4, ka5, h5, by omega, h7 v (by simp)⟩, fun Lb mb cb pb Nb kb1 kb2 kb3 kb4 kb5 => ⟨_, ⟨kb1, kb3, kb4, kb5, h5, by omega, h7 x (by simp)⟩, fun Lc mc cc pc Nc kc1 kc2 kc3 kc4 kc5 => ?_⟩⟩⟩⟩⟩, fun hh => by omega⟩, fun hh => by omega⟩
  exact hk Lc mc cc pc Nc kc1 (by simp only [List.length_cons, List.length_nil]; omega) kc3 kc4 kc5
theorem bits4_run (K : AV → St → Prop) (L : List Int) (l : List Bool) (m c cap : Nat) (N n u v x y : Int) (h : bitsPre L N m c cap l n [u, v, x, y]) (hk : bitsPost K N l n [u, v, x, y]) :
    runI invB5 tB4 100 [ptr 0 0, xi .i64 n, sl ⟨1, 0, 4, none, 4⟩] (bitsSt L m c cap N [u, v, x, y]) (opn K) := by
  obtain ⟨h1, h2, h3, h4, h5, h6, h7⟩ := h
  unfold bitsSt
  show runI invB5 tB4 100 [ptr 0 0, xi .i64 n, sl ⟨1, 0, 4, none, 4⟩] ⟨[outB (aslC ⟨0, 0, m, c⟩) N, some ⟨27, [xintC .u64 u, xintC .u64 v, xintC .u64 x, xintC .u64 y], none, 4, false⟩], [], 0, [some (bs L cap false)], 0⟩ _
  rw [bits4_vc]
  have hN := out_nonneg h1
  simp only [List.length_cons, List.length_nil, Nat.zero_add] at h6
  refine ⟨fun _ => ⟨fun _ z0 hz0 => ⟨by omega, fun z1 hz1 => ⟨fun hlt => absurd hlt (room_ok hN h5 h6 hz0 hz1), fun _ => ⟨l, ⟨h1, h2, h3, h4, h5, by omega, h7 u (by simp)⟩, fun La ma ca pa Na ka1 ka2 ka3 ka4 ka5 =>
    ⟨_, ⟨ka1, ka3, ka4, ka5, h5, by omega, h7 v (by simp)⟩, fun Lb mb cb pb Nb kb1 kb2 kb3 kb4 kb5 => ⟨_, ⟨kb1, kb3, kb4, kb5, h5, by omega, h7 x (by simp)⟩, fun Lc mc cc pc Nc kc1 kc2 kc3 kc4 kc5 => ⟨_, ⟨kc1, kc3, kc4, kc5, h5, by omega, h7 y (by simp)⟩, fun Ld md cd pd Nd kd1 kd2 kd3 kd4 kd5 => ?_⟩⟩⟩⟩⟩⟩, fun hh => by omega⟩, fun hh => by omega⟩
  exact hk Ld md cd pd Nd kd1 (by simp only [List.length_cons, List.length_nil]; omega) kd3 kd4 kd5
def tInBits : Tbl := fun _ _ _ => none
def tInSkip : Tbl := fun _ _ _ => none
def tInBytes : Tbl := fun _ _ _ => none
def tOf : Tbl := fun _ _ _ => none
def tDone : Tbl := fun f args σ => if f == 102 then match args, σ with
    | [.inl (.inl (.inr (.inl (0, 0))))], ⟨[some ⟨173, [s, N], none, 2, false⟩], [], 0, [some ⟨5, .n .u8, L, cap, false⟩], 0⟩ => match aslX (cell s), xiX (cell N) with
      | some ⟨0, 0, m, c⟩, some (.i64, N) => some fun K => (m = L.length ∧ m ≤ 16777216) ∧ ∀ (L' : List Int) (c' cap' : Nat), L' = L → m ≤ c' → c' ≤ cap' → K (cell (aslC ⟨1, 0, m, c'⟩)) ⟨[outB (aslC ⟨0, 0, m, c⟩) N], [], 0, [some (bs L cap false), some (bs L' cap' false)], 0⟩
      | _, _ => none
    | _, _ => none
  else none
def tSet : Tbl := fun _ _ _ => none
def intsX : List Cell → Option (List Int)
  | [] => some []
  | c :: l => match xiX (cell c), intsX l with
    | some (.u64, v), some vs => some (v :: vs)
    | _, _ => none
theorem intsX_eq : ∀ {l : List Cell} {vs : List Int}, intsX l = some vs → l = vs.map (xintC .u64)
  | [], vs, h => by simp only [intsX, Option.some.injEq] at h; subst h; rfl
  | c :: l, vs, h => by
    simp only [intsX] at h
    split at h
    · rename_i v vs' h1 h2
      simp only [Option.some.injEq] at h; subst h
      rw [intsX_eq h2, cell_inj (xiX_eq h1)]; rfl
    · cases h
structure U.BitsPre (L : List Int) (N : Int) (m c cap : Nat) (l : List Bool) (n : Int) (vs : List Int) : Prop where
  out : bitsPre L N m c cap l n vs
def tBits : Tbl := fun f args σ => if f == 100 then match args, σ with
    | [.inl (.inl (.inr (.inl (0, 0)))), n, .inl (.inl (.inr (.inr (.inl ⟨1, 0, k, none, k'⟩))))], ⟨[some ⟨173, [s, N], none, 2, false⟩, some ⟨27, vs, none, k'', false⟩], [], 0, [some ⟨5, .n .u8, L, cap, false⟩], 0⟩ => match aslX (cell s), xiX n, xiX (cell N), intsX vs with
      | some ⟨0, 0, m, c⟩, some (.i64, n), some (.i64, N), some vs => if Nat.beq k vs.length && Nat.beq k' vs.length && Nat.beq k'' vs.length && Nat.ble 1 vs.length && Nat.ble vs.length 4 then some fun K => ∃ l, U.BitsPre L N m c cap l n vs ∧
            ∀ (L' : List Int) (m' c' cap' : Nat) (N' : Int), U.Out L' N' (U.apps l n vs) → N' = N + vs.length * n → m' = L'.length → c' ≤ cap' → m' ≤ c' → K (xi .i64 0) ⟨[outB (aslC ⟨1, 0, m', c'⟩) N', vB vs], [], 0, [none, some (bs L' cap' false)], 0⟩
          else none
      | _, _, _, _ => none
    | _, _ => none
  else none
def U.appB (l : List Bool) (B : List Int) (o n : Nat) : List Bool := l ++ nums 8 (((B.drop o).take n).map Int.toNat)
def tBytes : Tbl := fun _ _ _ => none
end Go.Proofs.YthafgapnnmkmhaaGreatDoor
end
section
set_option linter.unusedVariables false
set_option linter.unusedSimpArgs false
namespace Go.Proofs.YthafgapnnmkmhaaGreatDoor
open Go Reck
theorem tInBits_ok : TblOk Tryz.prog tInBits := by intro f tm σ C h; cases h
theorem tInSkip_ok : TblOk Tryz.prog tInSkip := by intro f tm σ C h; cases h
theorem tInBytes_ok : TblOk Tryz.prog tInBytes := by intro f tm σ C h; cases h
theorem tOf_ok : TblOk Tryz.prog tOf := by intro f tm σ C h; cases h
theorem tDone_ok : TblOk Tryz.prog tDone := by
  intro f tm σ C h K hK
  unfold tDone at h
  split at h
  · rename_i hf
    obtain rfl : f = 102 := by simpa using hf
    split at h
    · split at h
      · rename_i m c N hs hN
        obtain rfl := cell_inj (aslX_eq hs)
        obtain rfl := cell_inj (xiX_eq hN)
        simp only [Option.some.injEq] at h; subst h
        obtain ⟨⟨h2, h3⟩, hk⟩ := hK
        intro w0 en w hok vs hvs
        exact knownC noOv names (conOk_of tB4_ok) (done_run K _ m c _ N h2 h3 hk) w0 en w hok vs hvs
      · cases h
    · cases h
  · cases h
theorem tSet_ok : TblOk Tryz.prog tSet := by intro f tm σ C h; cases h
theorem tBytes_ok : TblOk Tryz.prog tBytes := by intro f tm σ C h; cases h
theorem tBits_ok : TblOk Tryz.prog tBits := by
  intro f tm σ C h K hK
  unfold tBits at h
  split at h
  · rename_i hf
    obtain rfl : f = 100 := by simpa using hf
    split at h
    · split at h
      · rename_i m c n N vs hs hn hN hvs0
        obtain rfl := cell_inj (aslX_eq hs)
        obtain rfl := xiX_eq hn
        obtain rfl := cell_inj (xiX_eq hN)
        obtain rfl := intsX_eq hvs0
        split at h
        · rename_i hc
          simp only [Bool.and_eq_true, Nat.beq_eq, Nat.ble_eq] at hc
          obtain ⟨⟨⟨⟨c1, c2⟩, c3⟩, c4⟩, c5⟩ := hc
          subst c1; subst c2; subst c3
          simp only [Option.some.injEq] at h; subst h
          obtain ⟨l, ⟨hp⟩, hk⟩ := hK
          intro w0 en w hok vs' hvs
          match vs, c4, c5 with
          | [u], _, _ => exact calls_open (knownC noOv names (conOk_of tB4_ok) (bits1_run K _ l m c _ N n u hp hk) w0 en w hok vs' hvs)
          | [u, v], _, _ => exact calls_open (knownC noOv names (conOk_of tB4_ok) (bits2_run K _ l m c _ N n u v hp hk) w0 en w hok vs' hvs)
          | [u, v, x], _, _ => exact calls_open (knownC noOv names (conOk_of tB4_ok) (bits3_run K _ l m c _ N n u v x hp hk) w0 en w hok vs' hvs)
          | [u, v, x, y], _, _ => exact calls_open (knownC noOv names (conOk_of tB4_ok) (bits4_run K _ l m c _ N n u v x y hp hk) w0 en w hok vs' hvs)
        · cases h
      · cases h
    · cases h
  · cases h
def tBitsAll : Tbl := tblOr tB4 (tblOr tInBits (tblOr tInSkip (tblOr tInBytes (tblOr tOf (tblOr tDone (tblOr tSet (tblOr tBits tBytes)))))))
theorem tBitsAll_ok : TblOk Tryz.prog tBitsAll := tblOr_ok tB4_ok (tblOr_ok tInBits_ok (tblOr_ok tInSkip_ok (tblOr_ok tInBytes_ok (tblOr_ok tOf_ok (tblOr_ok tDone_ok (tblOr_ok tSet_ok (tblOr_ok tBits_ok tBytes_ok)))))))
end Go.Proofs.YthafgapnnmkmhaaGreatDoor
end
section
set_option linter.unusedVariables false
set_option linter.unusedSimpArgs false
namespace Go.Proofs.YthafgapnnmkmhaaGreatDoor
open Go Reck
namespace Rd
theorem val_bits (l : List Bool) (v : Nat) (h : ∀ i, i < l.length → l.getD i false = v.testBit (l.length - 1 - i)) : val l = v % 2 ^ l.length := by
  induction hn : l.length generalizing l v with
  | zero => obtain rfl := List.eq_nil_of_length_eq_zero hn; simp [val, Nat.mod_one]
  | succ n ih =>
    have hne : l ≠ [] := by rintro rfl; cases hn
    obtain ⟨m, b, rfl⟩ : ∃ m b, l = m ++ [b] := ⟨l.dropLast, l.getLast hne, (List.dropLast_concat_getLast hne).symm⟩
    simp only [List.length_append, List.length_singleton] at hn h
    have hm : m.length = n := by omega
    rw [val_snoc, ih m (v / 2) (fun i hi => by
      have := h i (by omega)
      rw [List.getD_eq_getElem?_getD, List.getElem?_append_left hi, ← List.getD_eq_getElem?_getD] at this
      rw [this, Nat.testBit_div_two]
      congr 1; omega) hm]
    have hb := h m.length (by omega)
    rw [List.getD_eq_getElem?_getD, List.getElem?_append_right (Nat.le_refl _)] at hb
    simp at hb
    have h2 : b.toNat = v % 2 := by
      rw [hb]
      have := Nat.mod_two_eq_zero_or_one v
      rcases this with h0 | h0 <;> simp [h0]
    rw [h2, Nat.pow_succ, Nat.mul_comm (2 ^ n) 2, Nat.mod_mul]; omega
theorem loa_at {L : List Int} {a n : Nat} {v : Int} (h : ∀ i, i < n → bitOf (L.map Int.toNat) (a + i) = v.toNat.testBit (n - 1 - i)) (hv : 0 ≤ v ∧ v < 2 ^ n) : U.loa L a n = v := by
  unfold U.loa
  have e := val_bits (span (L.map Int.toNat) a n) v.toNat (fun i hi => by
    rw [span_length] at hi ⊢
    rw [← h i hi]; simp [span, hi])
  rw [span_length] at e
  have e2 : v.toNat % 2 ^ n = v.toNat := Nat.mod_eq_of_lt (by have := hv.2; have h2 : ((2 ^ n : Nat) : Int) = 2 ^ n := by push_cast; rfl
                                                              omega)
  simp only [Int.toNat_natCast]
  rw [e, e2]; omega
theorem getD_app_l {l m : List Bool} {i : Nat} (h : i < l.length) : (l ++ m).getD i false = l.getD i false := by
  rw [List.getD_eq_getElem?_getD, List.getElem?_append_left h, ← List.getD_eq_getElem?_getD]
theorem getD_drop (l : List Bool) (a i : Nat) : l.getD (a + i) false = (l.drop a).getD i false := by
  rw [List.getD_eq_getElem?_getD, List.getD_eq_getElem?_getD, List.getElem?_drop]
structure Rest (L : List Int) (a e : Int) (r : List Bool) : Prop where
  ok : e = 0
  lo : 0 ≤ a
  out : ∃ l, U.Out L l.length l ∧ 8 * L.length = l.length ∧ a ≤ l.length ∧ l.drop a.toNat = r
theorem Rest.len {L : List Int} {a e : Int} {r : List Bool} (h : Rest L a e r) : (8 * L.length : Int) = a + r.length := by
  obtain ⟨_, lo, l, h1, h2, h3, rfl⟩ := h
  rw [List.length_drop]; omega
theorem Rest.bit {L : List Int} {a e : Int} {r : List Bool} (h : Rest L a e r) (i : Nat) : bitOf (L.map Int.toNat) (a.toNat + i) = r.getD i false := by
  obtain ⟨_, lo, l, ⟨cs, rfl, hp, _⟩, h2, h3, rfl⟩ := h
  rw [nz_back, hp.2.2, getD_drop]
theorem Rest.skip {L : List Int} {a e : Int} {r : List Bool} (h : Rest L a e r) {n : Int} (hn : 0 ≤ n ∧ n ≤ r.length) : Rest L (U.inA L a e n) (U.inE L a e n) (r.drop n.toNat) := by
  have hl := h.len
  obtain ⟨he, lo, l, h1, h2, h3, rfl⟩ := h
  have hc : e = 0 ∧ a + n ≤ 8 * L.length := ⟨he, by omega⟩
  refine ⟨?_, ?_, l, h1, h2, ?_, ?_⟩
  · unfold U.inE; rw [if_pos he, if_pos hc.2]
  · unfold U.inA; rw [if_pos hc]; omega
  · unfold U.inA; rw [if_pos hc]; omega
  · unfold U.inA; rw [if_pos hc, List.drop_drop, show (a + n).toNat = a.toNat + n.toNat by omega]
theorem Rest.num {L : List Int} {a e : Int} {r : List Bool} {n v : Int} (h : Rest L a e (Proofs.YthafgapnnmkmhaaGreatDoor.num n.toNat v.toNat ++ r)) (hn : 0 ≤ n) (hv : 0 ≤ v ∧ v < 2 ^ n.toNat) : U.inV L a e n = v ∧ Rest L (U.inA L a e n) (U.inE L a e n) r := by
  have hlen : (Proofs.YthafgapnnmkmhaaGreatDoor.num n.toNat v.toNat ++ r).length = n.toNat + r.length := by rw [List.length_append, num_length]
  have hl := h.len
  rw [hlen] at hl
  have h2 := h.skip (n := n) ⟨hn, by rw [hlen]; omega⟩
  have e2 : (Proofs.YthafgapnnmkmhaaGreatDoor.num n.toNat v.toNat ++ r).drop n.toNat = r := by
    rw [List.drop_append_of_le_length (by rw [num_length]; exact Nat.le_refl _), List.drop_eq_nil_of_le (by rw [num_length]; exact Nat.le_refl _), List.nil_append]
  rw [e2] at h2
  refine ⟨?_, h2⟩
  unfold U.inV
  rw [if_pos ⟨h.ok, by omega⟩]
  have e3 := loa_at (L := L) (a := a.toNat) (n := n.toNat) (v := v) (fun i hi => by
    rw [h.bit i, getD_app_l (by rw [num_length]; exact hi), getD_num, if_pos hi]) hv
  rw [Int.toNat_of_nonneg h.lo, Int.toNat_of_nonneg hn] at e3
  exact e3
theorem nums_get : ∀ (bs : List Nat) (i : Nat), (nums 8 bs).getD i false = bitOf bs i
  | [], i => by simp [nums, bitOf]
  | b :: bs, i => by
    have e : nums 8 (b :: bs) = Proofs.YthafgapnnmkmhaaGreatDoor.num 8 b ++ nums 8 bs := by simp [nums]
    rw [e]
    by_cases hi : i < 8
    · rw [getD_app_l (by rw [num_length]; exact hi), getD_num, if_pos hi]
      unfold bitOf
      have h1 : i / 8 = 0 := by omega
      have h2 : i % 8 = i := by omega
      rw [h1, h2]; simp
    · have := nums_get bs (i - 8)
      rw [List.getD_eq_getElem?_getD, List.getElem?_append_right (by rw [num_length]; omega), num_length, ← List.getD_eq_getElem?_getD, this]
      unfold bitOf
      have h1 : i / 8 = (i - 8) / 8 + 1 := by omega
      have h2 : i % 8 = (i - 8) % 8 := by omega
      rw [h1, h2]; simp
theorem Rest.bytes {L : List Int} {a e : Int} {r : List Bool} {cs : List Nat} (h : Rest L a e (nums 8 cs ++ r)) (ha : a % 8 = 0) (hc : ∀ c ∈ cs, c < 256) : U.inB L a e cs.length = nz cs ∧ Rest L (U.inA L a e (8 * cs.length)) (U.inE L a e (8 * cs.length)) r := by
  have hlen : (nums 8 cs ++ r).length = cs.length * 8 + r.length := by rw [List.length_append, nums_length]
  have hl := h.len
  rw [hlen] at hl
  have h2 := h.skip (n := 8 * cs.length) ⟨by omega, by rw [hlen]; omega⟩
  have e2 : (nums 8 cs ++ r).drop (8 * (cs.length : Int)).toNat = r := by
    have : (8 * (cs.length : Int)).toNat = (nums 8 cs).length := by rw [nums_length]; omega
    rw [this, List.drop_append_of_le_length (Nat.le_refl _), List.drop_length, List.nil_append]
  rw [e2] at h2
  refine ⟨?_, h2⟩
  unfold U.inB
  rw [if_pos ⟨h.ok, by omega⟩]
  have hbit : ∀ i, i < 8 * cs.length → bitOf (L.map Int.toNat) (a.toNat + i) = bitOf cs i := fun i hi => by
    rw [h.bit i, getD_app_l (by rw [nums_length]; omega), nums_get]
  obtain ⟨he, lo, l, ⟨ds, rfl, hp, _⟩, k2, k3, k4⟩ := h
  rw [nz_drop, nz_take]
  congr 1
  rw [nz_length] at hl
  refine bytes_ext (by rw [List.length_take, List.length_drop]; omega) (fun x hx => hp.1 x (List.mem_of_mem_drop (List.mem_of_mem_take hx))) hc fun i hi => ?_
  have hi' : i < 8 * cs.length := by rw [List.length_take, List.length_drop] at hi; omega
  rw [← hbit i hi', nz_back]
  unfold bitOf
  have e5 : (a.toNat + i) / 8 = a.toNat / 8 + i / 8 := by omega
  have e6 : (a.toNat + i) % 8 = i % 8 := by omega
  rw [e5, e6]
  congr 1
  rw [List.getD_eq_getElem?_getD, List.getD_eq_getElem?_getD, List.getElem?_take, if_pos (by simp; omega), List.getElem?_drop]
end Rd
end Go.Proofs.YthafgapnnmkmhaaGreatDoor
end
section
namespace Go.Proofs.YthafgapnnmkmhaaGreatDoor
open Go Reck
set_option linter.unusedVariables false
def U.NmB (i : Nat) (c : Int) : Prop := (97 ≤ c ∧ c ≤ 122) ∨ (i ≠ 0 ∧ 48 ≤ c ∧ c ≤ 57)
structure U.Nm (l : List Int) : Prop where
  len : 1 ≤ l.length ∧ l.length ≤ 8
  all : ∀ i, i < l.length → U.NmB i (l.getD i 0)
structure U.NmI (l : List Int) (p : Nat) : Prop where
  len : p ≤ l.length
  all : ∀ i, i < p → U.NmB i (l.getD i 0)
structure U.NmJ (l : List Int) (z : Int) : Prop where
  out : ∃ p : Nat, z = p ∧ U.NmI l p
def iterS (tm : List AV) (t : Nat) (σ : St) : List Int :=
  match aptrX (tm.getD t (lit undef)) with
  | some (a, _) => match getObjX σ a with
    | some (.iter s _, _) => s
    | _ => []
  | none => []
def slotT (tm : List AV) (t : Nat) : List Int :=
  match strX (tm.getD t (lit undef)) with
  | some l => l
  | none => []
def nameInv (c : Code) (t : Nat) (tm : List AV) (σ : St) : Inv where
  X := Nat
  tags := [0]
  tag _ _ := 0
  J := wrBut [] c
  val _ _ := []
  st _ x σ' := match aptrX (tm.getD t (lit undef)) with
    | some (a, _) => setArr σ' a (some (obj (.iter (iterS tm t σ) x)))
    | none => σ'
  I _ x := U.NmI (iterS tm t σ) x
  m _ x := (iterS tm t σ).length - x
  ren := noRen
def rnameInv (c : Code) (tm : List AV) (σ : St) : Inv where
  X := Int
  tags := [0]
  tag _ _ := 0
  J := wrBut [3] c
  val _ x := [(3, xi .i64 x)]
  st _ _ σ' := σ'
  I _ x := U.NmJ (slotT tm 0) x
  m _ x := ((slotT tm 0).length - x).toNat
  ren := noRen
def invT1 : InvF := fun c tm σ => match tm.length, firstReg c with
  | 31, some 4 => some (nameInv c 14 tm σ)
  | 42, some 4 => some (rnameInv c tm σ)
  | _, _ => none
set_option maxRecDepth 100000
theorem name_vc (K:AV→St→Prop) (l:List Int):(runI invT1 tbl0 85 [cell (strC l)] emptySt K)=(∀ (z0:Int),z0=(↑(List.length l):Int)→(z0<(1:Int)→K (Sum.inl (Sum.inl (Sum.inl (Value.bool false)))) { heap := [],ints := [],opqs := (0:Nat),arrs := [],junks := (0:Nat) })∧(¬z0<(1:Int)→∀ (z1:Int),z1=(↑(List.length l):Int)→((8:Int)<z1→K (Sum.inl (Sum.inl (Sum.inl (Value.bool false)))) { heap := [],ints := [],opqs := (0:Nat),arrs := [],junks := (0:Nat) })∧(¬(8:Int)<z1→(∃ (y2:Nat),l=l∧l=l∧z0=z0∧false=false∧false=false∧l=l∧z1=z1∧false=false∧false=false∧l=l∧(0:Nat)=(0:Nat)∧(l=l∧(0:Nat)=y2)∧U.NmI l y2)∧∀ (x3:Nat),U.NmI l x3→(x3<List.length l→∀ (i4 c5:Int) (n6 p7:Nat),i4=(↑x3:Int)→RuneAt l x3 c5 n6→p7=x3 + n6→((97:Int)≤c5→(c5≤(122:Int)→∃ (y8:Nat),l=l∧l=l∧z0=z0∧false=false∧false=false∧l=l∧z1=z1∧false=false∧false=false∧l=l∧(0:Nat)=(0:Nat)∧(l=l∧p7=y8)∧U.NmI l y8∧List.length l - y8<List.length l - x3)∧(¬c5≤(122:Int)→(i4=(0:Int)→K (Sum.inl (Sum.inl (Sum.inl (Value.bool false)))) { heap := [],ints := [],opqs := (0:Nat),arrs := [],junks := (0:Nat) })∧(¬i4=(0:Int)→((48:Int)≤c5→(c5≤(57:Int)→∃ (y9:Nat),l=l∧l=l∧z0=z0∧false=false∧false=false∧l=l∧z1=z1∧false=false∧false=false∧l=l∧(0:Nat)=(0:Nat)∧(l=l∧p7=y9)∧U.NmI l y9∧List.length l - y9<List.length l - x3)∧(¬c5≤(57:Int)→K (Sum.inl (Sum.inl (Sum.inl (Value.bool false)))) { heap := [],ints := [],opqs := (0:Nat),arrs := [],junks := (0:Nat) }))∧(¬(48:Int)≤c5→K (Sum.inl (Sum.inl (Sum.inl (Value.bool false)))) { heap := [],ints := [],opqs := (0:Nat),arrs := [],junks := (0:Nat) }))))∧(¬(97:Int)≤c5→(i4=(0:Int)→K (Sum.inl (Sum.inl (Sum.inl (Value.bool false)))) { heap := [],ints := [],opqs := (0:Nat),arrs := [],junks := (0:Nat) })∧(¬i4=(0:Int)→((48:Int)≤c5→(c5≤(57:Int)→∃ (y10:Nat),l=l∧l=l∧z0=z0∧false=false∧false=false∧l=l∧z1=z1∧false=false∧false=false∧l=l∧(0:Nat)=(0:Nat)∧(l=l∧p7=y10)∧U.NmI l y10∧List.length l - y10<List.length l - x3)∧(¬c5≤(57:Int)→K (Sum.inl (Sum.inl (Sum.inl (Value.bool false)))) { heap := [],ints := [],opqs := (0:Nat),arrs := [],junks := (0:Nat) }))∧(¬(48:Int)≤c5→K (Sum.inl (Sum.inl (Sum.inl (Value.bool false)))) { heap := [],ints := [],opqs := (0:Nat),arrs := [],junks := (0:Nat) }))))∧(¬x3<List.length l→K (Sum.inl (Sum.inl (Sum.inl (Value.bool true)))) { heap := [],ints := [],opqs := (0:Nat),arrs := [],junks := (0:Nat) })))) := by kernel_rfl
theorem rname_vc (K:AV→St→Prop) (l:List Int):(runI invT1 tbl0 95 [cell (strC l)] emptySt K)=(∀ (z0:Int),z0=(↑(List.length l):Int)→(z0<(1:Int)→K (Sum.inl (Sum.inl (Sum.inl (Value.bool false)))) { heap := [],ints := [],opqs := (0:Nat),arrs := [],junks := (0:Nat) })∧(¬z0<(1:Int)→∀ (z1:Int),z1=(↑(List.length l):Int)→((8:Int)<z1→K (Sum.inl (Sum.inl (Sum.inl (Value.bool false)))) { heap := [],ints := [],opqs := (0:Nat),arrs := [],junks := (0:Nat) })∧(¬(8:Int)<z1→(∃ (y2:Int),l=l∧(0:Int)=y2∧l=l∧z0=z0∧false=false∧false=false∧l=l∧z1=z1∧false=false∧false=false∧U.NmJ l y2)∧∀ (x3:Int),U.NmJ l x3→∀ (z4:Int),z4=(↑(List.length l):Int)→(x3<z4→((0:Int)≤x3∧x3<(↑(List.length l):Int))∧∀ (z5:Int),z5=List.getD l (Int.toNat x3) (0:Int)→(0:Int)≤z5→z5<(256:Int)→((97:Int)≤z5→(z5≤(122:Int)→∀ (z6:Int),z6=IntKind.wrap IntKind.i64 (x3 + (1:Int))→∃ (y7:Int),l=l∧z6=y7∧l=l∧z0=z0∧false=false∧false=false∧l=l∧z1=z1∧false=false∧false=false∧U.NmJ l y7∧Int.toNat ((↑(List.length l):Int) - y7)<Int.toNat ((↑(List.length l):Int) - x3))∧(¬z5≤(122:Int)→((0:Int)<x3→((48:Int)≤z5→(z5≤(57:Int)→∀ (z8:Int),z8=IntKind.wrap IntKind.i64 (x3 + (1:Int))→∃ (y9:Int),l=l∧z8=y9∧l=l∧z0=z0∧false=false∧false=false∧l=l∧z1=z1∧false=false∧false=false∧U.NmJ l y9∧Int.toNat ((↑(List.length l):Int) - y9)<Int.toNat ((↑(List.length l):Int) - x3))∧(¬z5≤(57:Int)→K (Sum.inl (Sum.inl (Sum.inl (Value.bool false)))) { heap := [],ints := [],opqs := (0:Nat),arrs := [],junks := (0:Nat) }))∧(¬(48:Int)≤z5→K (Sum.inl (Sum.inl (Sum.inl (Value.bool false)))) { heap := [],ints := [],opqs := (0:Nat),arrs := [],junks := (0:Nat) }))∧(¬(0:Int)<x3→K (Sum.inl (Sum.inl (Sum.inl (Value.bool false)))) { heap := [],ints := [],opqs := (0:Nat),arrs := [],junks := (0:Nat) })))∧(¬(97:Int)≤z5→((0:Int)<x3→((48:Int)≤z5→(z5≤(57:Int)→∀ (z10:Int),z10=IntKind.wrap IntKind.i64 (x3 + (1:Int))→∃ (y11:Int),l=l∧z10=y11∧l=l∧z0=z0∧false=false∧false=false∧l=l∧z1=z1∧false=false∧false=false∧U.NmJ l y11∧Int.toNat ((↑(List.length l):Int) - y11)<Int.toNat ((↑(List.length l):Int) - x3))∧(¬z5≤(57:Int)→K (Sum.inl (Sum.inl (Sum.inl (Value.bool false)))) { heap := [],ints := [],opqs := (0:Nat),arrs := [],junks := (0:Nat) }))∧(¬(48:Int)≤z5→K (Sum.inl (Sum.inl (Sum.inl (Value.bool false)))) { heap := [],ints := [],opqs := (0:Nat),arrs := [],junks := (0:Nat) }))∧(¬(0:Int)<x3→K (Sum.inl (Sum.inl (Sum.inl (Value.bool false)))) { heap := [],ints := [],opqs := (0:Nat),arrs := [],junks := (0:Nat) })))∧(¬x3<z4→K (Sum.inl (Sum.inl (Sum.inl (Value.bool true)))) { heap := [],ints := [],opqs := (0:Nat),arrs := [],junks := (0:Nat) })))) := by kernel_rfl
end Go.Proofs.YthafgapnnmkmhaaGreatDoor
end
section
set_option linter.unusedVariables false
set_option linter.unusedSimpArgs false
namespace Go.Proofs.YthafgapnnmkmhaaGreatDoor
open Go Reck
theorem wrapI64 (n : Int) : IntKind.wrap .i64 n = (n + 9223372036854775808) % 18446744073709551616 - 9223372036854775808 := by
  simp [IntKind.wrap, IntKind.signed, IntKind.bits, Int.bmod]
  split <;> omega
theorem nmB_rune {l : List Int} {p n : Nat} {c : Int} (h : RuneAt l p c n) (hb : c < 128) : c = l.getD p 0 ∧ n = 1 := by
  by_cases hh : l.getD p 0 < 128
  · exact h.low hh
  · have := h.high (by omega); omega
theorem nmI_step {l : List Int} {p n q : Nat} {c : Int} (hI : U.NmI l p) (h : RuneAt l p c n) (hq : q = p + n) (hb : U.NmB p c) : U.NmI l q ∧ l.length - q < l.length - p := by
  obtain ⟨e1, e2⟩ := nmB_rune h (by rcases hb with hb | hb <;> omega)
  have := h.fits
  subst hq; subst e2
  refine ⟨⟨by omega, fun i hi => ?_⟩, by omega⟩
  by_cases hip : i = p
  · subst hip; rw [← e1]; exact hb
  · exact hI.all i (by omega)
theorem nm_no {l : List Int} {p n : Nat} {c : Int} (h : RuneAt l p c n) (hb : ¬ U.NmB p c) : ¬ U.Nm l := by
  intro hN
  have h2 := hN.all p (by have := h.fits; have := h.least; omega)
  by_cases hh : l.getD p 0 < 128
  · obtain ⟨e, _⟩ := h.low hh
    exact hb (e ▸ h2)
  · rcases h2 with h2 | h2 <;> omega
theorem name_run (K : AV → St → Prop) (l : List Int) (h1 : U.Nm l → K (lit (.bool true)) emptySt) (h2 : ¬ U.Nm l → K (lit (.bool false)) emptySt) : runI invT1 tbl0 85 [cell (strC l)] emptySt K := by
  rw [name_vc]
  intro z0 e0
  refine ⟨fun h => h2 fun hN => by have := hN.len; omega, fun g0 z1 e1 => ⟨fun h => h2 fun hN => by have := hN.len; omega, fun g1 => ⟨⟨0, ?_⟩, ?_⟩⟩⟩
  · have i0 : U.NmI l 0 := ⟨Nat.zero_le _, fun i hi => absurd hi (Nat.not_lt_zero _)⟩
    repeat' (first | exact rfl | exact i0 | with_reducible apply And.intro)
  · intro p hI
    refine ⟨fun hp i c n q hi hR hq => ?_, fun hp => h1 ⟨by omega, fun i hi => hI.all i (by omega)⟩⟩
    have yes : U.NmB p c → U.NmI l q ∧ l.length - q < l.length - p := fun hb => nmI_step hI hR hq hb
    have no : ¬ U.NmB p c → K (lit (.bool false)) emptySt := fun hb => h2 (nm_no hR hb)
    refine ⟨fun a1 => ⟨fun a2 => ⟨q, by have w := yes (.inl ⟨a1, a2⟩); repeat' (first | exact rfl | exact w.1 | exact w.2 | with_reducible apply And.intro)⟩, fun a2 => ⟨fun a3 => no ?_, fun a3 => ⟨fun a4 => ⟨fun a5 => ⟨q, by have w := yes (.inr ⟨by omega, a4, a5⟩); repeat' (first | exact rfl | exact w.1 | exact w.2 | with_reducible apply And.intro)⟩, fun a5 => no ?_⟩, fun a4 => no ?_⟩⟩⟩, fun a1 => ⟨fun a3 => no ?_, fun a3 => ⟨fun a4 => ⟨fun a5 => ⟨q, by have w := yes (.inr ⟨by omega, a4, a5⟩); repeat' (first | exact rfl | exact w.1 | exact w.2 | with_reducible apply And.intro)⟩, fun a5 => no ?_⟩, fun a4 => no ?_⟩⟩⟩
    all_goals (rintro (hb | hb) <;> omega)
theorem rname_run (K : AV → St → Prop) (l : List Int) (h1 : U.Nm l → K (lit (.bool true)) emptySt) (h2 : ¬ U.Nm l → K (lit (.bool false)) emptySt) : runI invT1 tbl0 95 [cell (strC l)] emptySt K := by
  rw [rname_vc]
  intro z0 e0
  refine ⟨fun h => h2 fun hN => by have := hN.len; omega, fun g0 z1 e1 => ⟨fun h => h2 fun hN => by have := hN.len; omega, fun g1 => ⟨⟨0, ?_⟩, ?_⟩⟩⟩
  · have i0 : U.NmJ l 0 := ⟨0, rfl, Nat.zero_le _, fun i hi => absurd hi (Nat.not_lt_zero _)⟩
    repeat' (first | exact rfl | exact i0 | with_reducible apply And.intro)
  · rintro x ⟨p, hx, hI⟩ z4 e4
    subst hx
    refine ⟨fun hp => ⟨⟨by omega, by omega⟩, fun z5 e5 b1 b2 => ?_⟩, fun hp => h1 ⟨by omega, fun i hi => hI.all i (by omega)⟩⟩
    rw [Int.toNat_natCast] at e5
    have hlt : p < l.length := by omega
    have yes : U.NmB p z5 → ∀ z : Int, z = IntKind.wrap IntKind.i64 ((p : Int) + 1) → U.NmJ l z ∧ Int.toNat ((l.length : Int) - z) < Int.toNat ((l.length : Int) - p) := fun hb z hz => by
      rw [wrapI64] at hz
      have hz : z = ((p + 1 : Nat) : Int) := by omega
      refine ⟨⟨p + 1, hz, by omega, fun i hi => ?_⟩, by omega⟩
      by_cases hip : i = p
      · subst hip; rw [← e5]; exact hb
      · exact hI.all i (by omega)
    have no : ¬ U.NmB p z5 → K (lit (.bool false)) emptySt := fun hb => h2 fun hN => hb (e5 ▸ hN.all p hlt)
    refine ⟨fun a1 => ⟨fun a2 => (fun z hz => ⟨z, by have q := yes (.inl ⟨a1, a2⟩) z hz; repeat' (first | exact rfl | exact q.1 | exact q.2 | with_reducible apply And.intro)⟩), fun a2 => ⟨fun a3 => ⟨fun a4 => ⟨fun a5 => (fun z hz => ⟨z, by have q := yes (.inr ⟨by omega, a4, a5⟩) z hz; repeat' (first | exact rfl | exact q.1 | exact q.2 | with_reducible apply And.intro)⟩), fun a5 => no ?_⟩, fun a4 => no ?_⟩, fun a3 => no ?_⟩⟩, fun a1 => ⟨fun a3 => ⟨fun a4 => ⟨fun a5 => (fun z hz => ⟨z, by have q := yes (.inr ⟨by omega, a4, a5⟩) z hz; repeat' (first | exact rfl | exact q.1 | exact q.2 | with_reducible apply And.intro)⟩), fun a5 => no ?_⟩, fun a4 => no ?_⟩, fun a3 => no ?_⟩⟩
    all_goals (rintro (hb | hb) <;> omega)
def tName : Tbl := fun f args σ => if f == 85 || f == 95 then match args, σ with
    | [x], ⟨[], [], 0, [], 0⟩ => match strX x with
      | some l => some fun K => (U.Nm l → K (lit (.bool true)) emptySt) ∧ (¬ U.Nm l → K (lit (.bool false)) emptySt)
      | none => none
    | _, _ => none
  else none
theorem strX_cell {e : Env} {x : AV} {l : List Int} (h : strX x = some l) {vs : List Value} (hv : [x].map (av e) = vs.map some) : [cell (strC l)].map (av e) = vs.map some := by
  cases vs with
  | nil => simp at hv
  | cons v vs =>
    simp only [List.map_cons, List.map_nil, List.cons.injEq] at hv ⊢
    obtain ⟨rfl, hb⟩ := strX_ok h hv.1
    exact ⟨strC_av hb e, hv.2⟩
theorem tName_ok : TblOk Tryz.prog tName := by
  intro f tm σ C h K hK
  unfold tName at h
  split at h
  · rename_i hf
    split at h
    · split at h
      · rename_i l hl
        simp only [Option.some.injEq] at h; subst h
        intro w0 en w hok vs hvs
        have hvs' := strX_cell hl hvs
        have hf : f = 85 ∨ f = 95 := by simpa using hf
        rcases hf with rfl | rfl
        · exact knownC noOv names (conOk_of tbl0_ok) (name_run K l hK.1 hK.2) w0 en w hok vs hvs'
        · exact knownC noOv names (conOk_of tbl0_ok) (rname_run K l hK.1 hK.2) w0 en w hok vs hvs'
      · cases h
    · cases h
  · cases h
def tT2 : Tbl := tblOr tName tBitsAll
end Go.Proofs.YthafgapnnmkmhaaGreatDoor
end
section
namespace Go.Proofs.YthafgapnnmkmhaaGreatDoor
open Go Reck
set_option linter.unusedVariables false
def be : Nat → Nat → List Nat
  | 0, _ => []
  | k + 1, v => (v / 256 ^ k % 256) :: be k v
def U.nb (n v : Int) : List Int := nz (be n.toNat v.toNat)
def U.vb (l : List Int) : Int := (l.foldl (fun a c => a * 256 + c) 0) % 18446744073709551616
structure U.numI (n : Nat) (v0 i v : Int) (L : List Int) : Prop where
  out : ∃ k : Nat, i = n - 1 - k ∧ k ≤ n ∧ v = v0 / 256 ^ k ∧ L = List.replicate (n - k) 0 ++ nz (be k v0.toNat)
structure U.valI (l : List Int) (i v : Int) : Prop where
  out : ∃ j : Nat, i = j ∧ j ≤ l.length ∧ v = U.vb (l.take j)
def numInv (c : Code) (tm : List AV) (σ : St) : Inv where
  X := Int × Int × List Int
  tags := [0]
  tag _ _ := 0
  J := wrBut [1, 6] c
  val _ x := [(1, xi .u64 x.2.1), (6, xi .i64 x.1)]
  st _ x σ' := match getArr σ' (slotS tm 5).a with
    | some b => setArr σ' (slotS tm 5).a (some ⟨b.elem, b.k, x.2.2, b.cap, b.ro⟩)
    | none => σ'
  I _ x := U.numI (slotS tm 5).n (slotI tm 1) x.1 x.2.1 x.2.2
  m _ x := (x.1 + 1).toNat
  ren := noRen
def valInv (c : Code) (tm : List AV) (σ : St) : Inv where
  X := Int × Int
  tags := [0]
  tag _ _ := 0
  J := wrBut [3, 8] c
  val _ x := [(3, xi .u64 x.2), (8, xi .i64 x.1)]
  st _ _ σ' := σ'
  I _ x := U.valI (slotL tm 6 σ) x.1 x.2
  m _ x := ((slotL tm 6 σ).length - x.1).toNat
  ren := noRen
def invR1 : InvF := fun c tm σ => match tm.length, firstReg c with
  | 24, some 3 => some (numInv c tm σ)
  | 19, some 3 => some (valInv c tm σ)
  | _, _ => none
set_option maxRecDepth 100000
theorem num_vc (K:AV→St→Prop) (n v:Int):(runI invR1 tbl0 69 [xi .i64 n,xi .u64 v] emptySt K)=(((0:Int)≤n∧n≤n∧n≤(16777216:Int))∧∀ (n0 m1:Nat) (l'2:List Int),(↑n0:Int)=n→(↑m1:Int)=n→l'2=List.replicate m1 (0:Int)→∀ (z3:Int),z3=IntKind.wrap IntKind.i64 (n - (1:Int))→(∃ (y4:Int × Int × List Int),n=n∧v=Prod.fst (Prod.snd y4)∧(OfNat.ofNat (0:Nat)=OfNat.ofNat (0:Nat)∧n0=n0∧m1=m1)∧z3=Prod.fst y4∧n=n∧(OfNat.ofNat (0:Nat)=OfNat.ofNat (0:Nat)∧n0=n0∧m1=m1)∧n=n∧z3=z3∧(l'2=Prod.snd (Prod.snd y4)∧m1=m1∧false=false)∧U.numI n0 v (Prod.fst y4) (Prod.fst (Prod.snd y4)) (Prod.snd (Prod.snd y4)))∧∀ (x5:Int × Int × List Int),U.numI n0 v (Prod.fst x5) (Prod.fst (Prod.snd x5)) (Prod.snd (Prod.snd x5))→((0:Int)≤Prod.fst x5→¬(256:Int)=(0:Int)∧∀ (z6:Int),z6=Int.tmod (Prod.fst (Prod.snd x5)) (256:Int)→∀ (z7:Int),z7=IntKind.wrap IntKind.u8 z6→((0:Int)≤Prod.fst x5∧Prod.fst x5<(↑n0:Int))∧∀ (j8:Nat),(↑j8:Int)=(↑(OfNat.ofNat (0:Nat)):Int) + Prod.fst x5→j8<List.length (Prod.snd (Prod.snd x5))∧∀ (l'9:List Int),l'9=List.set (Prod.snd (Prod.snd x5)) j8 z7→¬(256:Int)=(0:Int)∧∀ (z10:Int),z10=IntKind.wrap IntKind.u64 (Int.tdiv (Prod.fst (Prod.snd x5)) (256:Int))→∀ (z11:Int),z11=IntKind.wrap IntKind.i64 (Prod.fst x5 - (1:Int))→∃ (y12:Int × Int × List Int),n=n∧z10=Prod.fst (Prod.snd y12)∧(OfNat.ofNat (0:Nat)=OfNat.ofNat (0:Nat)∧n0=n0∧m1=m1)∧z11=Prod.fst y12∧n=n∧(OfNat.ofNat (0:Nat)=OfNat.ofNat (0:Nat)∧n0=n0∧m1=m1)∧n=n∧z3=z3∧(l'9=Prod.snd (Prod.snd y12)∧m1=m1∧false=false)∧U.numI n0 v (Prod.fst y12) (Prod.fst (Prod.snd y12)) (Prod.snd (Prod.snd y12))∧Int.toNat (Prod.fst y12 + (1:Int))<Int.toNat (Prod.fst x5 + (1:Int)))∧(¬(0:Int)≤Prod.fst x5→K (Sum.inl (Sum.inl (Sum.inr (Sum.inr (Sum.inr (Sum.inr (Sum.inr (Sum.inr (Sum.inr (Sum.inl { a := (0:Nat),o := OfNat.ofNat (0:Nat),n := n0,c := m1 })))))))))) { heap := [],ints := [],opqs := (0:Nat),arrs := [some { elem := nat_lit 5,k := AK.n IntKind.u8,l := Prod.snd (Prod.snd x5),cap := m1,ro := false }],junks := (0:Nat) })) := by kernel_rfl
end Go.Proofs.YthafgapnnmkmhaaGreatDoor
end
section
set_option linter.unusedVariables false
set_option linter.unusedSimpArgs false
namespace Go.Proofs.YthafgapnnmkmhaaGreatDoor
open Go Reck
theorem wrapS64 (n : Int) : IntKind.wrap .i64 n = (n + 9223372036854775808) % 18446744073709551616 - 9223372036854775808 := by
  simp [IntKind.wrap, IntKind.signed, IntKind.bits, Int.bmod]
  split <;> omega
theorem by_mem' {L : List Int} (h : U.By L) : ∀ x ∈ L, 0 ≤ x ∧ x < 256 := by
  obtain ⟨cs, rfl, hc⟩ := h
  intro x hx
  obtain ⟨c, hc', rfl⟩ := List.mem_map.1 hx
  have := hc c hc'
  omega
theorem be_length : ∀ (k v : Nat), (be k v).length = k
  | 0, _ => rfl
  | k + 1, v => by simp [be, be_length k v]
theorem be_lt : ∀ (k v : Nat), ∀ c ∈ be k v, c < 256
  | 0, _, c, h => by simp [be] at h
  | k + 1, v, c, h => by
    simp only [be, List.mem_cons] at h
    rcases h with rfl | h
    · omega
    · exact be_lt k v c h
def vbN (l : List Nat) : Nat := l.foldl (fun a c => a * 256 + c) 0
theorem nb_length (n v : Int) : (U.nb n v).length = n.toNat := by unfold U.nb; rw [nz_length, be_length]
theorem nb_by (n v : Int) : U.By (U.nb n v) := ⟨be n.toNat v.toNat, rfl, be_lt _ _⟩
theorem num_be : ∀ (k v : Nat), num (8 * k) v = nums 8 (be k v)
  | 0, v => by simp [num, nums, be]
  | k + 1, v => by
    have e : nums 8 (be (k + 1) v) = num 8 (v / 256 ^ k % 256) ++ nums 8 (be k v) := by simp [nums, be]
    rw [e, ← num_be k v]
    have hl1 : (num (8 * (k + 1)) v).length = 8 * (k + 1) := num_length _ _
    apply List.ext_getElem
    · rw [List.length_append, num_length, num_length, num_length]; omega
    · intro i h1 h2
      have g1 : (num (8 * (k + 1)) v).getD i false = (num 8 (v / 256 ^ k % 256) ++ num (8 * k) v).getD i false := by
        rw [getD_num, if_pos (by omega)]
        by_cases hi : i < 8
        · rw [Rd.getD_app_l (by rw [num_length]; exact hi), getD_num, if_pos hi]
          have h256 : (256 : Nat) ^ k = 2 ^ (8 * k) := by rw [Nat.pow_mul]
          have hm : (256 : Nat) = 2 ^ 8 := by decide
          rw [h256, hm, Nat.testBit_mod_two_pow, Nat.testBit_div_two_pow]
          have : 8 - 1 - i < 8 := by omega
          simp only [this, decide_true, Bool.true_and]
          congr 1; omega
        · rw [List.getD_eq_getElem?_getD, List.getElem?_append_right (by rw [num_length]; omega), ← List.getD_eq_getElem?_getD, num_length, getD_num, if_pos (by omega)]
          congr 1; omega
      rw [List.getD_eq_getElem?_getD, List.getD_eq_getElem?_getD, List.getElem?_eq_getElem h1, List.getElem?_eq_getElem h2] at g1
      simpa using g1
theorem nums_app (a b : List Nat) : nums 8 (a ++ b) = nums 8 a ++ nums 8 b := by simp [nums]
theorem out_bytes {L : List Int} {N : Int} {cs : List Nat} (h : U.Out L N (nums 8 cs)) (hc : ∀ c ∈ cs, c < 256) : L = nz cs := by
  obtain ⟨ds, rfl, hp, _⟩ := h
  congr 1
  refine hp.eq ⟨hc, by rw [nums_length]; omega, fun i => (Rd.nums_get cs i).symm⟩
theorem num_run (K : AV → St → Prop) (n v : Int) (hn : 0 ≤ n ∧ n ≤ 1000) (hv : 0 ≤ v ∧ v ≤ 18446744073709551615) (h : ∀ (m : Nat), (m : Int) = n → K (cell (aslC ⟨0, 0, m, m⟩)) (ar [bs (U.nb n v) m false])) :
    runI invR1 tbl0 69 [xi .i64 n, xi .u64 v] emptySt K := by
  rw [num_vc]
  refine ⟨⟨hn.1, Int.le_refl _, by omega⟩, fun n0 m1 l2 e0 e1 e2 z3 h3 => ?_⟩
  have hm : m1 = n0 := by omega
  subst hm
  rw [wrapS64] at h3
  refine ⟨⟨(z3, v, l2), rfl, rfl, ⟨rfl, rfl, rfl⟩, rfl, rfl, ⟨rfl, rfl, rfl⟩, rfl, rfl, ⟨rfl, rfl, rfl⟩, ⟨0, by dsimp only; omega, Nat.zero_le _, by simp, by simp [e2, be, nz]⟩⟩, ?_⟩
  rintro ⟨i, w, L⟩ ⟨k, hi, hk, hw, hL⟩
  dsimp only at hi hk hw hL ⊢
  have hp : (0 : Int) < 256 ^ k := Int.pow_pos (by decide)
  have hw0 : 0 ≤ w := by rw [hw]; exact Int.ediv_nonneg hv.1 (by omega)
  have hw1 : w ≤ v := by rw [hw]; exact Int.ediv_le_self _ hv.1
  refine ⟨fun hlt => ⟨by decide, fun z6 h6 z7 h7 => ⟨⟨hlt, by omega⟩, fun j8 h8 => ⟨?_, fun l9 h9 => ⟨by decide, fun z10 h10 z11 h11 => ?_⟩⟩⟩⟩, fun hge => ?_⟩
  · have h8 : (j8 : Int) = 0 + i := h8
    rw [hL, List.length_append, List.length_replicate, nz_length, be_length]; omega
  · have h8 : (j8 : Int) = 0 + i := h8
    rw [wrapU8] at h7
    rw [wrapU64] at h10
    rw [wrapS64] at h11
    have t1 : Int.tmod w 256 = w % 256 := Int.tmod_eq_emod_of_nonneg hw0
    have t2 : Int.tdiv w 256 = w / 256 := Int.tdiv_eq_ediv_of_nonneg hw0
    rw [t1] at h6
    rw [t2] at h10
    have e7 : z7 = w % 256 := by omega
    have e10 : z10 = w / 256 := by omega
    refine ⟨(z11, z10, l9), rfl, rfl, ⟨rfl, rfl, rfl⟩, rfl, rfl, ⟨rfl, rfl, rfl⟩, rfl, rfl, ⟨rfl, rfl, rfl⟩, ⟨k + 1, by dsimp only; omega, by omega, ?_, ?_⟩, by dsimp only; omega⟩
    · dsimp only
      rw [e10, hw, Int.ediv_ediv_of_nonneg (by omega), Int.pow_succ]
    · dsimp only
      have ej : j8 = m1 - k - 1 := by omega
      obtain ⟨r, hr⟩ : ∃ r, m1 - k = r + 1 := ⟨m1 - k - 1, by omega⟩
      rw [h9, hL, hr, List.replicate_succ', List.append_assoc, ej, show m1 - k - 1 = r by omega, show m1 - (k + 1) = r by omega]
      rw [List.set_append_right _ _ (by simp)]
      simp only [List.length_replicate, Nat.sub_self, List.cons_append, List.nil_append, List.set_cons_zero]
      congr 1
      simp only [be, nz, List.map_cons]
      congr 1
      rw [e7, hw]
      obtain ⟨x, rfl⟩ : ∃ x : Nat, v = x := ⟨v.toNat, by omega⟩
      simp
  · have : k = m1 := by omega
    subst this
    have := h k e0
    rw [hL, Nat.sub_self, List.replicate_zero, List.nil_append]
    have e : U.nb n v = nz (be k v.toNat) := by unfold U.nb; rw [show n.toNat = k by omega]
    rw [← e]; exact this
def tNum : Tbl := fun f args σ => if f == 69 then match args, σ with
    | [n, v], ⟨[], [], 0, [], 0⟩ => match xiX n, xiX v with
      | some (.i64, n), some (.u64, v) => some fun K => ((0 ≤ n ∧ n ≤ 1000) ∧ 0 ≤ v ∧ v ≤ 18446744073709551615) ∧ ∀ (m : Nat) (L : List Int), (m : Int) = n → L = U.nb n v → K (cell (aslC ⟨0, 0, m, m⟩)) (ar [bs L m false])
      | _, _ => none
    | _, _ => none
  else none
theorem tNum_ok : TblOk Tryz.prog tNum := by
  intro f tm σ C h K hK
  unfold tNum at h
  split at h
  · rename_i hf
    obtain rfl : f = 69 := by simpa using hf
    split at h
    · split at h
      · rename_i n v hn hv
        obtain rfl := xiX_eq hn
        obtain rfl := xiX_eq hv
        simp only [Option.some.injEq] at h; subst h
        exact knownC noOv names (conOk_of tbl0_ok) (num_run K n v hK.1.1 hK.1.2 (fun m hm => hK.2 m _ hm rfl))
      · cases h
    · cases h
  · cases h
def tVal : Tbl := fun _ _ _ => none
theorem tVal_ok : TblOk Tryz.prog tVal := by intro f tm σ C h; cases h
def tR2 : Tbl := tblOr tNum tVal
theorem tR2_ok : TblOk Tryz.prog tR2 := tblOr_ok tNum_ok tVal_ok
end Go.Proofs.YthafgapnnmkmhaaGreatDoor
end
section
set_option linter.unusedVariables false
set_option linter.unusedSimpArgs false
namespace Go.Proofs.YthafgapnnmkmhaaGreatDoor
open Go Reck
theorem out_by' {L : List Int} {N : Int} {l : List Bool} (h : U.Out L N l) : U.By L := by
  obtain ⟨cs, h1, h2, _⟩ := h
  exact ⟨cs, h1, h2.1⟩
end Go.Proofs.YthafgapnnmkmhaaGreatDoor
end
