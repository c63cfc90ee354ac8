/- Parts of a proof, one behind the other: JC1 JC2. No condition. -/
import Derived.Test.YtgopjjimafcgjaaGD
import Derived.Test.YtgopjjimafcgjaaGB
section
namespace Go.Proofs.Ytgopjjimafcgjaa
open Go Reck Ost
set_option linter.unusedVariables false
set_option maxRecDepth 100000
def jtB : Option Blk := some ⟨68, [.inr (.inl (1, 0))], none, 1, false⟩
def jSt (n c : Nat) (L : Rws) (d : Nat) (M : Rws) : St := ⟨[jtB, jbB (rslC ⟨0, 1, 0, n, c⟩) (rslC ⟨1, 7, 0, n, d⟩) 64], [], 0, [some (jbkB L c), some (jbvB M d)], 0⟩
abbrev plA (a b : Int) : AV := .inl (.inr [xintC .i64 a, xintC .i64 b])
abbrev jbA (v0 v1 v2 v3 : Int) (v4 v5 : List Int) (v6 : Int) : AV := .inl (.inr (jbC v0 v1 v2 v3 v4 v5 v6))
structure U.jfI (P : JBP) (f : Int × JBv → Bool) (i : Int) : Prop where
  out : 0 ≤ i ∧ i ≤ P.length ∧ ∀ t : Nat, (t : Int) < i → ∀ p, P[t]? = some p → f p = false
def jfInv (P : JBP) (f : Int × JBv → Bool) (tm : List AV) (σ : St) : Inv where
  X := Int
  tags := [0]
  tag _ _ := 0
  J := [2,3,4,5,9,10,11,12,13,14,15,16,17,18]
  val _ x := [(8, xi .i64 x)]
  st _ _ σ' := σ'
  I _ x := U.jfI P f x
  m _ x := ((slotR tm 6).n : Int).toNat - x.toNat
  ren := noRen
def jDp (P : JBP) (f : Int × JBv → Bool) (tm : List AV) (σ : St) : Inv where
  X := Int × ((Rws × (Nat × Nat)) × (Rws × (Nat × Nat)))
  tags := [0]
  tag _ _ := 0
  J := [2,3,4,8,9,10,11,12,13,14,15,16,17,18,22,23,24,25,26,27,28,29,30,31,32,33,34,35,36,37,38,39,40,41,42,43,44,45,46,47,48]
  val _ x := [(21, xi .i64 x.1), (5, cell (rslC ⟨σ.arrs.length, 1, 0, x.2.1.2.1, x.2.1.2.2⟩)), (6, cell (rslC ⟨σ.arrs.length + 1, 7, 0, x.2.2.2.1, x.2.2.2.2⟩))]
  st _ x σ' := ⟨σ'.heap, σ'.ints, σ'.opqs, σ'.arrs.dropLast.dropLast ++ [some (jbkB x.2.1.1 x.2.1.2.2), some (jbvB x.2.2.1 x.2.2.2.2)], σ'.junks⟩
  I _ x := U.jbdpI P f x.1 x.2.1.1 x.2.1.2.1 x.2.1.2.2 x.2.2.1 x.2.2.2.1 x.2.2.2.2
  m _ x := ((slotR tm 19).n : Int).toNat - x.1.toNat
  ren tm' σ' := ([], [(slotR tm' 5).a, (slotR tm' 6).a])
def invJf (P : JBP) (f : Int × JBv → Bool) : InvF := fun c tm σ => match tm.length, firstReg c with
  | 19, some 2 => some (jfInv P f tm σ)
  | _, _ => none
def invJd (P : JBP) (f : Int × JBv → Bool) : InvF := fun c tm σ => match tm.length, firstReg c with
  | 49, some 7 => some (jDp P f tm σ)
  | _, _ => none
def tJn : Tbl := tblOr tName jbtS
theorem tJn_ok : TblOk Try.prog tJn := tblOr_ok tName_ok jbtS_ok
def tJd : Tbl := tblOr tName jbtD
theorem tJd_ok : TblOk Try.prog tJd := tblOr_ok tName_ok jbtD_ok
--PLAIN
theorem jmay_vc (K:AV→St→Prop) (v0 v1 v2 v3:Int) (v4 v5:List Int) (v6:Int):(runR inv0 tJn 39 [jbA v0 v1 v2 v3 v4 v5 v6] emptySt K)=((v0<281474976710655→(1≤v2→(v2≤8→(1≤v3→(v3≤8→(U.Nm v4→(v5=[]→K (lit (.bool true)) ⟨[],[],0,[],0⟩)∧(¬v5=[]→(U.Nm v5→K (lit (.bool true)) ⟨[],[],0,[],0⟩)∧(¬U.Nm v5→K (lit (.bool false)) ⟨[],[],0,[],0⟩)))∧(¬U.Nm v4→K (lit (.bool false)) ⟨[],[],0,[],0⟩))∧(¬v3≤8→K (lit (.bool false)) ⟨[],[],0,[],0⟩))∧(¬1≤v3→K (lit (.bool false)) ⟨[],[],0,[],0⟩))∧(¬v2≤8→K (lit (.bool false)) ⟨[],[],0,[],0⟩))∧(¬1≤v2→K (lit (.bool false)) ⟨[],[],0,[],0⟩))∧(¬v0<281474976710655→K (lit (.bool false)) ⟨[],[],0,[],0⟩)) := by kernel_rfl
theorem jrmay_vc (K:AV→St→Prop) (v0 v1 v2 v3:Int) (v4 v5:List Int) (v6:Int):(runR inv0 tJn 25 [jbA v0 v1 v2 v3 v4 v5 v6] emptySt K)=((v0<281474976710655→(0<v2→(v2<9→(0<v3→(v3<9→(U.Nm v4→(v5=[]→K (lit (.bool true)) ⟨[],[],0,[],0⟩)∧(¬v5=[]→(U.Nm v5→K (lit (.bool true)) ⟨[],[],0,[],0⟩)∧(¬U.Nm v5→K (lit (.bool false)) ⟨[],[],0,[],0⟩)))∧(¬U.Nm v4→K (lit (.bool false)) ⟨[],[],0,[],0⟩))∧(¬v3<9→K (lit (.bool false)) ⟨[],[],0,[],0⟩))∧(¬0<v3→K (lit (.bool false)) ⟨[],[],0,[],0⟩))∧(¬v2<9→K (lit (.bool false)) ⟨[],[],0,[],0⟩))∧(¬0<v2→K (lit (.bool false)) ⟨[],[],0,[],0⟩))∧(¬v0<281474976710655→K (lit (.bool false)) ⟨[],[],0,[],0⟩)) := by kernel_rfl
theorem jnew_vc (K:AV→St→Prop):(runR inv0 tJn 8 [] emptySt K)=(K (Sum.inl (Sum.inl (Sum.inr (Sum.inl ((0:Nat),(0:Nat)))))) ⟨[jtB,some ⟨nat_lit 94,[rslC ⟨0,1,0,0,0⟩,rslC ⟨1,7,0,0,0⟩,xintC .i64 (64:Int)],none,3,false⟩],[],0,[some (jbkB U.nilL 0),some (jbvB U.nilL 0)],0⟩) := by kernel_rfl
theorem jall_vc (K:AV→St→Prop) (n c:Nat) (L:Rws) (d:Nat) (M:Rws):(runR inv0 tJn 15 [ptr 0 0] (jSt n c L d M) K)=(∃ (y0:JBP),((c=c∧d=d∧n=n)∧U.jbshI n c L d M y0)∧∀ (L'1:Rws) (n'2 c'3:Nat),n'2=n→n'2≤c'3→L'1=U.jbvs y0→K (Sum.inl (Sum.inl (rslC ⟨2,7,0,n'2,c'3⟩))) ⟨[jtB,some ⟨nat_lit 94,[rslC ⟨0,1,0,n,c⟩,rslC ⟨1,7,0,n,d⟩,xintC .i64 (64:Int)],none,3,false⟩],[],0,[some (jbkB L c),some (jbvB M d),some (jbvB L'1 c'3)],0⟩) := by kernel_rfl
theorem jof_vc (K:AV→St→Prop) (P:JBP) (F:Int × JBv→Bool) (n c:Nat) (L:Rws) (d:Nat) (M:Rws) (ip:Int):(runR (invJf P F) tJn 19 [ptr 0 0,xi .u32 ip] (jSt n c L d M) K)=(∃ (y0:JBP),((c=c∧d=d∧n=n)∧U.jbshI n c L d M y0)∧∀ (L'1:Rws) (n'2 c'3:Nat),n'2=n→n'2≤c'3→L'1=U.jbvs y0→∀ (z4:Int),z4=(↑n'2:Int)→(∃ (y5:Int),((0:Nat)=0∧n'2=n'2∧c'3=c'3)∧((0:Nat)=0∧n'2=n'2∧c'3=c'3)∧z4=z4∧0=y5∧((0:Nat)=0∧n=n∧c=c)∧((0:Nat)=0∧n=n∧d=d)∧(64:Int)=64∧ip=ip∧(L=L∧c=c∧false=false)∧(M=M∧d=d∧false=false)∧(U.nilL=U.nilL∧(0:Nat)=0∧false=false)∧(L'1=L'1∧c'3=c'3∧false=false)∧U.jfI P F y5)∧∀ (x6:Int),U.jfI P F x6→(x6<z4→(0≤x6∧x6<(↑n'2:Int))∧∀ (j7:Nat),(↑j7:Int)=(↑((0:Nat)):Int) + x6→j7<List.length L'1∧∀ (z8:Int),z8=U.fi L'1 j7 ((0:Nat))→∀ (z9:Int),z9=U.fi L'1 j7 ((0:Nat) + (1:Nat))→∀ (z10:Int),z10=U.fi L'1 j7 ((0:Nat) + (1:Nat) + (1:Nat))→∀ (z11:Int),z11=U.fi L'1 j7 ((0:Nat) + (1:Nat) + (1:Nat) + (1:Nat))→∀ (z12:List Int),z12=U.fs L'1 j7 ((0:Nat) + (1:Nat) + (1:Nat) + (1:Nat) + (1:Nat))→∀ (z13:List Int),z13=U.fs L'1 j7 ((0:Nat) + (1:Nat) + (1:Nat) + (1:Nat) + (1:Nat) + (1:Nat))→∀ (z14:Int),z14=U.fi L'1 j7 ((0:Nat) + (1:Nat) + (1:Nat) + (1:Nat) + (1:Nat) + (1:Nat) + (1:Nat))→(z9=ip→(x6<0→K (Sum.inr [Sum.inr [xintC .u64 (0:Int),xintC .u32 (0:Int),xintC .i64 (0:Int),xintC .i64 (0:Int),Sum.inl (Value.string { data := { toList := [] } }),Sum.inl (Value.string { data := { toList := [] } }),xintC .i64 (0:Int)],Sum.inl (Sum.inl (Value.bool false))]) ⟨[jtB,some ⟨nat_lit 94,[rslC ⟨0,1,0,n,c⟩,rslC ⟨1,7,0,n,d⟩,xintC .i64 (64:Int)],none,3,false⟩],[],0,[some (jbkB L c),some (jbvB M d)],0⟩)∧(¬x6<0→(0≤x6∧x6<(↑n'2:Int))∧∀ (j15:Nat),(↑j15:Int)=(↑((0:Nat)):Int) + x6→j15<List.length L'1∧∀ (z16:Int),z16=U.fi L'1 j15 ((0:Nat))→∀ (z17:Int),z17=U.fi L'1 j15 ((0:Nat) + (1:Nat))→∀ (z18:Int),z18=U.fi L'1 j15 ((0:Nat) + (1:Nat) + (1:Nat))→∀ (z19:Int),z19=U.fi L'1 j15 ((0:Nat) + (1:Nat) + (1:Nat) + (1:Nat))→∀ (z20:List Int),z20=U.fs L'1 j15 ((0:Nat) + (1:Nat) + (1:Nat) + (1:Nat) + (1:Nat))→∀ (z21:List Int),z21=U.fs L'1 j15 ((0:Nat) + (1:Nat) + (1:Nat) + (1:Nat) + (1:Nat) + (1:Nat))→∀ (z22:Int),z22=U.fi L'1 j15 ((0:Nat) + (1:Nat) + (1:Nat) + (1:Nat) + (1:Nat) + (1:Nat) + (1:Nat))→K (Sum.inr [Sum.inr [xintC .u64 z16,xintC .u32 z17,xintC .i64 z18,xintC .i64 z19,strC z20,strC z21,xintC .i64 z22],Sum.inl (Sum.inl (Value.bool true))]) ⟨[jtB,some ⟨nat_lit 94,[rslC ⟨0,1,0,n,c⟩,rslC ⟨1,7,0,n,d⟩,xintC .i64 (64:Int)],none,3,false⟩],[],0,[some (jbkB L c),some (jbvB M d)],0⟩))∧(¬z9=ip→∀ (z23:Int),z23=IntKind.wrap .i64 (x6 + (1:Int))→∃ (y24:Int),((0:Nat)=0∧n'2=n'2∧c'3=c'3)∧((0:Nat)=0∧n'2=n'2∧c'3=c'3)∧z4=z4∧z23=y24∧((0:Nat)=0∧n=n∧c=c)∧((0:Nat)=0∧n=n∧d=d)∧(64:Int)=64∧ip=ip∧(L=L∧c=c∧false=false)∧(M=M∧d=d∧false=false)∧(U.nilL=U.nilL∧(0:Nat)=0∧false=false)∧(L'1=L'1∧c'3=c'3∧false=false)∧U.jfI P F y24∧Int.toNat (↑n'2:Int) - Int.toNat y24<Int.toNat (↑n'2:Int) - Int.toNat x6))∧(¬x6<z4→K (Sum.inr [Sum.inr [xintC .u64 (0:Int),xintC .u32 (0:Int),xintC .i64 (0:Int),xintC .i64 (0:Int),Sum.inl (Value.string { data := { toList := [] } }),Sum.inl (Value.string { data := { toList := [] } }),xintC .i64 (0:Int)],Sum.inl (Sum.inl (Value.bool false))]) ⟨[jtB,some ⟨nat_lit 94,[rslC ⟨0,1,0,n,c⟩,rslC ⟨1,7,0,n,d⟩,xintC .i64 (64:Int)],none,3,false⟩],[],0,[some (jbkB L c),some (jbvB M d)],0⟩)) := by kernel_rfl
theorem jat_vc (K:AV→St→Prop) (P:JBP) (F:Int × JBv→Bool) (n c:Nat) (L:Rws) (d:Nat) (M:Rws) (sw po:Int):(runR (invJf P F) tJn 20 [ptr 0 0,plA sw po] (jSt n c L d M) K)=(∃ (y0:JBP),((c=c∧d=d∧n=n)∧U.jbshI n c L d M y0)∧∀ (L'1:Rws) (n'2 c'3:Nat),n'2=n→n'2≤c'3→L'1=U.jbvs y0→∀ (z4:Int),z4=(↑n'2:Int)→(∃ (y5:Int),((0:Nat)=0∧n'2=n'2∧c'3=c'3)∧((0:Nat)=0∧n'2=n'2∧c'3=c'3)∧z4=z4∧0=y5∧((0:Nat)=0∧n=n∧c=c)∧((0:Nat)=0∧n=n∧d=d)∧(64:Int)=64∧sw=sw∧po=po∧(L=L∧c=c∧false=false)∧(M=M∧d=d∧false=false)∧(U.nilL=U.nilL∧(0:Nat)=0∧false=false)∧(L'1=L'1∧c'3=c'3∧false=false)∧U.jfI P F y5)∧∀ (x6:Int),U.jfI P F x6→(x6<z4→(0≤x6∧x6<(↑n'2:Int))∧∀ (j7:Nat),(↑j7:Int)=(↑((0:Nat)):Int) + x6→j7<List.length L'1∧∀ (z8:Int),z8=U.fi L'1 j7 ((0:Nat))→∀ (z9:Int),z9=U.fi L'1 j7 ((0:Nat) + (1:Nat))→∀ (z10:Int),z10=U.fi L'1 j7 ((0:Nat) + (1:Nat) + (1:Nat))→∀ (z11:Int),z11=U.fi L'1 j7 ((0:Nat) + (1:Nat) + (1:Nat) + (1:Nat))→∀ (z12:List Int),z12=U.fs L'1 j7 ((0:Nat) + (1:Nat) + (1:Nat) + (1:Nat) + (1:Nat))→∀ (z13:List Int),z13=U.fs L'1 j7 ((0:Nat) + (1:Nat) + (1:Nat) + (1:Nat) + (1:Nat) + (1:Nat))→∀ (z14:Int),z14=U.fi L'1 j7 ((0:Nat) + (1:Nat) + (1:Nat) + (1:Nat) + (1:Nat) + (1:Nat) + (1:Nat))→(z10=sw∧z11=po∧True→(x6<0→K (Sum.inr [Sum.inr [xintC .u64 (0:Int),xintC .u32 (0:Int),xintC .i64 (0:Int),xintC .i64 (0:Int),Sum.inl (Value.string { data := { toList := [] } }),Sum.inl (Value.string { data := { toList := [] } }),xintC .i64 (0:Int)],Sum.inl (Sum.inl (Value.bool false))]) ⟨[jtB,some ⟨nat_lit 94,[rslC ⟨0,1,0,n,c⟩,rslC ⟨1,7,0,n,d⟩,xintC .i64 (64:Int)],none,3,false⟩],[],0,[some (jbkB L c),some ⟨(43:TypeId),.o (.rows [.n .u64,.n .u32,.n .i64,.n .i64,CK.s,CK.s,.n .i64] M),[],d,false⟩],0⟩)∧(¬x6<0→(0≤x6∧x6<(↑n'2:Int))∧∀ (j15:Nat),(↑j15:Int)=(↑((0:Nat)):Int) + x6→j15<List.length L'1∧∀ (z16:Int),z16=U.fi L'1 j15 ((0:Nat))→∀ (z17:Int),z17=U.fi L'1 j15 ((0:Nat) + (1:Nat))→∀ (z18:Int),z18=U.fi L'1 j15 ((0:Nat) + (1:Nat) + (1:Nat))→∀ (z19:Int),z19=U.fi L'1 j15 ((0:Nat) + (1:Nat) + (1:Nat) + (1:Nat))→∀ (z20:List Int),z20=U.fs L'1 j15 ((0:Nat) + (1:Nat) + (1:Nat) + (1:Nat) + (1:Nat))→∀ (z21:List Int),z21=U.fs L'1 j15 ((0:Nat) + (1:Nat) + (1:Nat) + (1:Nat) + (1:Nat) + (1:Nat))→∀ (z22:Int),z22=U.fi L'1 j15 ((0:Nat) + (1:Nat) + (1:Nat) + (1:Nat) + (1:Nat) + (1:Nat) + (1:Nat))→K (Sum.inr [Sum.inr [xintC .u64 z16,xintC .u32 z17,xintC .i64 z18,xintC .i64 z19,strC z20,strC z21,xintC .i64 z22],Sum.inl (Sum.inl (Value.bool true))]) ⟨[jtB,some ⟨nat_lit 94,[rslC ⟨0,1,0,n,c⟩,rslC ⟨1,7,0,n,d⟩,xintC .i64 (64:Int)],none,3,false⟩],[],0,[some (jbkB L c),some ⟨(43:TypeId),.o (.rows [.n .u64,.n .u32,.n .i64,.n .i64,CK.s,CK.s,.n .i64] M),[],d,false⟩],0⟩))∧(¬(z10=sw∧z11=po∧True)→∀ (z23:Int),z23=IntKind.wrap .i64 (x6 + (1:Int))→∃ (y24:Int),((0:Nat)=0∧n'2=n'2∧c'3=c'3)∧((0:Nat)=0∧n'2=n'2∧c'3=c'3)∧z4=z4∧z23=y24∧((0:Nat)=0∧n=n∧c=c)∧((0:Nat)=0∧n=n∧d=d)∧(64:Int)=64∧sw=sw∧po=po∧(L=L∧c=c∧false=false)∧(M=M∧d=d∧false=false)∧(U.nilL=U.nilL∧(0:Nat)=0∧false=false)∧(L'1=L'1∧c'3=c'3∧false=false)∧U.jfI P F y24∧Int.toNat (↑n'2:Int) - Int.toNat y24<Int.toNat (↑n'2:Int) - Int.toNat x6))∧(¬x6<z4→K (Sum.inr [Sum.inr [xintC .u64 (0:Int),xintC .u32 (0:Int),xintC .i64 (0:Int),xintC .i64 (0:Int),Sum.inl (Value.string { data := { toList := [] } }),Sum.inl (Value.string { data := { toList := [] } }),xintC .i64 (0:Int)],Sum.inl (Sum.inl (Value.bool false))]) ⟨[jtB,some ⟨nat_lit 94,[rslC ⟨0,1,0,n,c⟩,rslC ⟨1,7,0,n,d⟩,xintC .i64 (64:Int)],none,3,false⟩],[],0,[some (jbkB L c),some ⟨(43:TypeId),.o (.rows [.n .u64,.n .u32,.n .i64,.n .i64,CK.s,CK.s,.n .i64] M),[],d,false⟩],0⟩)) := by kernel_rfl
theorem jlogin_vc (K:AV→St→Prop) (n c:Nat) (L:Rws) (d:Nat) (M:Rws) (m:Int) (u:List Int):(runR inv0 tJn 21 [ptr 0 0,xi .u64 m,cell (strC u)] (jSt n c L d M) K)=(∃ (y0:JBP),((c=c∧d=d∧n=n)∧U.jbshI n c L d M y0∧n≤100000)∧(∀ (v01 v12 v23 v34:Int) (v45 v56:List Int) (v67:Int),U.jbHasE y0 m v01 v12 v23 v34 v45 v56 v67→(U.Nm u→∃ (y8:JBP),((c=c∧d=d∧n=n)∧U.jbshI n c L d M y8∧n≤100000)∧(U.jbRoom y8 v01 (64:Int)→∀ (L'9:Rws) (n'10 c'11:Nat) (M'12:Rws) (d'13:Nat) (P'14:JBP),n'10=U.jblen P'14→U.jbPut y8 v01 ⟨v01,v12,v23,v34,v45,u,v67⟩ P'14→U.jbshI n'10 c'11 L'9 d'13 M'12 P'14→v01=v01∧v12=v12∧v23=v23∧v34=v34∧v45=v45∧u=u∧v67=v67∧v01=v01∧K (lit (.bool true)) ⟨[jtB,some ⟨nat_lit 94,[rslC ⟨2,1,0,n'10,c'11⟩,rslC ⟨3,7,0,n'10,d'13⟩,xintC .i64 (64:Int)],none,3,false⟩],[],0,[none,none,some (jbkB L'9 c'11),some ⟨(43:TypeId),.o (.rows [.n .u64,.n .u32,.n .i64,.n .i64,CK.s,CK.s,.n .i64] M'12),[],d'13,false⟩],0⟩)∧(¬U.jbRoom y8 v01 (64:Int)→v01=v01∧v12=v12∧v23=v23∧v34=v34∧v45=v45∧u=u∧v67=v67∧v01=v01∧K (lit (.bool true)) ⟨[jtB,some ⟨nat_lit 94,[rslC ⟨0,1,0,n,c⟩,rslC ⟨1,7,0,n,d⟩,xintC .i64 (64:Int)],none,3,false⟩],[],0,[some (jbkB L c),some ⟨(43:TypeId),.o (.rows [.n .u64,.n .u32,.n .i64,.n .i64,CK.s,CK.s,.n .i64] M),[],d,false⟩],0⟩))∧(¬U.Nm u→K (lit (.bool false)) ⟨[jtB,some ⟨nat_lit 94,[rslC ⟨0,1,0,n,c⟩,rslC ⟨1,7,0,n,d⟩,xintC .i64 (64:Int)],none,3,false⟩],[],0,[some (jbkB L c),some ⟨(43:TypeId),.o (.rows [.n .u64,.n .u32,.n .i64,.n .i64,CK.s,CK.s,.n .i64] M),[],d,false⟩],0⟩))∧(¬U.jbHasK y0 m→K (lit (.bool false)) ⟨[jtB,some ⟨nat_lit 94,[rslC ⟨0,1,0,n,c⟩,rslC ⟨1,7,0,n,d⟩,xintC .i64 (64:Int)],none,3,false⟩],[],0,[some (jbkB L c),some ⟨(43:TypeId),.o (.rows [.n .u64,.n .u32,.n .i64,.n .i64,CK.s,CK.s,.n .i64] M),[],d,false⟩],0⟩)) := by kernel_rfl
theorem jlogout_vc (K:AV→St→Prop) (n c:Nat) (L:Rws) (d:Nat) (M:Rws) (m:Int):(runR inv0 tJn 18 [ptr 0 0,xi .u64 m] (jSt n c L d M) K)=(∃ (y0:JBP),((c=c∧d=d∧n=n)∧U.jbshI n c L d M y0∧n≤100000)∧(∀ (v01 v12 v23 v34:Int) (v45 v56:List Int) (v67:Int),U.jbHasE y0 m v01 v12 v23 v34 v45 v56 v67→(v56=[]→K (Sum.inr [Sum.inr [xintC .u64 (0:Int),xintC .u32 (0:Int),xintC .i64 (0:Int),xintC .i64 (0:Int),Sum.inl (Value.string { data := { toList := [] } }),Sum.inl (Value.string { data := { toList := [] } }),xintC .i64 (0:Int)],Sum.inl (Sum.inl (Value.bool false))]) ⟨[jtB,some ⟨nat_lit 94,[rslC ⟨0,1,0,n,c⟩,rslC ⟨1,7,0,n,d⟩,xintC .i64 (64:Int)],none,3,false⟩],[],0,[some (jbkB L c),some ⟨(43:TypeId),.o (.rows [.n .u64,.n .u32,.n .i64,.n .i64,CK.s,CK.s,.n .i64] M),[],d,false⟩],0⟩)∧(¬v56=[]→∃ (y8:JBP),((c=c∧d=d∧n=n)∧U.jbshI n c L d M y8∧n≤100000)∧(U.jbRoom y8 v01 (64:Int)→∀ (L'9:Rws) (n'10 c'11:Nat) (M'12:Rws) (d'13:Nat) (P'14:JBP),n'10=U.jblen P'14→U.jbPut y8 v01 ⟨v01,v12,v23,v34,v45,[],v67⟩ P'14→U.jbshI n'10 c'11 L'9 d'13 M'12 P'14→v01=v01∧v12=v12∧v23=v23∧v34=v34∧v45=v45∧v67=v67∧v01=v01∧K (Sum.inr [Sum.inr [xintC .u64 v01,xintC .u32 v12,xintC .i64 v23,xintC .i64 v34,strC v45,strC v56,xintC .i64 v67],Sum.inl (Sum.inl (Value.bool true))]) ⟨[jtB,some ⟨nat_lit 94,[rslC ⟨2,1,0,n'10,c'11⟩,rslC ⟨3,7,0,n'10,d'13⟩,xintC .i64 (64:Int)],none,3,false⟩],[],0,[none,none,some (jbkB L'9 c'11),some ⟨(43:TypeId),.o (.rows [.n .u64,.n .u32,.n .i64,.n .i64,CK.s,CK.s,.n .i64] M'12),[],d'13,false⟩],0⟩)∧(¬U.jbRoom y8 v01 (64:Int)→v01=v01∧v12=v12∧v23=v23∧v34=v34∧v45=v45∧v67=v67∧v01=v01∧K (Sum.inr [Sum.inr [xintC .u64 v01,xintC .u32 v12,xintC .i64 v23,xintC .i64 v34,strC v45,strC v56,xintC .i64 v67],Sum.inl (Sum.inl (Value.bool true))]) ⟨[jtB,some ⟨nat_lit 94,[rslC ⟨0,1,0,n,c⟩,rslC ⟨1,7,0,n,d⟩,xintC .i64 (64:Int)],none,3,false⟩],[],0,[some (jbkB L c),some ⟨(43:TypeId),.o (.rows [.n .u64,.n .u32,.n .i64,.n .i64,CK.s,CK.s,.n .i64] M),[],d,false⟩],0⟩)))∧(¬U.jbHasK y0 m→K (Sum.inr [Sum.inr [xintC .u64 (0:Int),xintC .u32 (0:Int),xintC .i64 (0:Int),xintC .i64 (0:Int),Sum.inl (Value.string { data := { toList := [] } }),Sum.inl (Value.string { data := { toList := [] } }),xintC .i64 (0:Int)],Sum.inl (Sum.inl (Value.bool false))]) ⟨[jtB,some ⟨nat_lit 94,[rslC ⟨0,1,0,n,c⟩,rslC ⟨1,7,0,n,d⟩,xintC .i64 (64:Int)],none,3,false⟩],[],0,[some (jbkB L c),some ⟨(43:TypeId),.o (.rows [.n .u64,.n .u32,.n .i64,.n .i64,CK.s,CK.s,.n .i64] M),[],d,false⟩],0⟩)) := by kernel_rfl
theorem jtick_vc (K:AV→St→Prop) (P:JBP) (F:Int × JBv→Bool) (n c:Nat) (L:Rws) (d:Nat) (M:Rws) (now:Int):(runQ (invJd P F) tJd 24 [ptr 0 0,xi .i64 now] (jSt n c L d M) K)=(∃ (y0:JBP),((c=c∧d=d∧n=n)∧U.jbshI n c L d M y0)∧∀ (L'1:Rws) (n'2 c'3:Nat),n'2=n→n'2≤c'3→L'1=U.jbvs y0→∃ (y4:JBP),((c=c∧d=d∧n=n)∧U.jbshI n c L d M y4)∧∀ (L'5:Rws) (n'6 c'7:Nat),n'6=n→n'6≤c'7→L'5=U.jbks y4→∀ (z8:Int),z8=(↑n'6:Int)→(∃ (y9:Int × (Rws × Nat × Nat) × Rws × Nat × Nat),((0:Nat)=0∧0=y9.2.1.2.1∧0=y9.2.1.2.2)∧((0:Nat)=0∧0=y9.2.2.2.1∧0=y9.2.2.2.2)∧((0:Nat)=0∧n'2=n'2∧c'3=c'3)∧((0:Nat)=0∧n'6=n'6∧c'7=c'7)∧z8=z8∧0=y9.1∧((0:Nat)=0∧n=n∧c=c)∧((0:Nat)=0∧n=n∧d=d)∧(64:Int)=64∧now=now∧(L=L∧c=c∧false=false)∧(M=M∧d=d∧false=false)∧(U.nilL=U.nilL∧(0:Nat)=0∧false=false)∧(U.nilL=U.nilL∧(0:Nat)=0∧false=false)∧(U.nilL=U.nilL∧(0:Nat)=0∧false=false)∧(L'1=L'1∧c'3=c'3∧false=false)∧(L'5=L'5∧c'7=c'7∧false=false)∧(U.nilL=y9.2.1.1∧0=y9.2.1.2.2∧false=false)∧(U.nilL=y9.2.2.1∧0=y9.2.2.2.2∧false=false)∧U.jbdpI P F y9.1 y9.2.1.1 y9.2.1.2.1 y9.2.1.2.2 y9.2.2.1 y9.2.2.2.1 y9.2.2.2.2)∧∀ (x10:Int × (Rws × Nat × Nat) × Rws × Nat × Nat),U.jbdpI P F x10.1 x10.2.1.1 x10.2.1.2.1 x10.2.1.2.2 x10.2.2.1 x10.2.2.2.1 x10.2.2.2.2→(x10.1<z8→(0≤x10.1∧x10.1<(↑n'6:Int))∧∀ (j11:Nat),(↑j11:Int)=(↑((0:Nat)):Int) + x10.1→j11<List.length L'5∧∀ (z12:Int),z12=U.fi L'5 j11 ((0:Nat))→(0≤x10.1∧x10.1<(↑n'2:Int))∧∀ (j13:Nat),(↑j13:Int)=(↑((0:Nat)):Int) + x10.1→j13<List.length L'1∧∀ (z14:Int),z14=U.fi L'1 j13 ((0:Nat))→∀ (z15:Int),z15=U.fi L'1 j13 ((0:Nat) + (1:Nat))→∀ (z16:Int),z16=U.fi L'1 j13 ((0:Nat) + (1:Nat) + (1:Nat))→∀ (z17:Int),z17=U.fi L'1 j13 ((0:Nat) + (1:Nat) + (1:Nat) + (1:Nat))→∀ (z18:List Int),z18=U.fs L'1 j13 ((0:Nat) + (1:Nat) + (1:Nat) + (1:Nat) + (1:Nat))→∀ (z19:List Int),z19=U.fs L'1 j13 ((0:Nat) + (1:Nat) + (1:Nat) + (1:Nat) + (1:Nat) + (1:Nat))→∀ (z20:Int),z20=U.fi L'1 j13 ((0:Nat) + (1:Nat) + (1:Nat) + (1:Nat) + (1:Nat) + (1:Nat) + (1:Nat))→(z20≤now→((0:Nat) + x10.2.1.2.1≤List.length x10.2.1.1∧(0:Nat) + x10.2.1.2.2≤x10.2.1.2.2)∧True∧x10.2.1.2.1≤16777216∧(1:Nat)≤16777216∧∀ (L'21:List (List CV)) (n'22 c'23:Nat),L'21=List.take x10.2.1.2.1 (List.drop ((0:Nat)) x10.2.1.1) ++ [CV.i z12] :: U.nilL→n'22=x10.2.1.2.1 + (1:Nat)→n'22≤c'23→(0≤x10.1∧x10.1<(↑n'2:Int))∧∀ (j24:Nat),(↑j24:Int)=(↑((0:Nat)):Int) + x10.1→j24<List.length L'1∧∀ (z25:Int),z25=U.fi L'1 j24 ((0:Nat))→∀ (z26:Int),z26=U.fi L'1 j24 ((0:Nat) + (1:Nat))→∀ (z27:Int),z27=U.fi L'1 j24 ((0:Nat) + (1:Nat) + (1:Nat))→∀ (z28:Int),z28=U.fi L'1 j24 ((0:Nat) + (1:Nat) + (1:Nat) + (1:Nat))→∀ (z29:List Int),z29=U.fs L'1 j24 ((0:Nat) + (1:Nat) + (1:Nat) + (1:Nat) + (1:Nat))→∀ (z30:List Int),z30=U.fs L'1 j24 ((0:Nat) + (1:Nat) + (1:Nat) + (1:Nat) + (1:Nat) + (1:Nat))→∀ (z31:Int),z31=U.fi L'1 j24 ((0:Nat) + (1:Nat) + (1:Nat) + (1:Nat) + (1:Nat) + (1:Nat) + (1:Nat))→((0:Nat) + x10.2.2.2.1≤List.length x10.2.2.1∧(0:Nat) + x10.2.2.2.2≤x10.2.2.2.2)∧True∧x10.2.2.2.1≤16777216∧(1:Nat)≤16777216∧∀ (L'32:List (List CV)) (n'33 c'34:Nat),L'32=List.take x10.2.2.2.1 (List.drop ((0:Nat)) x10.2.2.1) ++ [CV.i z25,CV.i z26,CV.i z27,CV.i z28,CV.s z29,CV.s z30,CV.i z31] :: U.nilL→n'33=x10.2.2.2.1 + (1:Nat)→n'33≤c'34→∀ (z35:Int),z35=IntKind.wrap .i64 (x10.1 + (1:Int))→∃ (y36:Int × (Rws × Nat × Nat) × Rws × Nat × Nat),((0:Nat)=0∧n'22=y36.2.1.2.1∧c'23=y36.2.1.2.2)∧((0:Nat)=0∧n'33=y36.2.2.2.1∧c'34=y36.2.2.2.2)∧((0:Nat)=0∧n'2=n'2∧c'3=c'3)∧((0:Nat)=0∧n'6=n'6∧c'7=c'7)∧z8=z8∧z35=y36.1∧((0:Nat)=0∧n=n∧c=c)∧((0:Nat)=0∧n=n∧d=d)∧(64:Int)=64∧now=now∧(L=L∧c=c∧false=false)∧(M=M∧d=d∧false=false)∧(U.nilL=U.nilL∧(0:Nat)=0∧false=false)∧(U.nilL=U.nilL∧(0:Nat)=0∧false=false)∧(U.nilL=U.nilL∧(0:Nat)=0∧false=false)∧(L'1=L'1∧c'3=c'3∧false=false)∧(L'5=L'5∧c'7=c'7∧false=false)∧(L'21=y36.2.1.1∧c'23=y36.2.1.2.2∧false=false)∧(L'32=y36.2.2.1∧c'34=y36.2.2.2.2∧false=false)∧U.jbdpI P F y36.1 y36.2.1.1 y36.2.1.2.1 y36.2.1.2.2 y36.2.2.1 y36.2.2.2.1 y36.2.2.2.2∧Int.toNat (↑n'6:Int) - Int.toNat y36.1<Int.toNat (↑n'6:Int) - Int.toNat x10.1)∧(¬z20≤now→∀ (z37:Int),z37=IntKind.wrap .i64 (x10.1 + (1:Int))→∃ (y38:Int × (Rws × Nat × Nat) × Rws × Nat × Nat),((0:Nat)=0∧x10.2.1.2.1=y38.2.1.2.1∧x10.2.1.2.2=y38.2.1.2.2)∧((0:Nat)=0∧x10.2.2.2.1=y38.2.2.2.1∧x10.2.2.2.2=y38.2.2.2.2)∧((0:Nat)=0∧n'2=n'2∧c'3=c'3)∧((0:Nat)=0∧n'6=n'6∧c'7=c'7)∧z8=z8∧z37=y38.1∧((0:Nat)=0∧n=n∧c=c)∧((0:Nat)=0∧n=n∧d=d)∧(64:Int)=64∧now=now∧(L=L∧c=c∧false=false)∧(M=M∧d=d∧false=false)∧(U.nilL=U.nilL∧(0:Nat)=0∧false=false)∧(U.nilL=U.nilL∧(0:Nat)=0∧false=false)∧(U.nilL=U.nilL∧(0:Nat)=0∧false=false)∧(L'1=L'1∧c'3=c'3∧false=false)∧(L'5=L'5∧c'7=c'7∧false=false)∧(x10.2.1.1=y38.2.1.1∧x10.2.1.2.2=y38.2.1.2.2∧false=false)∧(x10.2.2.1=y38.2.2.1∧x10.2.2.2.2=y38.2.2.2.2∧false=false)∧U.jbdpI P F y38.1 y38.2.1.1 y38.2.1.2.1 y38.2.1.2.2 y38.2.2.1 y38.2.2.2.1 y38.2.2.2.2∧Int.toNat (↑n'6:Int) - Int.toNat y38.1<Int.toNat (↑n'6:Int) - Int.toNat x10.1))∧(¬x10.1<z8→∃ (y39:JBP),(x10.2.1.2.2=x10.2.1.2.2∧(c=c∧d=d∧n=n)∧U.jbshI n c L d M y39∧n≤100000∧x10.2.1.2.1≤List.length x10.2.1.1∧x10.2.1.2.1≤1000000∧U.jbSrtR x10.2.1.1 x10.2.1.2.1)∧∀ (n'40:Nat) (L'41 M'42:Rws) (P'43:JBP),n'40=U.jblen P'43→U.jbSwp y39 x10.2.1.1 x10.2.1.2.1 P'43→U.jbshI n'40 c L'41 d M'42 P'43→K (Sum.inl (Sum.inl (rslC ⟨2,7,0,x10.2.2.2.1,x10.2.2.2.2⟩))) ⟨[jtB,some ⟨nat_lit 94,[rslC ⟨0,1,0,n'40,c⟩,rslC ⟨1,7,0,n'40,d⟩,xintC .i64 (64:Int)],none,3,false⟩],[],0,[some (jbkB L'41 c),some ⟨(43:TypeId),.o (.rows [.n .u64,.n .u32,.n .i64,.n .i64,CK.s,CK.s,.n .i64] M'42),[],d,false⟩,some ⟨(43:TypeId),.o (.rows [.n .u64,.n .u32,.n .i64,.n .i64,CK.s,CK.s,.n .i64] x10.2.2.1),[],x10.2.2.2.2,false⟩],0⟩)) := by kernel_rfl
end Go.Proofs.Ytgopjjimafcgjaa
end

section
set_option linter.unusedVariables false
set_option linter.unusedSimpArgs false
set_option maxRecDepth 10000
namespace Go.Proofs.Ytgopjjimafcgjaa
open Go Reck Ost
theorem fours {e : Env} {x y z u : AV} {vs : List Value} (h : [x, y, z, u].map (Reck.av e) = vs.map some) : ∃ a b c d, vs = [a, b, c, d] ∧ Reck.av e x = some a ∧ Reck.av e y = some b ∧ Reck.av e z = some c ∧ Reck.av e u = some d := by
  match vs, map_len h with
  | [a, b, c, d], _ => simp at h; exact ⟨a, b, c, d, rfl, h.1, h.2.1, h.2.2.1, h.2.2.2⟩
theorem map4 {e : Env} {x y z u : AV} {a b c d : Value} (h1 : Reck.av e x = some a) (h2 : Reck.av e y = some b) (h3 : Reck.av e z = some c) (h4 : Reck.av e u = some d) : [x, y, z, u].map (Reck.av e) = [a, b, c, d].map some := by
  rw [List.map_cons, List.map_cons, List.map_cons, List.map_cons, List.map_nil, h1, h2, h3, h4]; rfl
/-- What stands for the same may be told otherwise. -/
def U.Like (K : AV → St → Prop) : AV → St → Prop := fun x σ => ∃ x', (∀ (e : Env) (v : Value), Reck.av e x = some v → Reck.av e x' = some v) ∧ K x' σ
theorem like_ok {f : Nat} {vs : Array Value} {w0 w : World} {e : Env} {K : AV → St → Prop} (h : Calls Try.prog f vs w fun en w' => ∃ x σ' e' v, en = .returned v ∧ e.le e' ∧ Reck.av e' x = some v ∧ Ok w0 e' σ' w' ∧ U.Like K x σ') :
    Calls Try.prog f vs w fun en w' => ∃ x σ' e' v, en = .returned v ∧ e.le e' ∧ Reck.av e' x = some v ∧ Ok w0 e' σ' w' ∧ K x σ' := by
  refine h.mono ?_
  rintro en w' ⟨x, σ', e', v, h1, h2, h3, h4, x', h5, h6⟩
  exact ⟨x', σ', e', v, h1, h2, h5 _ _ h3, h4, h6⟩
/-- A binding that may be. -/
structure U.jMay (v : JBv) : Prop where
  mac : v.v0 < 281474976710655
  pl : (1 ≤ v.v2 ∧ v.v2 ≤ 8) ∧ 1 ≤ v.v3 ∧ v.v3 ≤ 8
  host : U.Nm v.v4
  user : v.v5 = [] ∨ U.Nm v.v5
/-- What a table holds. -/
structure U.jI (P : JBP) : Prop where
  wf : ∀ k v, (k, v) ∈ P → v.v0 = k ∧ U.jMay v
  ip : ∀ k v k' v', (k, v) ∈ P → (k', v') ∈ P → v.v1 = v'.v1 → k = k'
  pl : ∀ k v k' v', (k, v) ∈ P → (k', v') ∈ P → v.v2 = v'.v2 → v.v3 = v'.v3 → k = k'
structure U.Jb (n c : Nat) (L : Rws) (d : Nat) (M : Rws) (P : JBP) : Prop where
  s : U.jbshI n c L d M P
  i : U.jI P
theorem pig : ∀ (N : Nat) (l : List Nat), l.Nodup → (∀ x ∈ l, x < N) → l.length ≤ N
  | 0, [], _, _ => Nat.le_refl _
  | 0, a :: l, _, h => absurd (h a (List.mem_cons_self ..)) (Nat.not_lt_zero _)
  | N + 1, l, hd, h => by
    have h1 := pig N (l.erase N) (hd.erase N) fun x hx => by
      have a := (List.Nodup.mem_erase_iff hd).1 hx
      have b := h x a.2
      have := a.1
      omega
    have h2 := List.length_erase (a := N) (l := l)
    split at h2 <;> omega
theorem jlen_le {P : JBP} (hI : U.jI P) (hs : U.jbSrt P) : P.length ≤ 64 := by
  have h2 := pig 64 (P.map fun p => (p.2.v2 * 8 + p.2.v3 - 9).toNat) ?_ ?_
  · rw [List.length_map] at h2; exact h2
  · unfold List.Nodup
    rw [List.pairwise_map]
    refine List.Pairwise.imp_of_mem ?_ hs.out
    rintro ⟨k, v⟩ ⟨k', v'⟩ ha hb hlt he
    have p1 := (hI.wf _ _ ha).2.pl
    have p2 := (hI.wf _ _ hb).2.pl
    dsimp only at he hlt
    have := hI.pl _ _ _ _ ha hb (by omega) (by omega)
    omega
  · intro x hx
    obtain ⟨⟨k, v⟩, hm, rfl⟩ := List.mem_map.1 hx
    have p1 := (hI.wf _ _ hm).2.pl
    dsimp only
    omega
theorem jb_n {n c : Nat} {L : Rws} {d : Nat} {M : Rws} {P : JBP} (h : U.Jb n c L d M P) : P.length = n ∧ n ≤ 64 := by
  have h1 := jbshI_n h.s
  have := jlen_le h.i h.s.srt
  omega
/-- A slice of bindings that are Q. -/
structure U.jRw (Q : JBP) (L : Rws) (n c : Nat) : Prop where
  eq : L = U.jbvs Q
  ln : n = Q.length
  le : n ≤ c
  sm : n ≤ 100000
theorem jvs_len (Q : JBP) : (U.jbvs Q).length = Q.length := by simp [U.jbvs]
def jC (σ : St) : Option (Nat × Nat × Rws × Nat × Rws) := match σ with
  | ⟨[some ⟨68, [.inr (.inl (1, 0))], none, 1, false⟩, p], [], 0, [a1, a2], 0⟩ => match jbshC p a1 a2 with
    | some (n, c, L, d, M, m) => some (n, c, L, d, M)
    | _ => none
  | _ => none
def jD (σ : St) : Prop := match σ with
  | ⟨[_, p], _, _, [a1, a2], _⟩ => jbshD p a1 a2 ∧ (match p with
    | some ⟨_, [_, _, m], _, _, _⟩ => (match cInt m with
      | some a => a = 64
      | _ => False)
    | _ => False)
  | _ => False
theorem jC_eq {σ : St} {n c : Nat} {L : Rws} {d : Nat} {M : Rws} (h : jC σ = some (n, c, L, d, M)) (hy : jD σ) : σ = jSt n c L d M := by
  unfold jC at h
  split at h
  · split at h
    · rename_i m h4
      simp only [Option.some.injEq, Prod.mk.injEq] at h
      obtain ⟨rfl, rfl, rfl, rfl, rfl⟩ := h
      obtain ⟨y1, y2⟩ := hy
      obtain ⟨rfl, rfl, rfl⟩ := jbshC_eq h4 y1
      have y3 : (match cInt (xintC .i64 m) with
        | some a => a = 64
        | _ => False) := y2
      obtain rfl : m = 64 := y3
      rfl
    · cases h
  · cases h
def aPl (x : AV) : Option (Int × Int) := match x with
  | .inl (.inr [a, b]) => match xiX (cell a), xiX (cell b) with
    | some (.i64, a), some (.i64, b) => some (a, b)
    | _, _ => none
  | _ => none
theorem as_aPl {e : Env} {x : AV} {a b : Int} {v : Value} (h : aPl x = some (a, b)) (hv : Reck.av e x = some v) : Reck.av e (plA a b) = some v := by
  unfold aPl at h
  split at h
  · split at h
    · rename_i h1 h2
      simp only [Option.some.injEq, Prod.mk.injEq] at h
      obtain ⟨rfl, rfl⟩ := h
      rw [cInj (xiX_eq h1), cInj (xiX_eq h2)] at hv; exact hv
    · cases h
  · cases h
abbrev bdA (v : JBv) : AV := .inl (.inr v.cells)
def aBd (x : AV) : Option JBv := match x with
  | .inl (.inr l) => jbXA l
  | _ => none
theorem as_aBd {e : Env} {x : AV} {b : JBv} {v : Value} (h : aBd x = some b) (hv : Reck.av e x = some v) : Reck.av e (bdA b) = some v := by
  unfold aBd at h
  split at h
  · exact jbXA_av h hv
  · cases h
/-- A table, and one array more. -/
def jSx (n c : Nat) (L : Rws) (d : Nat) (M : Rws) (O : Rws) (co : Nat) : St := ⟨[jtB, jbB (rslC ⟨0, 1, 0, n, c⟩) (rslC ⟨1, 7, 0, n, d⟩) 64], [], 0, [some (jbkB L c), some (jbvB M d), some (jbvB O co)], 0⟩
def jS2 (n c : Nat) (L : Rws) (d : Nat) (M : Rws) : St := ⟨[jtB, jbB (rslC ⟨2, 1, 0, n, c⟩) (rslC ⟨3, 7, 0, n, d⟩) 64], [], 0, [none, none, some (jbkB L c), some (jbvB M d)], 0⟩
theorem j_srt_eq : ∀ {P Q : JBP}, U.jbSrt P → U.jbSrt Q → (∀ x, x ∈ P ↔ x ∈ Q) → P = Q
  | [], [], _, _, _ => rfl
  | [], b :: Q, _, _, h => by have := (h b).2 (List.mem_cons_self ..); cases this
  | a :: P, [], _, _, h => by have := (h a).1 (List.mem_cons_self ..); cases this
  | a :: P, b :: Q, hp, hq, h => by
    have p1 := List.pairwise_cons.1 hp.out
    have q1 := List.pairwise_cons.1 hq.out
    have e : a = b := by
      rcases List.mem_cons.1 ((h a).1 (List.mem_cons_self ..)) with e | e
      · exact e
      · rcases List.mem_cons.1 ((h b).2 (List.mem_cons_self ..)) with f | f
        · exact f.symm
        · have a1 := q1.1 a e
          have a2 := p1.1 b f
          omega
    subst e
    rw [j_srt_eq ⟨p1.2⟩ ⟨q1.2⟩ fun x => ?_]
    constructor
    · intro hx
      rcases List.mem_cons.1 ((h x).1 (List.mem_cons_of_mem _ hx)) with e | e
      · subst e; exact (jbirr (p1.1 x hx)).elim
      · exact e
    · intro hx
      rcases List.mem_cons.1 ((h x).2 (List.mem_cons_of_mem _ hx)) with e | e
      · subst e; exact (jbirr (q1.1 x hx)).elim
      · exact e
/-- Another user at a machine. -/
def U.jSet (P : JBP) (m : Int) (u : List Int) : JBP := P.map fun p => if p.1 = m then (p.1, { p.2 with v5 := u }) else p
theorem jset_fst (P : JBP) (m : Int) (u : List Int) : (U.jSet P m u).map Prod.fst = P.map Prod.fst := by
  unfold U.jSet
  rw [List.map_map]
  apply List.map_congr_left
  intro p _
  show (if p.1 = m then (p.1, { p.2 with v5 := u }) else p).1 = p.1
  split <;> rfl
theorem jsrt_fst {P Q : JBP} (h : P.map Prod.fst = Q.map Prod.fst) (hs : U.jbSrt Q) : U.jbSrt P := by
  have h1 : (Q.map Prod.fst).Pairwise (· < ·) := by rw [List.pairwise_map]; exact hs.out
  rw [← h, List.pairwise_map] at h1
  exact ⟨h1⟩
theorem jset_srt {P : JBP} (hs : U.jbSrt P) (m : Int) (u : List Int) : U.jbSrt (U.jSet P m u) := jsrt_fst (jset_fst P m u) hs
theorem jset_mem {P : JBP} {m : Int} {u : List Int} {x : Int} {y : JBv} : (x, y) ∈ U.jSet P m u ↔ (x ≠ m ∧ (x, y) ∈ P) ∨ (x = m ∧ ∃ v, (m, v) ∈ P ∧ y = { v with v5 := u }) := by
  unfold U.jSet
  rw [List.mem_map]
  constructor
  · rintro ⟨⟨k, v⟩, hm, he⟩
    dsimp only at he
    split at he
    · rename_i hk
      subst hk
      simp only [Prod.mk.injEq] at he
      exact .inr ⟨he.1.symm, v, hm, he.2.symm⟩
    · rename_i hk
      simp only [Prod.mk.injEq] at he
      obtain ⟨rfl, rfl⟩ := he
      exact .inl ⟨hk, hm⟩
  · rintro (⟨hx, hm⟩ | ⟨rfl, v, hm, rfl⟩)
    · exact ⟨_, hm, by dsimp only; rw [if_neg hx]⟩
    · exact ⟨_, hm, by dsimp only; rw [if_pos rfl]⟩
theorem jput_set {P P' : JBP} {m : Int} {v : JBv} {u : List Int} (hs : U.jbSrt P) (hm : (m, v) ∈ P) (h : U.jbPut P m { v with v5 := u } P') : P' = U.jSet P m u := by
  refine j_srt_eq h.srt (jset_srt hs m u) ?_
  rintro ⟨x, y⟩
  rw [h.mem, jset_mem]
  constructor
  · rintro (⟨rfl, rfl⟩ | ⟨hx, hne⟩)
    · exact .inr ⟨rfl, v, hm, rfl⟩
    · exact .inl ⟨hne, hx⟩
  · rintro (⟨hne, hx⟩ | ⟨rfl, w, hw, rfl⟩)
    · exact .inr ⟨hx, hne⟩
    · rw [jbone hs hm hw]; exact .inl ⟨rfl, rfl⟩
theorem jset_I {P : JBP} (h : U.jI P) (m : Int) {u : List Int} (hu : u = [] ∨ U.Nm u) : U.jI (U.jSet P m u) := by
  have key : ∀ k v, (k, v) ∈ U.jSet P m u → ∃ v', (k, v') ∈ P ∧ v.v0 = v'.v0 ∧ v.v1 = v'.v1 ∧ v.v2 = v'.v2 ∧ v.v3 = v'.v3 ∧ v.v4 = v'.v4 ∧ (v.v5 = [] ∨ U.Nm v.v5) := by
    intro k v hv
    rcases jset_mem.1 hv with ⟨_, hm⟩ | ⟨rfl, w, hw, rfl⟩
    · exact ⟨v, hm, rfl, rfl, rfl, rfl, rfl, (h.wf _ _ hm).2.user⟩
    · exact ⟨w, hw, rfl, rfl, rfl, rfl, rfl, hu⟩
  refine ⟨fun k v hv => ?_, fun k v k' v' hv hv' he => ?_, fun k v k' v' hv hv' he he' => ?_⟩
  · obtain ⟨w, hw, e0, e1, e2, e3, e4, e5⟩ := key k v hv
    have g := h.wf _ _ hw
    exact ⟨e0.trans g.1, ⟨by rw [e0]; exact g.2.mac, by rw [e2, e3]; exact g.2.pl, by rw [e4]; exact g.2.host, e5⟩⟩
  · obtain ⟨w, hw, e0, e1, e2, e3, e4, e5⟩ := key k v hv
    obtain ⟨w', hw', f0, f1, f2, f3, f4, f5⟩ := key k' v' hv'
    exact h.ip _ _ _ _ hw hw' (by rw [← e1, ← f1]; exact he)
  · obtain ⟨w, hw, e0, e1, e2, e3, e4, e5⟩ := key k v hv
    obtain ⟨w', hw', f0, f1, f2, f3, f4, f5⟩ := key k' v' hv'
    exact h.pl _ _ _ _ hw hw' (by rw [← e2, ← f2]; exact he) (by rw [← e3, ← f3]; exact he')
theorem jflt_I {P : JBP} (h : U.jI P) (f : Int × JBv → Bool) : U.jI (P.filter f) :=
  ⟨fun k v hv => h.wf k v (List.mem_filter.1 hv).1, fun k v k' v' hv hv' => h.ip k v k' v' (List.mem_filter.1 hv).1 (List.mem_filter.1 hv').1, fun k v k' v' hv hv' => h.pl k v k' v' (List.mem_filter.1 hv).1 (List.mem_filter.1 hv').1⟩
/-- Those that go, those that stay. -/
def U.jGone (f : Int × JBv → Bool) (P : JBP) : JBP := P.filter f
def U.jRest (f : Int × JBv → Bool) (P : JBP) : JBP := P.filter fun p => !f p
theorem jb_rest {n c : Nat} {L : Rws} {d : Nat} {M : Rws} {P : JBP} (h : U.Jb n c L d M P) {f : Int × JBv → Bool} {n' : Nat} {L' M' : Rws} (h' : U.jbshI n' c L' d M' (U.jRest f P)) : U.Jb n' c L' d M' (U.jRest f P) := ⟨h', jflt_I h.i _⟩
theorem jb_nil : U.Jb 0 0 [] 0 [] [] := ⟨⟨⟨rfl, rfl, Nat.le_refl _, by decide⟩, ⟨rfl, rfl, Nat.le_refl _, by decide⟩, ⟨List.Pairwise.nil⟩⟩, ⟨fun _ _ h => (List.not_mem_nil h).elim, fun _ _ _ _ h => (List.not_mem_nil h).elim, fun _ _ _ _ h => (List.not_mem_nil h).elim⟩⟩
/-- The fields of a row. -/
theorem jb_fi {P : JBP} {j : Nat} {p : Int × JBv} (h : P[j]? = some p) : U.fi (U.jbvs P) j 0 = p.2.v0 ∧ U.fi (U.jbvs P) j (0 + 1) = p.2.v1 ∧ U.fi (U.jbvs P) j (0 + 1 + 1) = p.2.v2 ∧ U.fi (U.jbvs P) j (0 + 1 + 1 + 1) = p.2.v3 ∧ U.fs (U.jbvs P) j (0 + 1 + 1 + 1 + 1) = p.2.v4 ∧ U.fs (U.jbvs P) j (0 + 1 + 1 + 1 + 1 + 1) = p.2.v5 ∧ U.fi (U.jbvs P) j (0 + 1 + 1 + 1 + 1 + 1 + 1) = p.2.v6 := by
  have := (jbat h).1
  unfold U.fi U.fs
  rw [this]
  exact ⟨rfl, rfl, rfl, rfl, rfl, rfl, rfl⟩
theorem jmay_run (K : AV → St → Prop) (v : JBv) (h1 : U.jMay v → K (lit (.bool true)) emptySt) (h2 : ¬ U.jMay v → K (lit (.bool false)) emptySt) : runR inv0 tJn 39 [jbA v.v0 v.v1 v.v2 v.v3 v.v4 v.v5 v.v6] emptySt K := by
  rw [jmay_vc]
  have no : ¬ (v.v0 < 281474976710655 ∧ ((1 ≤ v.v2 ∧ v.v2 ≤ 8) ∧ 1 ≤ v.v3 ∧ v.v3 ≤ 8) ∧ U.Nm v.v4 ∧ (v.v5 = [] ∨ U.Nm v.v5)) → K (lit (.bool false)) emptySt := fun h => h2 fun g => h ⟨g.mac, g.pl, g.host, g.user⟩
  exact ⟨fun a => ⟨fun b => ⟨fun c => ⟨fun d => ⟨fun e => ⟨fun f => ⟨fun g => h1 ⟨a, ⟨⟨b, c⟩, d, e⟩, f, .inl g⟩, fun g => ⟨fun i => h1 ⟨a, ⟨⟨b, c⟩, d, e⟩, f, .inr i⟩, fun i => no fun x => x.2.2.2.elim g i⟩⟩, fun f => no fun x => f x.2.2.1⟩, fun e => no fun x => e x.2.1.2.2⟩, fun d => no fun x => d x.2.1.2.1⟩, fun c => no fun x => c x.2.1.1.2⟩, fun b => no fun x => b x.2.1.1.1⟩, fun a => no fun x => a x.1⟩
theorem jrmay_run (K : AV → St → Prop) (v : JBv) (h1 : U.jMay v → K (lit (.bool true)) emptySt) (h2 : ¬ U.jMay v → K (lit (.bool false)) emptySt) : runR inv0 tJn 25 [jbA v.v0 v.v1 v.v2 v.v3 v.v4 v.v5 v.v6] emptySt K := by
  rw [jrmay_vc]
  have no : ¬ (v.v0 < 281474976710655 ∧ ((1 ≤ v.v2 ∧ v.v2 ≤ 8) ∧ 1 ≤ v.v3 ∧ v.v3 ≤ 8) ∧ U.Nm v.v4 ∧ (v.v5 = [] ∨ U.Nm v.v5)) → K (lit (.bool false)) emptySt := fun h => h2 fun g => h ⟨g.mac, g.pl, g.host, g.user⟩
  exact ⟨fun a => ⟨fun b => ⟨fun c => ⟨fun d => ⟨fun e => ⟨fun f => ⟨fun g => h1 ⟨a, ⟨⟨by omega, by omega⟩, by omega, by omega⟩, f, .inl g⟩, fun g => ⟨fun i => h1 ⟨a, ⟨⟨by omega, by omega⟩, by omega, by omega⟩, f, .inr i⟩, fun i => no fun x => x.2.2.2.elim g i⟩⟩, fun f => no fun x => f x.2.2.1⟩, fun e => no fun x => e (by omega)⟩, fun d => no fun x => d (by omega)⟩, fun c => no fun x => c (by omega)⟩, fun b => no fun x => b (by omega)⟩, fun a => no fun x => a x.1⟩
def pjmay : Pat := fun args σ => match args, σ with
  | [x], ⟨[], [], 0, [], 0⟩ => match aBd x with
    | some v => some fun K => (U.jMay v → K (lit (.bool true)) emptySt) ∧ (¬ U.jMay v → K (lit (.bool false)) emptySt)
    | _ => none
  | _, _ => none
theorem pjmay_ok : PatOk 39 pjmay := by
  intro tm σ C h K hK w0 e w hk vs hvs
  unfold pjmay at h
  split at h
  · split at h
    · rename_i h0
      simp only [Option.some.injEq] at h; subst h
      obtain ⟨y0, rfl, q0⟩ := ones hvs
      exact knownC noOv names (conOk_ofR tJn_ok) (jmay_run K _ hK.1 hK.2) w0 e w hk _ (map1 (as_aBd h0 q0))
    · cases h
  · cases h
theorem prjmay_ok : PatOk 25 pjmay := by
  intro tm σ C h K hK w0 e w hk vs hvs
  unfold pjmay at h
  split at h
  · split at h
    · rename_i h0
      simp only [Option.some.injEq] at h; subst h
      obtain ⟨y0, rfl, q0⟩ := ones hvs
      exact knownC noOv names (conOk_ofR tJn_ok) (jrmay_run K _ hK.1 hK.2) w0 e w hk _ (map1 (as_aBd h0 q0))
    · cases h
  · cases h
def pjnew : Pat := fun args σ => match args, σ with
  | [], ⟨[], [], 0, [], 0⟩ => some fun K => K (ptr 0 0) (jSt 0 0 [] 0 [])
  | _, _ => none
theorem pjnew_ok : PatOk 8 pjnew := by
  intro tm σ C h K hK w0 e w hk vs hvs
  unfold pjnew at h
  split at h
  · simp only [Option.some.injEq] at h; subst h
    exact knownC noOv names (conOk_ofR tJn_ok) (show runR inv0 tJn 8 [] emptySt K by rw [jnew_vc]; exact hK) w0 e w hk vs hvs
  · cases h
theorem jall_run (K : AV → St → Prop) (n c : Nat) (L : Rws) (d : Nat) (M : Rws) (P : JBP) (hQ : U.Jb n c L d M P) (hK : ∀ (O : Rws) (r co : Nat), U.jRw P O r co → K (cell (rslC ⟨2, 7, 0, r, co⟩)) (jSx n c L d M O co)) : runR inv0 tJn 15 [ptr 0 0] (jSt n c L d M) K := by
  rw [jall_vc]
  have hn := jb_n hQ
  exact ⟨P, ⟨⟨rfl, rfl, rfl⟩, hQ.s⟩, fun O r co e1 e2 e3 => hK O r co ⟨e3, by omega, e2, by omega⟩⟩
def pjall : Pat := fun args σ => match args with
  | [.inl (.inl (.inr (.inl (0, 0))))] => match jC σ with
    | some (n, c, L, d, M) => some fun K => ∃ P : JBP, (jD σ ∧ U.Jb n c L d M P) ∧ ∀ (O : Rws) (r co : Nat), U.jRw P O r co → K (cell (rslC ⟨2, 7, 0, r, co⟩)) (jSx n c L d M O co)
    | _ => none
  | _ => none
theorem pjall_ok : PatOk 15 pjall := by
  intro tm σ C h K hK w0 e w hk vs hvs
  unfold pjall at h
  split at h
  · split at h
    · rename_i  hσ
      simp only [Option.some.injEq] at h; subst h
      obtain ⟨P, ⟨hd, hQ⟩, hP⟩ := hK
      obtain rfl := jC_eq hσ hd
      obtain ⟨y0, rfl, q0⟩ := ones hvs
      exact knownC noOv names (conOk_ofR tJn_ok) (jall_run K _ _ _ _ _ P hQ  hP) w0 e w hk _ (map1 q0 )
    · cases h
  · cases h
theorem jof_run (K : AV → St → Prop) (n c : Nat) (L : Rws) (d : Nat) (M : Rws) (P : JBP) (hQ : U.Jb n c L d M P) (ip : Int) (hK : (∀ k v, (k, v) ∈ P → v.v1 = ip → K (jbge v.v0 v.v1 v.v2 v.v3 v.v4 v.v5 v.v6 true) (jSt n c L d M)) ∧ ((∀ p ∈ P, ¬ p.2.v1 = ip) → K jbg0 (jSt n c L d M))) : runR (invJf P fun p => decide (p.2.v1 = ip)) tJn 19 [ptr 0 0, xi .u32 ip] (jSt n c L d M) K := by
  rw [jof_vc]
  have hn := jb_n hQ
  refine ⟨P, ⟨⟨rfl, rfl, rfl⟩, hQ.s⟩, fun V n3 c4 e3 e4 e5 z5 h5 => ⟨?_, ?_⟩⟩
  · refine ⟨0, ?_⟩
    repeat' (first | exact rfl | with_reducible apply And.intro)
    exact ⟨by omega, by omega, fun m hm => by omega⟩
  · rintro i hI
    obtain ⟨i1, i2, i3⟩ := hI.out
    have hvl : V.length = P.length := by rw [e5]; simp [U.jbvs]
    refine ⟨fun hi => ⟨⟨by omega, by omega⟩, fun j hj => ⟨by omega, ?_⟩⟩, fun hi => ?_⟩
    · obtain ⟨p, hp⟩ : ∃ p, P[j]? = some p := ⟨_, List.getElem?_eq_getElem (show j < P.length by omega)⟩
      obtain ⟨f0, f1, f2, f3, f4, f5, f6⟩ := jb_fi hp
      rw [← e5] at f0 f1 f2 f3 f4 f5 f6
      rw [f0, f1, f2, f3, f4, f5, f6]
      rintro _ rfl _ rfl _ rfl _ rfl _ rfl _ rfl _ rfl
      refine ⟨fun he => ⟨fun h => absurd h (by omega), fun _ => ⟨⟨by omega, by omega⟩, fun j2 hj2 => ⟨by omega, ?_⟩⟩⟩, fun hne z14 h14 => ?_⟩
      · obtain rfl : j2 = j := by omega
        rw [f0, f1, f2, f3, f4, f5, f6]
        rintro _ rfl _ rfl _ rfl _ rfl _ rfl _ rfl _ rfl
        exact hK.1 p.1 _ (List.mem_of_getElem? hp) he
      have e14 := iw h14 (by omega)
      refine ⟨z14, ?_⟩
      repeat' (first | exact rfl | with_reducible apply And.intro)
      · refine ⟨by omega, by omega, fun m hm p' hpm => ?_⟩
        by_cases em : m = j
        · subst em
          rw [hp] at hpm
          cases hpm; exact decide_eq_false hne
        · exact i3 m (by omega) p' hpm
      · omega
    · refine hK.2 fun p hp he => ?_
      obtain ⟨m, hm⟩ := List.getElem?_of_mem hp
      have hml := (List.getElem?_eq_some_iff.1 hm).1
      have := i3 m (by omega) p hm
      exact of_decide_eq_false this he
def pjof : Pat := fun args σ => match args with
  | [.inl (.inl (.inr (.inl (0, 0)))), a0] => match aIntK .u32 a0, jC σ with
    | some ip, some (n, c, L, d, M) => some fun K => ∃ P : JBP, (jD σ ∧ U.Jb n c L d M P) ∧ (∀ k v, (k, v) ∈ P → v.v1 = ip → K (jbge v.v0 v.v1 v.v2 v.v3 v.v4 v.v5 v.v6 true) (jSt n c L d M)) ∧ ((∀ p ∈ P, ¬ p.2.v1 = ip) → K jbg0 (jSt n c L d M))
    | _, _ => none
  | _ => none
theorem pjof_ok : PatOk 19 pjof := by
  intro tm σ C h K hK w0 e w hk vs hvs
  unfold pjof at h
  split at h
  · split at h
    · rename_i h0 hσ
      simp only [Option.some.injEq] at h; subst h
      obtain ⟨P, ⟨hd, hQ⟩, hP⟩ := hK
      obtain rfl := jC_eq hσ hd
      obtain ⟨y0, y1, rfl, q0, q1⟩ := twos hvs
      exact knownC noOv names (conOk_ofR tJn_ok) (jof_run K _ _ _ _ _ P hQ _ hP) w0 e w hk _ (map2 q0 (as_aIntK h0 q1))
    · cases h
  · cases h
theorem jat_run (K : AV → St → Prop) (n c : Nat) (L : Rws) (d : Nat) (M : Rws) (P : JBP) (hQ : U.Jb n c L d M P) (s0 s1 : Int) (hK : (∀ k v, (k, v) ∈ P → v.v2 = s0 ∧ v.v3 = s1 → K (jbge v.v0 v.v1 v.v2 v.v3 v.v4 v.v5 v.v6 true) (jSt n c L d M)) ∧ ((∀ p ∈ P, ¬ (p.2.v2 = s0 ∧ p.2.v3 = s1)) → K jbg0 (jSt n c L d M))) : runR (invJf P fun p => decide (p.2.v2 = s0 ∧ p.2.v3 = s1)) tJn 20 [ptr 0 0, plA s0 s1] (jSt n c L d M) K := by
  rw [jat_vc]
  have hn := jb_n hQ
  refine ⟨P, ⟨⟨rfl, rfl, rfl⟩, hQ.s⟩, fun V n3 c4 e3 e4 e5 z5 h5 => ⟨?_, ?_⟩⟩
  · refine ⟨0, ?_⟩
    repeat' (first | exact rfl | with_reducible apply And.intro)
    exact ⟨by omega, by omega, fun m hm => by omega⟩
  · rintro i hI
    obtain ⟨i1, i2, i3⟩ := hI.out
    have hvl : V.length = P.length := by rw [e5]; simp [U.jbvs]
    refine ⟨fun hi => ⟨⟨by omega, by omega⟩, fun j hj => ⟨by omega, ?_⟩⟩, fun hi => ?_⟩
    · obtain ⟨p, hp⟩ : ∃ p, P[j]? = some p := ⟨_, List.getElem?_eq_getElem (show j < P.length by omega)⟩
      obtain ⟨f0, f1, f2, f3, f4, f5, f6⟩ := jb_fi hp
      rw [← e5] at f0 f1 f2 f3 f4 f5 f6
      rw [f0, f1, f2, f3, f4, f5, f6]
      rintro _ rfl _ rfl _ rfl _ rfl _ rfl _ rfl _ rfl
      refine ⟨fun he => ⟨fun h => absurd h (by omega), fun _ => ⟨⟨by omega, by omega⟩, fun j2 hj2 => ⟨by omega, ?_⟩⟩⟩, fun hne z14 h14 => ?_⟩
      · obtain rfl : j2 = j := by omega
        rw [f0, f1, f2, f3, f4, f5, f6]
        rintro _ rfl _ rfl _ rfl _ rfl _ rfl _ rfl _ rfl
        exact hK.1 p.1 _ (List.mem_of_getElem? hp) ⟨he.1, he.2.1⟩
      have e14 := iw h14 (by omega)
      refine ⟨z14, ?_⟩
      repeat' (first | exact rfl | with_reducible apply And.intro)
      · refine ⟨by omega, by omega, fun m hm p' hpm => ?_⟩
        by_cases em : m = j
        · subst em
          rw [hp] at hpm
          cases hpm; exact decide_eq_false (fun g => hne ⟨g.1, g.2, trivial⟩)
        · exact i3 m (by omega) p' hpm
      · omega
    · refine hK.2 fun p hp he => ?_
      obtain ⟨m, hm⟩ := List.getElem?_of_mem hp
      have hml := (List.getElem?_eq_some_iff.1 hm).1
      have := i3 m (by omega) p hm
      exact of_decide_eq_false this he
def pjat : Pat := fun args σ => match args with
  | [.inl (.inl (.inr (.inl (0, 0)))), a0] => match aPl a0, jC σ with
    | some (s0, s1), some (n, c, L, d, M) => some fun K => ∃ P : JBP, (jD σ ∧ U.Jb n c L d M P) ∧ (∀ k v, (k, v) ∈ P → v.v2 = s0 ∧ v.v3 = s1 → K (jbge v.v0 v.v1 v.v2 v.v3 v.v4 v.v5 v.v6 true) (jSt n c L d M)) ∧ ((∀ p ∈ P, ¬ (p.2.v2 = s0 ∧ p.2.v3 = s1)) → K jbg0 (jSt n c L d M))
    | _, _ => none
  | _ => none
theorem pjat_ok : PatOk 20 pjat := by
  intro tm σ C h K hK w0 e w hk vs hvs
  unfold pjat at h
  split at h
  · split at h
    · rename_i h0 hσ
      simp only [Option.some.injEq] at h; subst h
      obtain ⟨P, ⟨hd, hQ⟩, hP⟩ := hK
      obtain rfl := jC_eq hσ hd
      obtain ⟨y0, y1, rfl, q0, q1⟩ := twos hvs
      exact knownC noOv names (conOk_ofR tJn_ok) (jat_run K _ _ _ _ _ P hQ _ _ hP) w0 e w hk _ (map2 q0 (as_aPl h0 q1))
    · cases h
  · cases h
theorem jlogin_run (K : AV → St → Prop) (n c : Nat) (L : Rws) (d : Nat) (M : Rws) (P : JBP) (hQ : U.Jb n c L d M P) (m : Int) (u : List Int) (hK : (∀ v (n' c' : Nat) (L' : Rws) (d' : Nat) (M' : Rws), (m, v) ∈ P → U.Nm u → U.Jb n' c' L' d' M' (U.jSet P m u) → K (lit (.bool true)) (jS2 n' c' L' d' M')) ∧ (¬ (U.jbHasK P m ∧ U.Nm u) → K (lit (.bool false)) (jSt n c L d M))) : runR inv0 tJn 21 [ptr 0 0, xi .u64 m, cell (strC u)] (jSt n c L d M) K := by
  rw [jlogin_vc]
  have hn := jb_n hQ
  refine ⟨P, ⟨⟨rfl, rfl, rfl⟩, hQ.s, by omega⟩, fun v0 v1 v2 v3 v4 v5 v6 hE => ⟨fun hu => ?_, fun hu => hK.2 fun g => hu g.2⟩, fun hno => hK.2 fun g => hno g.1⟩
  have hm := hE.out
  have hk := (hQ.i.wf _ _ hm).1
  dsimp only at hk
  subst hk
  refine ⟨P, ⟨⟨rfl, rfl, rfl⟩, hQ.s, by omega⟩, fun _ L' n' c' M' d' P' e1 e2 e3 => ?_, fun h => (h ⟨.inl ⟨_, hm⟩⟩).elim⟩
  have := jput_set hQ.s.srt hm e2
  subst this
  repeat' (first | exact rfl | with_reducible apply And.intro)
  exact hK.1 _ _ _ _ _ _ hm hu ⟨e3, jset_I hQ.i _ (.inr hu)⟩
def pjlogin : Pat := fun args σ => match args with
  | [.inl (.inl (.inr (.inl (0, 0)))), a0, a1] => match aIntK .u64 a0, strX a1, jC σ with
    | some m, some u, some (n, c, L, d, M) => some fun K => ∃ P : JBP, (jD σ ∧ U.Jb n c L d M P) ∧ (∀ v (n' c' : Nat) (L' : Rws) (d' : Nat) (M' : Rws), (m, v) ∈ P → U.Nm u → U.Jb n' c' L' d' M' (U.jSet P m u) → K (lit (.bool true)) (jS2 n' c' L' d' M')) ∧ (¬ (U.jbHasK P m ∧ U.Nm u) → K (lit (.bool false)) (jSt n c L d M))
    | _, _, _ => none
  | _ => none
theorem pjlogin_ok : PatOk 21 pjlogin := by
  intro tm σ C h K hK w0 e w hk vs hvs
  unfold pjlogin at h
  split at h
  · split at h
    · rename_i h0 h1 hσ
      simp only [Option.some.injEq] at h; subst h
      obtain ⟨P, ⟨hd, hQ⟩, hP⟩ := hK
      obtain rfl := jC_eq hσ hd
      obtain ⟨y0, y1, y2, rfl, q0, q1, q2⟩ := threes hvs
      exact knownC noOv names (conOk_ofR tJn_ok) (jlogin_run K _ _ _ _ _ P hQ _ _ hP) w0 e w hk _ (map3 q0 (as_aIntK h0 q1) (as_str h1 q2))
    · cases h
  · cases h
theorem jlogout_run (K : AV → St → Prop) (n c : Nat) (L : Rws) (d : Nat) (M : Rws) (P : JBP) (hQ : U.Jb n c L d M P) (m : Int) (hK : (∀ v (n' c' : Nat) (L' : Rws) (d' : Nat) (M' : Rws), (m, v) ∈ P → ¬ v.v5 = [] → U.Jb n' c' L' d' M' (U.jSet P m []) → K (jbge v.v0 v.v1 v.v2 v.v3 v.v4 v.v5 v.v6 true) (jS2 n' c' L' d' M')) ∧ ((∀ v, (m, v) ∈ P → v.v5 = []) → K jbg0 (jSt n c L d M))) : runR inv0 tJn 18 [ptr 0 0, xi .u64 m] (jSt n c L d M) K := by
  rw [jlogout_vc]
  have hn := jb_n hQ
  refine ⟨P, ⟨⟨rfl, rfl, rfl⟩, hQ.s, by omega⟩, fun v0 v1 v2 v3 v4 v5 v6 hE => ⟨fun hu => hK.2 fun v hv => ?_, fun hu => ?_⟩, fun hno => hK.2 fun v hv => (hno ⟨v, hv⟩).elim⟩
  · rw [jbone hQ.s.srt hv hE.out]; exact hu
  have hm := hE.out
  have hk := (hQ.i.wf _ _ hm).1
  dsimp only at hk
  subst hk
  refine ⟨P, ⟨⟨rfl, rfl, rfl⟩, hQ.s, by omega⟩, fun _ L' n' c' M' d' P' e1 e2 e3 => ?_, fun h => (h ⟨.inl ⟨_, hm⟩⟩).elim⟩
  have := jput_set hQ.s.srt hm e2
  subst this
  repeat' (first | exact rfl | with_reducible apply And.intro)
  exact hK.1 _ _ _ _ _ _ hm hu ⟨e3, jset_I hQ.i _ (.inl rfl)⟩
def pjlogout : Pat := fun args σ => match args with
  | [.inl (.inl (.inr (.inl (0, 0)))), a0] => match aIntK .u64 a0, jC σ with
    | some m, some (n, c, L, d, M) => some fun K => ∃ P : JBP, (jD σ ∧ U.Jb n c L d M P) ∧ (∀ v (n' c' : Nat) (L' : Rws) (d' : Nat) (M' : Rws), (m, v) ∈ P → ¬ v.v5 = [] → U.Jb n' c' L' d' M' (U.jSet P m []) → K (jbge v.v0 v.v1 v.v2 v.v3 v.v4 v.v5 v.v6 true) (jS2 n' c' L' d' M')) ∧ ((∀ v, (m, v) ∈ P → v.v5 = []) → K jbg0 (jSt n c L d M))
    | _, _ => none
  | _ => none
theorem pjlogout_ok : PatOk 18 pjlogout := by
  intro tm σ C h K hK w0 e w hk vs hvs
  unfold pjlogout at h
  split at h
  · split at h
    · rename_i h0 hσ
      simp only [Option.some.injEq] at h; subst h
      obtain ⟨P, ⟨hd, hQ⟩, hP⟩ := hK
      obtain rfl := jC_eq hσ hd
      obtain ⟨y0, y1, rfl, q0, q1⟩ := twos hvs
      exact knownC noOv names (conOk_ofR tJn_ok) (jlogout_run K _ _ _ _ _ P hQ _ hP) w0 e w hk _ (map2 q0 (as_aIntK h0 q1))
    · cases h
  · cases h
def U.jFt (now : Int) (p : Int × JBv) : Bool := decide (p.2.v6 ≤ now)
set_option maxHeartbeats 2000000 in
theorem jtick_run (K : AV → St → Prop) (n c : Nat) (L : Rws) (d : Nat) (M : Rws) (P : JBP) (hQ : U.Jb n c L d M P) (now : Int) (hK : ∀ (n' : Nat) (L' M' : Rws) (O : Rws) (r co : Nat), U.Jb n' c L' d M' (U.jRest (U.jFt now) P) → U.jRw (U.jGone (U.jFt now) P) O r co → K (cell (rslC ⟨2, 7, 0, r, co⟩)) (jSx n' c L' d M' O co)) : runQ (invJd P (U.jFt now)) tJd 24 [ptr 0 0, xi .i64 now] (jSt n c L d M) K := by
  have hl := hQ.s
  have hn := jb_n hQ
  have hvl : (U.jbvs P).length = P.length := by simp [U.jbvs]
  have hkl : (U.jbks P).length = P.length := by simp [U.jbks]
  rw [jtick_vc]
  refine ⟨P, ⟨⟨rfl, rfl, rfl⟩, hl⟩, fun V n2 c3 e2 e3 e4 => ⟨P, ⟨⟨rfl, rfl, rfl⟩, hl⟩, fun KK n6 c7 e6 e7 e8 z8 h8 => ⟨?_, ?_⟩⟩⟩
  · refine ⟨(0, (([], (0, 0)), ([], (0, 0)))), ?_⟩
    repeat' (first | exact rfl | with_reducible apply And.intro)
    exact jbdp_0 P _
  subst e4 e8
  rintro ⟨i, ⟨G, r1, cg⟩, O, r, co⟩ hI
  obtain ⟨⟨i1, i2⟩, g1, o1, g2, g3, o2, o3, o4, o5⟩ := hI.out
  dsimp only at i1 i2 g1 o1 g2 g3 o2 o3 o4 o5 hI ⊢
  refine ⟨fun hi => ⟨⟨by omega, by omega⟩, fun j hj => ⟨by omega, fun z12 h12 => ⟨⟨by omega, by omega⟩, fun j13 hj13 => ⟨by omega, ?_⟩⟩⟩⟩, fun hi => ?_⟩
  · obtain rfl : j13 = j := by omega
    obtain ⟨p, hp⟩ : ∃ p, P[j13]? = some p := ⟨_, List.getElem?_eq_getElem (show j13 < P.length by omega)⟩
    obtain ⟨f0, f1, f2, f3, f4, f5, f6⟩ := jb_fi hp
    rw [(jbat hp).2.2] at h12
    subst h12
    rw [f0, f1, f2, f3, f4, f5, f6]
    rintro _ rfl _ rfl _ rfl _ rfl _ rfl _ rfl _ rfl
    refine ⟨fun hlt => ?_, fun hge z20 h20 => ?_⟩
    · have hF : U.jFt now p = true := by unfold U.jFt; simpa using hlt
      refine ⟨⟨by omega, by omega⟩, trivial, by omega, by decide, fun L20 n21 c22 e20 e21 e22 => ⟨⟨by omega, by omega⟩, fun j23 hj23 => ⟨by omega, ?_⟩⟩⟩
      obtain rfl : j23 = j13 := by omega
      rw [f0, f1, f2, f3, f4, f5, f6]
      rintro _ rfl _ rfl _ rfl _ rfl _ rfl _ rfl _ rfl
      refine ⟨⟨by omega, by omega⟩, trivial, by omega, by decide, fun L29 n30 c31 e29 e30 e31 z32 h32 => ?_⟩
      have ez := iw h32 (by omega)
      refine ⟨(z32, ((L20, (n21, c22)), (L29, (n30, c31)))), ?_⟩
      repeat' (first | exact rfl | exact jbdp_yes hI (by omega) hp hF ez e20 e21 e22 e29 e30 e31 | with_reducible apply And.intro)
      dsimp only; omega
    · have hF : U.jFt now p = false := by unfold U.jFt; simpa using hge
      have ez := iw h20 (by omega)
      refine ⟨(z20, ((G, (r1, cg)), (O, (r, co)))), ?_⟩
      repeat' (first | exact rfl | exact jbdp_no hI (by omega) hp hF ez | with_reducible apply And.intro)
      dsimp only; omega
  · obtain ⟨x1, x2, x3, x4, x5, x6⟩ := jbdp_end hl.srt hI (by omega)
    exact ⟨P, ⟨rfl, ⟨rfl, rfl, rfl⟩, hl, by omega, by omega, by omega, x5⟩, fun n37 L38 M39 P40 y1 y2 y3 => by
      have hP := x6 _ y2
      subst hP
      exact hK _ _ _ _ _ _ (jb_rest hQ y3) ⟨x2, x4, o3, by omega⟩⟩
def pjtick : Pat := fun args σ => match args with
  | [.inl (.inl (.inr (.inl (0, 0)))), a0] => match aInt a0, jC σ with
    | some now, some (n, c, L, d, M) => some fun K => ∃ P : JBP, (jD σ ∧ U.Jb n c L d M P) ∧ ∀ (n' : Nat) (L' M' : Rws) (O : Rws) (r co : Nat), U.Jb n' c L' d M' (U.jRest (U.jFt now) P) → U.jRw (U.jGone (U.jFt now) P) O r co → K (cell (rslC ⟨2, 7, 0, r, co⟩)) (jSx n' c L' d M' O co)
    | _, _ => none
  | _ => none
theorem pjtick_ok : PatOk 24 pjtick := by
  intro tm σ C h K hK w0 e w hk vs hvs
  unfold pjtick at h
  split at h
  · split at h
    · rename_i h0 hσ
      simp only [Option.some.injEq] at h; subst h
      obtain ⟨P, ⟨hd, hQ⟩, hP⟩ := hK
      obtain rfl := jC_eq hσ hd
      obtain ⟨y0, y1, rfl, q0, q1⟩ := twos hvs
      exact knownD noOv names opMK_ok (conOk_ofR tJd_ok) (jtick_run K _ _ _ _ _ P hQ _ hP) w0 e w hk _ (map2 q0 (as_aInt h0 q1))
    · cases h
  · cases h
def tJ2 : Tbl := tblOr (tblIf 8 pjnew) (tblOr (tblIf 39 pjmay) (tblOr (tblIf 25 pjmay) (tblOr (tblIf 15 pjall) (tblOr (tblIf 19 pjof) (tblOr (tblIf 20 pjat) (tblOr (tblIf 21 pjlogin) (tblOr (tblIf 18 pjlogout) (tblOr (tblIf 24 pjtick) tJd))))))))
theorem tJ2_ok : TblOk Try.prog tJ2 := tblOr_ok (tblIf_ok pjnew_ok) (tblOr_ok (tblIf_ok pjmay_ok) (tblOr_ok (tblIf_ok prjmay_ok) (tblOr_ok (tblIf_ok pjall_ok) (tblOr_ok (tblIf_ok pjof_ok) (tblOr_ok (tblIf_ok pjat_ok) (tblOr_ok (tblIf_ok pjlogin_ok) (tblOr_ok (tblIf_ok pjlogout_ok) (tblOr_ok (tblIf_ok pjtick_ok) tJd_ok))))))))
end Go.Proofs.Ytgopjjimafcgjaa
end
