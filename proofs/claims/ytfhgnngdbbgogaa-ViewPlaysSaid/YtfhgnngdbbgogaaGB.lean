/- Parts of a proof, one behind the other: VU1 VU2 VU3 VU4 VU5 VU6 VU7 VU8. No condition. -/
import Derived.Test.YtfhgnngdbbgogaaGA
section
namespace Go.Proofs.Ytfhgnngdbbgogaa
open Go Reck Ost
set_option linter.unusedVariables false
set_option maxRecDepth 100000
abbrev vuov : List FuncId := [61]
def vukB (L : Rws) (cap : Nat) : ABlk := rowB 3 [.n .i64] L cap false
def vuvK : List CK := [.n .i64]
def vuC (v0 : Int) : List Cell := [xintC .i64 v0]
def vuR (v0 : Int) : List CV := [.i v0]
def vuvB (L : Rws) (cap : Nat) : ABlk := rowB 3 vuvK L cap false
theorem vuinsK_vc (K:AV→St→Prop) (L:Rws) (n c:Nat) (i:Int) (k:Int):(runV vuov inv0 tbl0 54 [cell (rslC ⟨0,1,0,n,c⟩),xi .i64 i,sl ⟨0,0,1,none,1⟩] ⟨[some ⟨3,[xintC .i64 k],none,1,false⟩],[],0,[some (vukB L c)],0⟩ K)=((0≤i∧i≤(↑n:Int)∧(↑n:Int)≤(↑c:Int))∧∀ (o0 n1 c2:Nat),((↑o0:Int)=if (↑c:Int)=Option.getD (some i) (0:Int) then (0:Int) else (0:Int) + i)→(↑n1:Int)=(↑n:Int) - i→(↑c2:Int)=(↑c:Int) - i→∀ (z3:Int),z3=(↑n:Int)→(i=z3→((0:Nat) + c≤List.length L∧(0:Nat) + c≤c)∧True∧n≤16777216∧(1:Nat)≤16777216∧∀ (L'4 T5:List (List CV)) (n'6 c'7:Nat),L'4=List.take n (List.take c (List.drop ((0:Nat)) L)) ++ [CV.i k] :: U.nilL ++ T5→n'6=n + (1:Nat)→n'6≤c'7→List.length L'4=c'7→K (Sum.inl (Sum.inl (rslC ⟨1,(0:Nat) + (1:Nat),0,n'6,c'7⟩))) ⟨[some ⟨nat_lit 3,[xintC .i64 k],none,1,false⟩],[],0,[none,some ⟨3,.o (.rows [.n .i64] L'4),[],c'7,false⟩],0⟩)∧(¬i=z3→∀ (z8:Int),z8=IntKind.wrap .i64 (z3 + (1:Int))→∀ (z9:Int),z9=(↑c:Int)→(z9<z8→((0:Int)≤0∧0≤i∧i≤(↑c:Int))∧∀ (o10 n11 c12:Nat),((↑o10:Int)=if (↑c:Int)=Option.getD none (0:Int) then (0:Int) else (0:Int))→(↑n11:Int)=i - (0:Int)→(↑c12:Int)=(↑c:Int) - (0:Int)→∀ (z13:Int),z13=IntKind.wrap .i64 (z3 + (1:Int))→∀ (z14:Int),z14=IntKind.wrap .i64 (z13 - i)→(o10 + c12≤List.length L∧o10 + c12≤c)∧n11≤16777216∧(0≤z14∧z14≤16777216)∧(↑c12:Int)<(↑n11:Int) + z14∧∀ (L'15 T16:List (List CV)) (n'17 c'18:Nat),L'15=List.take n11 (List.take c12 (List.drop o10 L)) ++ List.replicate (Int.toNat z14) [CV.i (0:Int)] ++ T16→(↑n'17:Int)=(↑n11:Int) + z14→n'17≤c'18→List.length L'15=c'18→(0≤i∧i≤(↑n'17:Int)∧(↑n'17:Int)≤(↑c'18:Int))∧∀ (o19 n20 c21:Nat),((↑o19:Int)=if (↑c'18:Int)=Option.getD (some i) (0:Int) then (0:Int) else (0:Int) + i)→(↑n20:Int)=(↑n'17:Int) - i→(↑c21:Int)=(↑c'18:Int) - i→(o19 + n20≤List.length L'15∧True)∧∀ (n22:Nat) (L'23:List (List CV)),n22=min ((1:Nat)) n20→L'23=List.take o19 L'15 ++ List.take n22 ([CV.i k] :: U.nilL) ++ List.drop (o19 + n22) L'15→∀ (z24:Int),z24=IntKind.wrap .i64 (i + (1:Int))→(0≤z24∧z24≤(↑n'17:Int)∧(↑n'17:Int)≤(↑c'18:Int))∧∀ (o25 n26 c27:Nat),((↑o25:Int)=if (↑c'18:Int)=Option.getD (some z24) (0:Int) then (0:Int) else (0:Int) + z24)→(↑n26:Int)=(↑n'17:Int) - z24→(↑c27:Int)=(↑c'18:Int) - z24→(0≤i∧i≤(↑n:Int)∧(↑n:Int)≤(↑c:Int))∧∀ (o28 n29 c30:Nat),((↑o28:Int)=if (↑c:Int)=Option.getD (some i) (0:Int) then (0:Int) else (0:Int) + i)→(↑n29:Int)=(↑n:Int) - i→(↑c30:Int)=(↑c:Int) - i→(o25 + n26≤List.length L'23∧Nat.le (o28 + n29) (List.length L))∧∀ (n31:Nat) (L'32:List (List CV)),n31=min n29 n26→L'32=List.take o25 L'23 ++ List.take n31 (List.take n29 (List.drop o28 L)) ++ List.drop (o25 + n31) L'23→K (Sum.inl (Sum.inl (rslC ⟨1,1,0,n'17,c'18⟩))) ⟨[some ⟨nat_lit 3,[xintC .i64 k],none,1,false⟩],[],0,[some ⟨3,.o (.rows [.n .i64] L),[],c,false⟩,some ⟨nat_lit 3,.o (.rows [.n .i64] L'32),[],c'18,false⟩],0⟩)∧(¬z9<z8→∀ (z33:Int),z33=IntKind.wrap .i64 (z3 + (1:Int))→((0:Int)≤0∧0≤z33∧z33≤(↑c:Int))∧∀ (o34 n35 c36:Nat),((↑o34:Int)=if (↑c:Int)=Option.getD none (0:Int) then (0:Int) else (0:Int))→(↑n35:Int)=z33 - (0:Int)→(↑c36:Int)=(↑c:Int) - (0:Int)→∀ (z37:Int),z37=IntKind.wrap .i64 (i + (1:Int))→(0≤z37∧z37≤(↑n35:Int)∧(↑n35:Int)≤(↑c36:Int))∧∀ (o38 n39 c40:Nat),((↑o38:Int)=if (↑c36:Int)=Option.getD (some z37) (0:Int) then (↑o34:Int) else (↑o34:Int) + z37)→(↑n39:Int)=(↑n35:Int) - z37→(↑c40:Int)=(↑c36:Int) - z37→o38 + n39≤List.length L∧∀ (z41:Int),z41=IntKind.wrap .i64 (i + (1:Int))→(0≤z41∧z41≤(↑n35:Int)∧(↑n35:Int)≤(↑c36:Int))∧∀ (o42 n43 c44:Nat),((↑o42:Int)=if (↑c36:Int)=Option.getD (some z41) (0:Int) then (↑o34:Int) else (↑o34:Int) + z41)→(↑n43:Int)=(↑n35:Int) - z41→(↑c44:Int)=(↑c36:Int) - z41→(0≤i∧i≤(↑n35:Int)∧(↑n35:Int)≤(↑c36:Int))∧∀ (o45 n46 c47:Nat),((↑o45:Int)=if (↑c36:Int)=Option.getD (some i) (0:Int) then (↑o34:Int) else (↑o34:Int) + i)→(↑n46:Int)=(↑n35:Int) - i→(↑c47:Int)=(↑c36:Int) - i→(o42 + n43≤List.length L∧Nat.le (o45 + n46) (List.length L))∧∀ (n48:Nat) (L'49:List (List CV)),n48=min n46 n43→L'49=List.take o42 L ++ List.take n48 (List.take n46 (List.drop o45 L)) ++ List.drop (o42 + n48) L→(0≤i∧i≤(↑n35:Int)∧(↑n35:Int)≤(↑c36:Int))∧∀ (o50 n51 c52:Nat),((↑o50:Int)=if (↑c36:Int)=Option.getD (some i) (0:Int) then (↑o34:Int) else (↑o34:Int) + i)→(↑n51:Int)=(↑n35:Int) - i→(↑c52:Int)=(↑c36:Int) - i→(o50 + n51≤List.length L'49∧True)∧∀ (n53:Nat) (L'54:List (List CV)),n53=min ((1:Nat)) n51→L'54=List.take o50 L'49 ++ List.take n53 ([CV.i k] :: U.nilL) ++ List.drop (o50 + n53) L'49→K (Sum.inl (Sum.inl (rslC ⟨0,1,o34,n35,c36⟩))) ⟨[some ⟨nat_lit 3,[xintC .i64 k],none,1,false⟩],[],0,[some ⟨nat_lit 3,.o (.rows [.n .i64] L'54),[],c,false⟩],0⟩))) := by kernel_rfl
theorem vuinsV_vc (K:AV→St→Prop) (L:Rws) (n c:Nat) (i:Int) (v0:Int):(runV vuov inv0 tbl0 54 [cell (rslC ⟨0,1,0,n,c⟩),xi .i64 i,sl ⟨0,0,1,none,1⟩] ⟨[some ⟨3,vuC v0,none,1,false⟩],[],0,[some (vuvB L c)],0⟩ K)=((0≤i∧i≤(↑n:Int)∧(↑n:Int)≤(↑c:Int))∧∀ (o0 n1 c2:Nat),((↑o0:Int)=if (↑c:Int)=Option.getD (some i) (0:Int) then (0:Int) else (0:Int) + i)→(↑n1:Int)=(↑n:Int) - i→(↑c2:Int)=(↑c:Int) - i→∀ (z3:Int),z3=(↑n:Int)→(i=z3→((0:Nat) + c≤List.length L∧(0:Nat) + c≤c)∧True∧n≤16777216∧(1:Nat)≤16777216∧∀ (L'4 T5:List (List CV)) (n'6 c'7:Nat),L'4=List.take n (List.take c (List.drop ((0:Nat)) L)) ++ [CV.i v0] :: U.nilL ++ T5→n'6=n + (1:Nat)→n'6≤c'7→List.length L'4=c'7→K (Sum.inl (Sum.inl (rslC ⟨1,(0:Nat) + (1:Nat),0,n'6,c'7⟩))) ⟨[some ⟨nat_lit 3,[xintC .i64 v0],none,1,false⟩],[],0,[none,some ⟨3,.o (.rows [.n .i64] L'4),[],c'7,false⟩],0⟩)∧(¬i=z3→∀ (z8:Int),z8=IntKind.wrap .i64 (z3 + (1:Int))→∀ (z9:Int),z9=(↑c:Int)→(z9<z8→((0:Int)≤0∧0≤i∧i≤(↑c:Int))∧∀ (o10 n11 c12:Nat),((↑o10:Int)=if (↑c:Int)=Option.getD none (0:Int) then (0:Int) else (0:Int))→(↑n11:Int)=i - (0:Int)→(↑c12:Int)=(↑c:Int) - (0:Int)→∀ (z13:Int),z13=IntKind.wrap .i64 (z3 + (1:Int))→∀ (z14:Int),z14=IntKind.wrap .i64 (z13 - i)→(o10 + c12≤List.length L∧o10 + c12≤c)∧n11≤16777216∧(0≤z14∧z14≤16777216)∧(↑c12:Int)<(↑n11:Int) + z14∧∀ (L'15 T16:List (List CV)) (n'17 c'18:Nat),L'15=List.take n11 (List.take c12 (List.drop o10 L)) ++ List.replicate (Int.toNat z14) [CV.i (0:Int)] ++ T16→(↑n'17:Int)=(↑n11:Int) + z14→n'17≤c'18→List.length L'15=c'18→(0≤i∧i≤(↑n'17:Int)∧(↑n'17:Int)≤(↑c'18:Int))∧∀ (o19 n20 c21:Nat),((↑o19:Int)=if (↑c'18:Int)=Option.getD (some i) (0:Int) then (0:Int) else (0:Int) + i)→(↑n20:Int)=(↑n'17:Int) - i→(↑c21:Int)=(↑c'18:Int) - i→(o19 + n20≤List.length L'15∧True)∧∀ (n22:Nat) (L'23:List (List CV)),n22=min ((1:Nat)) n20→L'23=List.take o19 L'15 ++ List.take n22 ([CV.i v0] :: U.nilL) ++ List.drop (o19 + n22) L'15→∀ (z24:Int),z24=IntKind.wrap .i64 (i + (1:Int))→(0≤z24∧z24≤(↑n'17:Int)∧(↑n'17:Int)≤(↑c'18:Int))∧∀ (o25 n26 c27:Nat),((↑o25:Int)=if (↑c'18:Int)=Option.getD (some z24) (0:Int) then (0:Int) else (0:Int) + z24)→(↑n26:Int)=(↑n'17:Int) - z24→(↑c27:Int)=(↑c'18:Int) - z24→(0≤i∧i≤(↑n:Int)∧(↑n:Int)≤(↑c:Int))∧∀ (o28 n29 c30:Nat),((↑o28:Int)=if (↑c:Int)=Option.getD (some i) (0:Int) then (0:Int) else (0:Int) + i)→(↑n29:Int)=(↑n:Int) - i→(↑c30:Int)=(↑c:Int) - i→(o25 + n26≤List.length L'23∧Nat.le (o28 + n29) (List.length L))∧∀ (n31:Nat) (L'32:List (List CV)),n31=min n29 n26→L'32=List.take o25 L'23 ++ List.take n31 (List.take n29 (List.drop o28 L)) ++ List.drop (o25 + n31) L'23→K (Sum.inl (Sum.inl (rslC ⟨1,1,0,n'17,c'18⟩))) ⟨[some ⟨nat_lit 3,[xintC .i64 v0],none,1,false⟩],[],0,[some ⟨(3:TypeId),.o (.rows [.n .i64] L),[],c,false⟩,some ⟨nat_lit 3,.o (.rows [.n .i64] L'32),[],c'18,false⟩],0⟩)∧(¬z9<z8→∀ (z33:Int),z33=IntKind.wrap .i64 (z3 + (1:Int))→((0:Int)≤0∧0≤z33∧z33≤(↑c:Int))∧∀ (o34 n35 c36:Nat),((↑o34:Int)=if (↑c:Int)=Option.getD none (0:Int) then (0:Int) else (0:Int))→(↑n35:Int)=z33 - (0:Int)→(↑c36:Int)=(↑c:Int) - (0:Int)→∀ (z37:Int),z37=IntKind.wrap .i64 (i + (1:Int))→(0≤z37∧z37≤(↑n35:Int)∧(↑n35:Int)≤(↑c36:Int))∧∀ (o38 n39 c40:Nat),((↑o38:Int)=if (↑c36:Int)=Option.getD (some z37) (0:Int) then (↑o34:Int) else (↑o34:Int) + z37)→(↑n39:Int)=(↑n35:Int) - z37→(↑c40:Int)=(↑c36:Int) - z37→o38 + n39≤List.length L∧∀ (z41:Int),z41=IntKind.wrap .i64 (i + (1:Int))→(0≤z41∧z41≤(↑n35:Int)∧(↑n35:Int)≤(↑c36:Int))∧∀ (o42 n43 c44:Nat),((↑o42:Int)=if (↑c36:Int)=Option.getD (some z41) (0:Int) then (↑o34:Int) else (↑o34:Int) + z41)→(↑n43:Int)=(↑n35:Int) - z41→(↑c44:Int)=(↑c36:Int) - z41→(0≤i∧i≤(↑n35:Int)∧(↑n35:Int)≤(↑c36:Int))∧∀ (o45 n46 c47:Nat),((↑o45:Int)=if (↑c36:Int)=Option.getD (some i) (0:Int) then (↑o34:Int) else (↑o34:Int) + i)→(↑n46:Int)=(↑n35:Int) - i→(↑c47:Int)=(↑c36:Int) - i→(o42 + n43≤List.length L∧Nat.le (o45 + n46) (List.length L))∧∀ (n48:Nat) (L'49:List (List CV)),n48=min n46 n43→L'49=List.take o42 L ++ List.take n48 (List.take n46 (List.drop o45 L)) ++ List.drop (o42 + n48) L→(0≤i∧i≤(↑n35:Int)∧(↑n35:Int)≤(↑c36:Int))∧∀ (o50 n51 c52:Nat),((↑o50:Int)=if (↑c36:Int)=Option.getD (some i) (0:Int) then (↑o34:Int) else (↑o34:Int) + i)→(↑n51:Int)=(↑n35:Int) - i→(↑c52:Int)=(↑c36:Int) - i→(o50 + n51≤List.length L'49∧True)∧∀ (n53:Nat) (L'54:List (List CV)),n53=min ((1:Nat)) n51→L'54=List.take o50 L'49 ++ List.take n53 ([CV.i v0] :: U.nilL) ++ List.drop (o50 + n53) L'49→K (Sum.inl (Sum.inl (rslC ⟨0,1,o34,n35,c36⟩))) ⟨[some ⟨nat_lit 3,[xintC .i64 v0],none,1,false⟩],[],0,[some ⟨nat_lit 3,.o (.rows [.n .i64] L'54),[],c,false⟩],0⟩))) := by kernel_rfl
theorem vudelK_vc (K:AV→St→Prop) (L:Rws) (n c:Nat) (i j:Int):(runW vuov inv0 tbl0 58 [cell (rslC ⟨0,1,0,n,c⟩),xi .i64 i,xi .i64 j] ⟨[],[],0,[some (vukB L c)],0⟩ K)=(∀ (z0:Int),z0=(↑n:Int)→(0≤i∧i≤j∧j≤z0∧z0≤(↑c:Int))∧∀ (o1 n2 c3:Nat),((↑o1:Int)=if z0=i then (↑((0:Nat)):Int) else (↑((0:Nat)):Int) + i)→(↑n2:Int)=j - i→(↑c3:Int)=z0 - i→(i=j→K (Sum.inl (Sum.inl (rslC ⟨0,1,0,n,c⟩))) ⟨[],[],0,[some ⟨(3:TypeId),.o (.rows [.n .i64] L),[],c,false⟩],0⟩)∧(¬i=j→∀ (z4:Int),z4=(↑n:Int)→((0:Int)≤0∧0≤i∧i≤(↑c:Int))∧∀ (o5 n6 c7:Nat),((↑o5:Int)=if (↑c:Int)=Option.getD none (0:Int) then (0:Int) else (0:Int))→(↑n6:Int)=i - (0:Int)→(↑c7:Int)=(↑c:Int) - (0:Int)→(0≤j∧j≤(↑n:Int)∧(↑n:Int)≤(↑c:Int))∧∀ (o8 n9 c10:Nat),((↑o8:Int)=if (↑c:Int)=Option.getD (some j) (0:Int) then (0:Int) else (0:Int) + j)→(↑n9:Int)=(↑n:Int) - j→(↑c10:Int)=(↑c:Int) - j→(o5 + c7≤List.length L∧o5 + c7≤c)∧Nat.le (o8 + n9) (List.length L)∧(n6≤16777216∧n9≤16777216∧n6 + n9≤c7)∧∀ (L'11:List (List CV)) (n'12:Nat),L'11=List.take n6 (List.take c7 (List.drop o5 L)) ++ List.take n9 (List.drop o8 L) ++ List.drop (n6 + n9) (List.take c7 (List.drop o5 L))→n'12=n6 + n9→∀ (z13:Int),z13=(↑n'12:Int)→(0≤z13∧z13≤z4∧z4≤(↑c7:Int))∧∀ (o14 n15 c16:Nat),((↑o14:Int)=if (↑c7:Int)=Option.getD (some z13) (0:Int) then (0:Int) else (0:Int) + z13)→(↑n15:Int)=z4 - z13→(↑c16:Int)=(↑c7:Int) - z13→o14 + n15≤List.length L'11∧∀ (L'17:List (List CV)),L'17=List.take o14 L'11 ++ List.replicate n15 [CV.i (0:Int)] ++ List.drop (o14 + n15) L'11→K (Sum.inl (Sum.inl (rslC ⟨1,1,0,n'12,c7⟩))) ⟨[],[],0,[none,some ⟨nat_lit 3,.o (.rows [.n .i64] L'17),[],c7,false⟩],0⟩)) := by kernel_rfl
theorem vudelV_vc (K:AV→St→Prop) (L:Rws) (n c:Nat) (i j:Int):(runW vuov inv0 tbl0 58 [cell (rslC ⟨0,1,0,n,c⟩),xi .i64 i,xi .i64 j] ⟨[],[],0,[some (vuvB L c)],0⟩ K)=(∀ (z0:Int),z0=(↑n:Int)→(0≤i∧i≤j∧j≤z0∧z0≤(↑c:Int))∧∀ (o1 n2 c3:Nat),((↑o1:Int)=if z0=i then (↑((0:Nat)):Int) else (↑((0:Nat)):Int) + i)→(↑n2:Int)=j - i→(↑c3:Int)=z0 - i→(i=j→K (Sum.inl (Sum.inl (rslC ⟨0,1,0,n,c⟩))) ⟨[],[],0,[some ⟨(3:TypeId),.o (.rows [.n .i64] L),[],c,false⟩],0⟩)∧(¬i=j→∀ (z4:Int),z4=(↑n:Int)→((0:Int)≤0∧0≤i∧i≤(↑c:Int))∧∀ (o5 n6 c7:Nat),((↑o5:Int)=if (↑c:Int)=Option.getD none (0:Int) then (0:Int) else (0:Int))→(↑n6:Int)=i - (0:Int)→(↑c7:Int)=(↑c:Int) - (0:Int)→(0≤j∧j≤(↑n:Int)∧(↑n:Int)≤(↑c:Int))∧∀ (o8 n9 c10:Nat),((↑o8:Int)=if (↑c:Int)=Option.getD (some j) (0:Int) then (0:Int) else (0:Int) + j)→(↑n9:Int)=(↑n:Int) - j→(↑c10:Int)=(↑c:Int) - j→(o5 + c7≤List.length L∧o5 + c7≤c)∧Nat.le (o8 + n9) (List.length L)∧(n6≤16777216∧n9≤16777216∧n6 + n9≤c7)∧∀ (L'11:List (List CV)) (n'12:Nat),L'11=List.take n6 (List.take c7 (List.drop o5 L)) ++ List.take n9 (List.drop o8 L) ++ List.drop (n6 + n9) (List.take c7 (List.drop o5 L))→n'12=n6 + n9→∀ (z13:Int),z13=(↑n'12:Int)→(0≤z13∧z13≤z4∧z4≤(↑c7:Int))∧∀ (o14 n15 c16:Nat),((↑o14:Int)=if (↑c7:Int)=Option.getD (some z13) (0:Int) then (0:Int) else (0:Int) + z13)→(↑n15:Int)=z4 - z13→(↑c16:Int)=(↑c7:Int) - z13→o14 + n15≤List.length L'11∧∀ (L'17:List (List CV)),L'17=List.take o14 L'11 ++ List.replicate n15 [CV.i (0:Int)] ++ List.drop (o14 + n15) L'11→K (Sum.inl (Sum.inl (rslC ⟨1,1,0,n'12,c7⟩))) ⟨[],[],0,[none,some ⟨nat_lit 3,.o (.rows [.n .i64] L'17),[],c7,false⟩],0⟩)) := by kernel_rfl
end Go.Proofs.Ytfhgnngdbbgogaa
end
section
set_option linter.unusedVariables false
set_option linter.unusedSimpArgs false
namespace Go.Proofs.Ytfhgnngdbbgogaa
open Go Reck Ost
theorem vuovOk : vuov.all (isOverlaps Try.prog) = true := by kernel_rfl
set_option maxHeartbeats 4000000 in
theorem vuinsK_run (K : AV → St → Prop) (L A : Rws) (n c : Nat) (i : Int) (k : Int) (h : U.Fu L n c A) (hi : 0 ≤ i ∧ i ≤ n) (hn : n + 1 ≤ 1000000)
    (hA : ∀ (L' : Rws) (c' : Nat), U.Fu L' (n + 1) c' (U.insR A i [.i k]) → K (cell (rslC ⟨1, 1, 0, n + 1, c'⟩)) ⟨[some ⟨3, [xintC .i64 k], none, 1, false⟩], [], 0, [none, some (vukB L' c')], 0⟩)
    (hB : ∀ (L' : Rws) (c' : Nat), U.Fu L' (n + 1) c' (U.insR A i [.i k]) → K (cell (rslC ⟨1, 1, 0, n + 1, c'⟩)) ⟨[some ⟨3, [xintC .i64 k], none, 1, false⟩], [], 0, [some (vukB L c), some (vukB L' c')], 0⟩)
    (hC : ∀ (L' : Rws) (c' : Nat), U.Fu L' (n + 1) c' (U.insR A i [.i k]) → K (cell (rslC ⟨0, 1, 0, n + 1, c'⟩)) ⟨[some ⟨3, [xintC .i64 k], none, 1, false⟩], [], 0, [some (vukB L' c')], 0⟩) :
    runV vuov inv0 tbl0 54 [cell (rslC ⟨0, 1, 0, n, c⟩), xi .i64 i, sl ⟨0, 0, 1, none, 1⟩] ⟨[some ⟨3, [xintC .i64 k], none, 1, false⟩], [], 0, [some (vukB L c)], 0⟩ K := by
  rw [vuinsK_vc]
  have hl := h.len
  have hle := h.le
  have tk : L.take c = L := List.take_of_length_le (by omega)
  obtain ⟨j, rfl⟩ : ∃ j : Nat, i = j := ⟨i.toNat, by omega⟩
  refine ⟨⟨by omega, by omega, by omega⟩, fun o0 n1 c2 _ h1 h2 z3 h3 => ⟨fun hin => ⟨⟨by omega, by omega⟩, trivial, by omega, by omega, fun L4 T5 n6 c7 e4 e6 e7 e8 => ?_⟩, fun hin z8 h8 z9 h9 => ⟨fun hlt => ⟨⟨by omega, by omega, by omega⟩, fun o10 n11 c12 h10 h11 h12 z13 h13 z14 h14 => ?_⟩, fun hge z31 h31 => ?_⟩⟩⟩
  · subst e6
    rw [List.drop_zero, tk] at e4
    have hj : j = n := by omega
    subst hj
    exact hA _ _ (insA h e4 e8 e7 hn)
  · replace h8 := iw h8 (by omega)
    replace h13 := iw h13 (by omega)
    replace h14 := iw h14 (by omega)
    replace h10 := off_of (l := 0) h10 (.inr rfl)
    obtain rfl : o10 = 0 := by omega
    obtain rfl : n11 = j := by omega
    obtain rfl : c12 = c := by omega
    refine ⟨⟨by omega, by omega⟩, by omega, ⟨by omega, by omega⟩, by omega, fun L15 T16 n17 c18 e15 e17 e18 e19 => ?_⟩
    obtain rfl : n17 = n + 1 := by omega
    refine ⟨⟨by omega, by omega, by omega⟩, fun o19 n20 c21 h19 h20 h21 => ?_⟩
    have q19 : ¬ (c18 : Int) = n11 := by clear h19; omega
    replace h19 := off_of (l := n11) h19 (.inl q19)
    obtain rfl : o19 = n11 := by omega
    refine ⟨⟨by omega, trivial⟩, fun n22 L23 h22 e23 z24 h24 => ?_⟩
    replace h24 := iw h24 (by omega)
    refine ⟨⟨by omega, by omega, by omega⟩, fun o25 n26 c27 h25 h26 h27 => ?_⟩
    have q25 : ¬ (c18 : Int) = z24 := by clear h25; omega
    replace h25 := off_of (l := z24) h25 (.inl q25)
    refine ⟨⟨by omega, by omega, by omega⟩, fun o28 n29 c30 h28 h29 h30 => ?_⟩
    have q28 : ¬ (c12 : Int) = o19 := by clear h28; omega
    replace h28 := off_of (l := o19) h28 (.inl q28)
    obtain ⟨f23, l23⟩ := mid_one e23 (by omega) (by omega)
    clear e23
    obtain rfl : o25 = o19 + 1 := by omega
    obtain rfl : o28 = o19 := by omega
    refine ⟨⟨by omega, (by omega : o28 + n29 ≤ L.length)⟩, fun n31 L32 h31 e32 => ?_⟩
    obtain rfl : n31 = n - o28 := by omega
    obtain ⟨f32, l32⟩ := mid_row (k := n + 1) e32 (by omega) (by omega) (by omega) (by omega)
    rw [List.drop_zero, tk, show z14.toNat = n + 1 - o28 by omega] at e15
    exact hB _ _ (insB h (by omega) e15 e19 e18 f23 f32 hn)
  · replace h8 := iw h8 (by omega)
    replace h31 := iw h31 (by omega)
    refine ⟨⟨by omega, by omega, by omega⟩, fun o32 n33 c34 h32 h33 h34 z35 h35 => ?_⟩
    replace h32 := off_of (l := 0) h32 (.inr rfl)
    replace h35 := iw h35 (by omega)
    obtain rfl : o32 = 0 := by omega
    obtain rfl : n33 = n + 1 := by omega
    obtain rfl : c34 = c := by omega
    refine ⟨⟨by omega, by omega, by omega⟩, fun o36 n37 c38 h36 h37 h38 => ?_⟩
    have q36 : ¬ (c34 : Int) = z35 := by clear h36; omega
    replace h36 := off_of (l := z35) h36 (.inl q36)
    refine ⟨by omega, fun z39 h39 => ?_⟩
    replace h39 := iw h39 (by omega)
    refine ⟨⟨by omega, by omega, by omega⟩, fun o40 n41 c42 h40 h41 h42 => ?_⟩
    have q40 : ¬ (c34 : Int) = z39 := by clear h40; omega
    replace h40 := off_of (l := z39) h40 (.inl q40)
    refine ⟨⟨by omega, by omega, by omega⟩, fun o43 n44 c45 h43 h44 h45 => ?_⟩
    have q43 : ¬ (c34 : Int) = j := by clear h43; omega
    replace h43 := off_of (l := j) h43 (.inl q43)
    obtain rfl : o40 = j + 1 := by omega
    obtain rfl : o43 = j := by omega
    refine ⟨⟨by omega, (by omega : o43 + n44 ≤ L.length)⟩, fun n46 L47 h46 e47 => ⟨⟨by omega, by omega, by omega⟩, fun o48 n49 c50 h48 h49 h50 => ?_⟩⟩
    have q48 : ¬ (c34 : Int) = o43 := by clear h48; omega
    replace h48 := off_of (l := o43) h48 (.inl q48)
    obtain rfl : o48 = o43 := by omega
    obtain rfl : n46 = n - o48 := by omega
    obtain ⟨f47, l47⟩ := mid_row (k := n + 1) e47 (by omega) (by omega) (by omega) (by omega)
    clear e47
    refine ⟨⟨by omega, trivial⟩, fun n51 L52 h51 e52 => ?_⟩
    obtain ⟨f52, l52⟩ := mid_one e52 (by omega) (by omega)
    exact hC _ _ (insC h (by omega) (by omega) f47 f52 hn)
set_option maxHeartbeats 4000000 in
theorem vuinsV_run (K : AV → St → Prop) (L A : Rws) (n c : Nat) (i : Int) (v0 : Int) (h : U.Fu L n c A) (hi : 0 ≤ i ∧ i ≤ n) (hn : n + 1 ≤ 1000000)
    (hA : ∀ (L' : Rws) (c' : Nat), U.Fu L' (n + 1) c' (U.insR A i (vuR v0)) → K (cell (rslC ⟨1, 1, 0, n + 1, c'⟩)) ⟨[some ⟨3, vuC v0, none, 1, false⟩], [], 0, [none, some (vuvB L' c')], 0⟩)
    (hB : ∀ (L' : Rws) (c' : Nat), U.Fu L' (n + 1) c' (U.insR A i (vuR v0)) → K (cell (rslC ⟨1, 1, 0, n + 1, c'⟩)) ⟨[some ⟨3, vuC v0, none, 1, false⟩], [], 0, [some (vuvB L c), some (vuvB L' c')], 0⟩)
    (hC : ∀ (L' : Rws) (c' : Nat), U.Fu L' (n + 1) c' (U.insR A i (vuR v0)) → K (cell (rslC ⟨0, 1, 0, n + 1, c'⟩)) ⟨[some ⟨3, vuC v0, none, 1, false⟩], [], 0, [some (vuvB L' c')], 0⟩) :
    runV vuov inv0 tbl0 54 [cell (rslC ⟨0, 1, 0, n, c⟩), xi .i64 i, sl ⟨0, 0, 1, none, 1⟩] ⟨[some ⟨3, vuC v0, none, 1, false⟩], [], 0, [some (vuvB L c)], 0⟩ K := by
  rw [vuinsV_vc]
  have hl := h.len
  have hle := h.le
  have tk : L.take c = L := List.take_of_length_le (by omega)
  obtain ⟨j, rfl⟩ : ∃ j : Nat, i = j := ⟨i.toNat, by omega⟩
  refine ⟨⟨by omega, by omega, by omega⟩, fun o0 n1 c2 _ h1 h2 z3 h3 => ⟨fun hin => ⟨⟨by omega, by omega⟩, trivial, by omega, by omega, fun L4 T5 n6 c7 e4 e6 e7 e8 => ?_⟩, fun hin z8 h8 z9 h9 => ⟨fun hlt => ⟨⟨by omega, by omega, by omega⟩, fun o10 n11 c12 h10 h11 h12 z13 h13 z14 h14 => ?_⟩, fun hge z31 h31 => ?_⟩⟩⟩
  · subst e6
    rw [List.drop_zero, tk] at e4
    have hj : j = n := by omega
    subst hj
    exact hA _ _ (insA h e4 e8 e7 hn)
  · replace h8 := iw h8 (by omega)
    replace h13 := iw h13 (by omega)
    replace h14 := iw h14 (by omega)
    replace h10 := off_of (l := 0) h10 (.inr rfl)
    obtain rfl : o10 = 0 := by omega
    obtain rfl : n11 = j := by omega
    obtain rfl : c12 = c := by omega
    refine ⟨⟨by omega, by omega⟩, by omega, ⟨by omega, by omega⟩, by omega, fun L15 T16 n17 c18 e15 e17 e18 e19 => ?_⟩
    obtain rfl : n17 = n + 1 := by omega
    refine ⟨⟨by omega, by omega, by omega⟩, fun o19 n20 c21 h19 h20 h21 => ?_⟩
    have q19 : ¬ (c18 : Int) = n11 := by clear h19; omega
    replace h19 := off_of (l := n11) h19 (.inl q19)
    obtain rfl : o19 = n11 := by omega
    refine ⟨⟨by omega, trivial⟩, fun n22 L23 h22 e23 z24 h24 => ?_⟩
    replace h24 := iw h24 (by omega)
    refine ⟨⟨by omega, by omega, by omega⟩, fun o25 n26 c27 h25 h26 h27 => ?_⟩
    have q25 : ¬ (c18 : Int) = z24 := by clear h25; omega
    replace h25 := off_of (l := z24) h25 (.inl q25)
    refine ⟨⟨by omega, by omega, by omega⟩, fun o28 n29 c30 h28 h29 h30 => ?_⟩
    have q28 : ¬ (c12 : Int) = o19 := by clear h28; omega
    replace h28 := off_of (l := o19) h28 (.inl q28)
    obtain ⟨f23, l23⟩ := mid_one e23 (by omega) (by omega)
    clear e23
    obtain rfl : o25 = o19 + 1 := by omega
    obtain rfl : o28 = o19 := by omega
    refine ⟨⟨by omega, (by omega : o28 + n29 ≤ L.length)⟩, fun n31 L32 h31 e32 => ?_⟩
    obtain rfl : n31 = n - o28 := by omega
    obtain ⟨f32, l32⟩ := mid_row (k := n + 1) e32 (by omega) (by omega) (by omega) (by omega)
    rw [List.drop_zero, tk, show z14.toNat = n + 1 - o28 by omega] at e15
    exact hB _ _ (insB h (by omega) e15 e19 e18 f23 f32 hn)
  · replace h8 := iw h8 (by omega)
    replace h31 := iw h31 (by omega)
    refine ⟨⟨by omega, by omega, by omega⟩, fun o32 n33 c34 h32 h33 h34 z35 h35 => ?_⟩
    replace h32 := off_of (l := 0) h32 (.inr rfl)
    replace h35 := iw h35 (by omega)
    obtain rfl : o32 = 0 := by omega
    obtain rfl : n33 = n + 1 := by omega
    obtain rfl : c34 = c := by omega
    refine ⟨⟨by omega, by omega, by omega⟩, fun o36 n37 c38 h36 h37 h38 => ?_⟩
    have q36 : ¬ (c34 : Int) = z35 := by clear h36; omega
    replace h36 := off_of (l := z35) h36 (.inl q36)
    refine ⟨by omega, fun z39 h39 => ?_⟩
    replace h39 := iw h39 (by omega)
    refine ⟨⟨by omega, by omega, by omega⟩, fun o40 n41 c42 h40 h41 h42 => ?_⟩
    have q40 : ¬ (c34 : Int) = z39 := by clear h40; omega
    replace h40 := off_of (l := z39) h40 (.inl q40)
    refine ⟨⟨by omega, by omega, by omega⟩, fun o43 n44 c45 h43 h44 h45 => ?_⟩
    have q43 : ¬ (c34 : Int) = j := by clear h43; omega
    replace h43 := off_of (l := j) h43 (.inl q43)
    obtain rfl : o40 = j + 1 := by omega
    obtain rfl : o43 = j := by omega
    refine ⟨⟨by omega, (by omega : o43 + n44 ≤ L.length)⟩, fun n46 L47 h46 e47 => ⟨⟨by omega, by omega, by omega⟩, fun o48 n49 c50 h48 h49 h50 => ?_⟩⟩
    have q48 : ¬ (c34 : Int) = o43 := by clear h48; omega
    replace h48 := off_of (l := o43) h48 (.inl q48)
    obtain rfl : o48 = o43 := by omega
    obtain rfl : n46 = n - o48 := by omega
    obtain ⟨f47, l47⟩ := mid_row (k := n + 1) e47 (by omega) (by omega) (by omega) (by omega)
    clear e47
    refine ⟨⟨by omega, trivial⟩, fun n51 L52 h51 e52 => ?_⟩
    obtain ⟨f52, l52⟩ := mid_one e52 (by omega) (by omega)
    exact hC _ _ (insC h (by omega) (by omega) f47 f52 hn)
theorem vudelK_run (K : AV → St → Prop) (L A : Rws) (n c : Nat) (i j : Int) (h : U.Fu L n c A) (hi : 0 ≤ i ∧ i < n) (hj : j = i + 1)
    (hK : ∀ (n' : Nat) (L' : Rws), n' + 1 = n → U.Fu L' n' c (A.eraseIdx i.toNat) → K (cell (rslC ⟨1, 1, 0, n', c⟩)) ⟨[], [], 0, [none, some (vukB L' c)], 0⟩) :
    runW vuov inv0 tbl0 58 [cell (rslC ⟨0, 1, 0, n, c⟩), xi .i64 i, xi .i64 j] ⟨[], [], 0, [some (vukB L c)], 0⟩ K := by
  rw [vudelK_vc]
  have hl := h.len
  have hle := h.le
  have hsm := h.sm
  have tk : L.take c = L := List.take_of_length_le (by omega)
  obtain ⟨p, rfl⟩ : ∃ p : Nat, i = p := ⟨i.toNat, by omega⟩
  subst hj
  refine fun z0 h0 => ⟨⟨by omega, by omega, by omega, by omega⟩, fun o1 n2 c3 _ _ _ => ⟨fun g => by omega, fun _ z4 h4 => ⟨⟨by omega, by omega, by omega⟩, fun o5 n6 c7 h5 h6 h7 => ⟨⟨by omega, by omega, by omega⟩, fun o8 n9 c10 h8 h9 h10 => ?_⟩⟩⟩⟩
  obtain rfl : o5 = 0 := by split at h5 <;> omega
  obtain rfl : n6 = p := by omega
  obtain rfl : c7 = c := by omega
  have h8' : o8 = n6 + 1 ∨ n - (n6 + 1) = 0 := by
    by_cases hc : (c7 : Int) = (n6 : Int) + 1
    · right; omega
    · left
      replace h8 := off_of (l := (n6 : Int) + 1) h8 (.inl hc)
      omega
  have h8b : o8 + n9 ≤ L.length := by
    rcases h8' with h | h
    · omega
    · replace h8 : (o8 : Int) ≤ n6 + 1 := by split at h8 <;> omega
      omega
  clear h8
  obtain rfl : n9 = n - (n6 + 1) := by omega
  refine ⟨⟨by omega, by omega⟩, h8b, ⟨by omega, by omega, by omega⟩, fun L11 n12 e11 e12 z13 h13 => ⟨⟨by omega, by omega, by omega⟩, fun o14 n15 c16 h14 h15 h16 => ?_⟩⟩
  have q14 : ¬ (c7 : Int) = z13 := by clear h14; omega
  replace h14 := off_of (l := z13) h14 (.inl q14)
  obtain rfl : o14 = n - 1 := by omega
  obtain rfl : n15 = 1 := by omega
  rw [List.drop_zero, tk, show n6 + (n - (n6 + 1)) = n - 1 by omega] at e11
  have l11 : L11.length = c7 := by
    rw [e11, List.length_append, List.length_append, List.length_take, List.length_take, List.length_drop, List.length_drop]; omega
  refine ⟨by omega, fun L17 e17 => hK n12 L17 (by omega) ?_⟩
  have := del_fin h (by omega) h8' e11 (L2 := L17) (by rw [e17, show n - 1 + 1 = n by omega])
  rw [Int.toNat_natCast, show n12 = n - 1 by omega]
  exact this
theorem vudelV_run (K : AV → St → Prop) (L A : Rws) (n c : Nat) (i j : Int) (h : U.Fu L n c A) (hi : 0 ≤ i ∧ i < n) (hj : j = i + 1)
    (hK : ∀ (n' : Nat) (L' : Rws), n' + 1 = n → U.Fu L' n' c (A.eraseIdx i.toNat) → K (cell (rslC ⟨1, 1, 0, n', c⟩)) ⟨[], [], 0, [none, some (vuvB L' c)], 0⟩) :
    runW vuov inv0 tbl0 58 [cell (rslC ⟨0, 1, 0, n, c⟩), xi .i64 i, xi .i64 j] ⟨[], [], 0, [some (vuvB L c)], 0⟩ K := by
  rw [vudelV_vc]
  have hl := h.len
  have hle := h.le
  have hsm := h.sm
  have tk : L.take c = L := List.take_of_length_le (by omega)
  obtain ⟨p, rfl⟩ : ∃ p : Nat, i = p := ⟨i.toNat, by omega⟩
  subst hj
  refine fun z0 h0 => ⟨⟨by omega, by omega, by omega, by omega⟩, fun o1 n2 c3 _ _ _ => ⟨fun g => by omega, fun _ z4 h4 => ⟨⟨by omega, by omega, by omega⟩, fun o5 n6 c7 h5 h6 h7 => ⟨⟨by omega, by omega, by omega⟩, fun o8 n9 c10 h8 h9 h10 => ?_⟩⟩⟩⟩
  obtain rfl : o5 = 0 := by split at h5 <;> omega
  obtain rfl : n6 = p := by omega
  obtain rfl : c7 = c := by omega
  have h8' : o8 = n6 + 1 ∨ n - (n6 + 1) = 0 := by
    by_cases hc : (c7 : Int) = (n6 : Int) + 1
    · right; omega
    · left
      replace h8 := off_of (l := (n6 : Int) + 1) h8 (.inl hc)
      omega
  have h8b : o8 + n9 ≤ L.length := by
    rcases h8' with h | h
    · omega
    · replace h8 : (o8 : Int) ≤ n6 + 1 := by split at h8 <;> omega
      omega
  clear h8
  obtain rfl : n9 = n - (n6 + 1) := by omega
  refine ⟨⟨by omega, by omega⟩, h8b, ⟨by omega, by omega, by omega⟩, fun L11 n12 e11 e12 z13 h13 => ⟨⟨by omega, by omega, by omega⟩, fun o14 n15 c16 h14 h15 h16 => ?_⟩⟩
  have q14 : ¬ (c7 : Int) = z13 := by clear h14; omega
  replace h14 := off_of (l := z13) h14 (.inl q14)
  obtain rfl : o14 = n - 1 := by omega
  obtain rfl : n15 = 1 := by omega
  rw [List.drop_zero, tk, show n6 + (n - (n6 + 1)) = n - 1 by omega] at e11
  have l11 : L11.length = c7 := by
    rw [e11, List.length_append, List.length_append, List.length_take, List.length_take, List.length_drop, List.length_drop]; omega
  refine ⟨by omega, fun L17 e17 => hK n12 L17 (by omega) ?_⟩
  have := del_fin h (by omega) h8' e11 (L2 := L17) (by rw [e17, show n - 1 + 1 = n by omega])
  rw [Int.toNat_natCast, show n12 = n - 1 by omega]
  exact this
end Go.Proofs.Ytfhgnngdbbgogaa
end
section
set_option linter.unusedVariables false
set_option linter.unusedSimpArgs false
set_option maxRecDepth 10000
namespace Go.Proofs.Ytfhgnngdbbgogaa
open Go Reck Ost
structure VUv where
  (v0 : Int)
def VUv.cells (e : VUv) : List Cell := vuC e.v0
def VUv.row (e : VUv) : List CV := vuR e.v0
def vuX (l : List Cell) : Option VUv :=
  match l with
  | [v0] => match xiX (cell v0) with
    | some (.i64, v0) => some ⟨v0⟩
    | _ => none
  | _ => none
theorem vuX_eq {l : List Cell} {e : VUv} (h : vuX l = some e) : l = e.cells := by
  unfold vuX at h
  split at h
  · split at h
    · rename_i h0
      simp only [Option.some.injEq] at h; subst h
      rw [cInj (xiX_eq h0)]; rfl
    · cases h
  · cases h
def vusV (k : Int) : Option Blk := some ⟨3, [xintC .i64 k], none, 1, false⟩
def vueV (e : VUv) : Option Blk := some ⟨3, e.cells, none, 1, false⟩
def vupInsK : Pat := fun args σ => match args, σ with
  | [s, i, .inl (.inl (.inr (.inr (.inl ⟨0, 0, 1, none, 1⟩))))], ⟨[some ⟨3, [v], none, 1, false⟩], [], 0, [some ⟨3, .o (.rows [.n .i64] L), [], c0, false⟩], 0⟩ => match rslX s, intX i, cInt v with
    | some ⟨0, 1, 0, n, c⟩, some (.i64, i), some k => some fun K => ∃ A, (c0 = c ∧ U.Fu L n c A ∧ (0 ≤ i ∧ i ≤ n) ∧ n + 1 ≤ 1000000) ∧ ∀ (n' c' : Nat) (L' : Rws), n' = n + 1 → U.Fu L' n' c' (U.insR A i [.i k]) → K (cell (rslC ⟨1, 1, 0, n', c'⟩)) ⟨[vusV k], [], 0, [none, some (vukB L' c')], 0⟩
    | _, _, _ => none
  | _, _ => none
theorem vupInsK_ok : PatOk 54 vupInsK := by
  intro tm σ C h K hK w0 e w hk vs hvs
  unfold vupInsK at h
  split at h
  · rename_i s i v L c0
    split at h
    · rename_i n c i' k hs hi hv
      obtain rfl := rslX_eq hs
      obtain rfl := cInt_eq hv
      simp only [Option.some.injEq] at h; subst h
      obtain ⟨A, ⟨rfl, h1, h2, h3⟩, hK⟩ := hK
      obtain ⟨x, y, z, rfl, q1, q2, q3⟩ := threes hvs
      refine ins_fin (old := some (vukB L c0)) (u := 1) (Q := fun n' c' L' => n' = n + 1 ∧ U.Fu L' n' c' (U.insR A i' [.i k])) (knownD noOv names (opMV_ok vuovOk) (conOk_ofR tbl0_ok) (vuinsK_run _ L A n c0 i' k h1 h2 h3 ?_ ?_ ?_) w0 e w hk _ (map3 q1 (as_int hi q2) q3)) (fun n' c' L' hq => hK n' c' L' hq.1 hq.2)
      · exact fun L' c' hF => ⟨n + 1, c', L', ⟨rfl, hF⟩, .inl ⟨rfl, rfl⟩⟩
      · exact fun L' c' hF => ⟨n + 1, c', L', ⟨rfl, hF⟩, .inr (.inl ⟨rfl, rfl⟩)⟩
      · exact fun L' c' hF => ⟨n + 1, c', L', ⟨rfl, hF⟩, .inr (.inr ⟨rfl, rfl⟩)⟩
    · cases h
  · cases h
def vupInsV : Pat := fun args σ => match args, σ with
  | [s, i, .inl (.inl (.inr (.inr (.inl ⟨0, 0, 1, none, 1⟩))))], ⟨[some ⟨3, l, none, 1, false⟩], [], 0, [some ⟨3, .o (.rows ks L), [], c0, false⟩], 0⟩ => match rslX s, intX i, vuX l, sameK ks vuvK with
    | some ⟨0, 1, 0, n, c⟩, some (.i64, i), some e, true => some fun K => ∃ A, (c0 = c ∧ U.Fu L n c A ∧ (0 ≤ i ∧ i ≤ n) ∧ n + 1 ≤ 1000000) ∧ ∀ (n' c' : Nat) (L' : Rws), n' = n + 1 → U.Fu L' n' c' (U.insR A i e.row) → K (cell (rslC ⟨1, 1, 0, n', c'⟩)) ⟨[vueV e], [], 0, [none, some (vuvB L' c')], 0⟩
    | _, _, _, _ => none
  | _, _ => none
theorem vupInsV_ok : PatOk 54 vupInsV := by
  intro tm σ C h K hK w0 e w hk vs hvs
  unfold vupInsV at h
  split at h
  · rename_i s i l ks L c0
    split at h
    · rename_i n c i' en hs hi hv hks
      obtain rfl := rslX_eq hs
      obtain rfl := vuX_eq hv
      obtain rfl := sameK_eq hks
      simp only [Option.some.injEq] at h; subst h
      obtain ⟨A, ⟨rfl, h1, h2, h3⟩, hK⟩ := hK
      obtain ⟨x, y, z, rfl, q1, q2, q3⟩ := threes hvs
      refine ins_fin (old := some (vuvB L c0)) (u := 1) (Q := fun n' c' L' => n' = n + 1 ∧ U.Fu L' n' c' (U.insR A i' en.row)) (knownD noOv names (opMV_ok vuovOk) (conOk_ofR tbl0_ok) (vuinsV_run _ L A n c0 i' en.v0 h1 h2 h3 ?_ ?_ ?_) w0 e w hk _ (map3 q1 (as_int hi q2) q3)) (fun n' c' L' hq => hK n' c' L' hq.1 hq.2)
      · exact fun L' c' hF => ⟨n + 1, c', L', ⟨rfl, hF⟩, .inl ⟨rfl, rfl⟩⟩
      · exact fun L' c' hF => ⟨n + 1, c', L', ⟨rfl, hF⟩, .inr (.inl ⟨rfl, rfl⟩)⟩
      · exact fun L' c' hF => ⟨n + 1, c', L', ⟨rfl, hF⟩, .inr (.inr ⟨rfl, rfl⟩)⟩
    · cases h
  · cases h
def vupDelK : Pat := fun args σ => match args, σ with
  | [s, i, j], ⟨[], [], 0, [some ⟨3, .o (.rows ks L), [], c0, false⟩], 0⟩ => match rslX s, intX i, intX j, sameK ks [.n .i64] with
    | some ⟨0, 1, 0, n, c⟩, some (.i64, i), some (.i64, j), true => some fun K => ∃ A, (c0 = c ∧ U.Fu L n c A ∧ (0 ≤ i ∧ i < n) ∧ j = i + 1) ∧ ∀ (n' : Nat) (L' : Rws), n' + 1 = n → U.Fu L' n' c (U.erR A i) → K (cell (rslC ⟨1, 1, 0, n', c⟩)) ⟨[], [], 0, [none, some (vukB L' c)], 0⟩
    | _, _, _, _ => none
  | _, _ => none
theorem vupDelK_ok : PatOk 58 vupDelK := by
  intro tm σ C h K hK w0 e w hk vs hvs
  unfold vupDelK at h
  split at h
  · rename_i s i j ks L c0
    split at h
    · rename_i n c i' j' hs hi hj hks
      obtain rfl := rslX_eq hs
      obtain rfl := sameK_eq hks
      simp only [Option.some.injEq] at h; subst h
      obtain ⟨A, ⟨rfl, h1, h2, h3⟩, hK⟩ := hK
      obtain ⟨x, y, z, rfl, q1, q2, q3⟩ := threes hvs
      exact knownD noOv names (opMW_ok vuovOk) (conOk_ofR tbl0_ok) (vudelK_run _ L A n c0 i' j' h1 h2 h3 hK) w0 e w hk _ (map3 q1 (as_int hi q2) (as_int hj q3))
    · cases h
  · cases h
def vupDelV : Pat := fun args σ => match args, σ with
  | [s, i, j], ⟨[], [], 0, [some ⟨3, .o (.rows ks L), [], c0, false⟩], 0⟩ => match rslX s, intX i, intX j, sameK ks vuvK with
    | some ⟨0, 1, 0, n, c⟩, some (.i64, i), some (.i64, j), true => some fun K => ∃ A, (c0 = c ∧ U.Fu L n c A ∧ (0 ≤ i ∧ i < n) ∧ j = i + 1) ∧ ∀ (n' : Nat) (L' : Rws), n' + 1 = n → U.Fu L' n' c (U.erR A i) → K (cell (rslC ⟨1, 1, 0, n', c⟩)) ⟨[], [], 0, [none, some (vuvB L' c)], 0⟩
    | _, _, _, _ => none
  | _, _ => none
theorem vupDelV_ok : PatOk 58 vupDelV := by
  intro tm σ C h K hK w0 e w hk vs hvs
  unfold vupDelV at h
  split at h
  · rename_i s i j ks L c0
    split at h
    · rename_i n c i' j' hs hi hj hks
      obtain rfl := rslX_eq hs
      obtain rfl := sameK_eq hks
      simp only [Option.some.injEq] at h; subst h
      obtain ⟨A, ⟨rfl, h1, h2, h3⟩, hK⟩ := hK
      obtain ⟨x, y, z, rfl, q1, q2, q3⟩ := threes hvs
      exact knownD noOv names (opMW_ok vuovOk) (conOk_ofR tbl0_ok) (vudelV_run _ L A n c0 i' j' h1 h2 h3 hK) w0 e w hk _ (map3 q1 (as_int hi q2) (as_int hj q3))
    · cases h
  · cases h
def vutID : Tbl := tblOr (tblIf 54 vupInsK) (tblOr (tblIf 54 vupInsV) (tblOr (tblIf 58 vupDelK) (tblIf 58 vupDelV)))
theorem vutID_ok : TblOk Try.prog vutID := tblOr_ok (tblIf_ok vupInsK_ok) (tblOr_ok (tblIf_ok vupInsV_ok) (tblOr_ok (tblIf_ok vupDelK_ok) (tblIf_ok vupDelV_ok)))
end Go.Proofs.Ytfhgnngdbbgogaa
end
section
namespace Go.Proofs.Ytfhgnngdbbgogaa
open Go Reck Ost
set_option linter.unusedVariables false
set_option maxRecDepth 100000
def vupLess : Pat := fun args σ => match args, σ with
  | [a, b], ⟨[], [], 0, [], 0⟩ => match aInt a, aInt b with
    | some a, some b => some fun K => (a < b → K (lit (.bool true)) emptySt) ∧ (¬ a < b → K (lit (.bool false)) emptySt)
    | _, _ => none
  | _, _ => none
def vutLess : Tbl := tblIf 67 vupLess
structure U.vubsR (L : Rws) (n : Nat) (k : Int) (i j : Int) : Prop where
  out : 0 ≤ i ∧ i ≤ j ∧ j ≤ n ∧ (∀ m : Nat, (m : Int) < i → U.fi L m 0 < k) ∧ (∀ m : Nat, j ≤ (m : Int) → m < n → ¬ U.fi L m 0 < k)
def vubsInv (c : Code) (tm : List AV) (σ : St) : Inv where
  X := Int × Int
  tags := [0]
  tag _ _ := 0
  J := wrBut [7, 8] c
  val _ x := [(7, xi .i64 x.1), (8, xi .i64 x.2)]
  st _ _ σ' := σ'
  I _ x := U.vubsR (rowsAt σ (slotR tm 0).a) (slotR tm 0).n (slotI tm 1) x.1 x.2
  m _ x := (x.2 - x.1).toNat
  ren := noRen
def vuinvBS : InvF := fun c tm σ => match tm.length, firstReg c with
  | 54, some 3 => some (vubsInv c tm σ)
  | _, _ => none
theorem vuless_vc (K:AV→St→Prop) (a b:Int):(runR inv0 tbl0 67 [xi .i64 a,xi .i64 b] emptySt K)=((¬a=a→(¬b=b→(a<b→K (lit (.bool true)) ⟨[],[],0,[],0⟩)∧(¬a<b→K (lit (.bool false)) ⟨[],[],0,[],0⟩))∧(¬¬b=b→K (lit (.bool true)) ⟨[],[],0,[],0⟩))∧(¬¬a=a→(a<b→K (lit (.bool true)) ⟨[],[],0,[],0⟩)∧(¬a<b→K (lit (.bool false)) ⟨[],[],0,[],0⟩))) := by kernel_rfl
theorem vubs_vc (K:AV→St→Prop) (L:Rws) (n c:Nat) (k:Int):(runR vuinvBS vutLess 60 [cell (rslC ⟨0,1,0,n,c⟩),xi .i64 k] ⟨[],[],0,[some (vukB L c)],0⟩ K)=(∀ (z0:Int),z0=(↑n:Int)→(∃ (y1:Int × Int),((0:Nat)=0∧n=n∧c=c)∧k=k∧false=false∧z0=z0∧0=y1.1∧z0=y1.2∧((0:Nat)=0∧n=n∧c=c)∧z0=z0∧z0=z0∧(L=L∧c=c∧false=false)∧U.vubsR L n k y1.1 y1.2)∧∀ (x2:Int × Int),U.vubsR L n k x2.1 x2.2→(x2.1<x2.2→∀ (z3:Int),z3=IntKind.wrap .i64 (x2.1 + x2.2)→∀ (z4:Int),z4=IntKind.wrap IntKind.u64 z3→(0:Int)≤1∧∀ (z5:Int),z5=shrI IntKind.u64 z4 (1:Int)→∀ (z6:Int),z6=IntKind.wrap .i64 z5→(0≤z6∧z6<(↑n:Int))∧∀ (j7:Nat),(↑j7:Int)=(↑((0:Nat)):Int) + z6→j7<List.length L∧∀ (z8:Int),z8=U.fi L j7 ((0:Nat))→(z8<k→∀ (z9:Int),z9=IntKind.wrap .i64 (z6 + (1:Int))→∃ (y10:Int × Int),((0:Nat)=0∧n=n∧c=c)∧k=k∧false=false∧z0=z0∧z9=y10.1∧x2.2=y10.2∧((0:Nat)=0∧n=n∧c=c)∧z0=z0∧z0=z0∧(L=L∧c=c∧false=false)∧U.vubsR L n k y10.1 y10.2∧Int.toNat (y10.2 - y10.1)<Int.toNat (x2.2 - x2.1))∧(¬z8<k→∃ (y11:Int × Int),((0:Nat)=0∧n=n∧c=c)∧k=k∧false=false∧z0=z0∧x2.1=y11.1∧z6=y11.2∧((0:Nat)=0∧n=n∧c=c)∧z0=z0∧z0=z0∧(L=L∧c=c∧false=false)∧U.vubsR L n k y11.1 y11.2∧Int.toNat (y11.2 - y11.1)<Int.toNat (x2.2 - x2.1)))∧(¬x2.1<x2.2→(x2.1<z0→(0≤x2.1∧x2.1<(↑n:Int))∧∀ (j12:Nat),(↑j12:Int)=(↑((0:Nat)):Int) + x2.1→j12<List.length L∧∀ (z13:Int),z13=U.fi L j12 ((0:Nat))→(z13=k→K (Sum.inr [Sum.inl (xintC .i64 x2.1),Sum.inl (Sum.inl (Value.bool true))]) ⟨[],[],0,[some ⟨3,.o (.rows [.n .i64] L),[],c,false⟩],0⟩)∧(¬z13=k→(0≤x2.1∧x2.1<(↑n:Int))∧∀ (j14:Nat),(↑j14:Int)=(↑((0:Nat)):Int) + x2.1→j14<List.length L∧∀ (z15:Int),z15=U.fi L j14 ((0:Nat))→(¬z15=z15→(¬k=k→K (Sum.inr [Sum.inl (xintC .i64 x2.1),Sum.inl (Sum.inl (Value.bool true))]) ⟨[],[],0,[some ⟨3,.o (.rows [.n .i64] L),[],c,false⟩],0⟩)∧(¬¬k=k→K (Sum.inr [Sum.inl (xintC .i64 x2.1),Sum.inl (Sum.inl (Value.bool false))]) ⟨[],[],0,[some ⟨3,.o (.rows [.n .i64] L),[],c,false⟩],0⟩))∧(¬¬z15=z15→K (Sum.inr [Sum.inl (xintC .i64 x2.1),Sum.inl (Sum.inl (Value.bool false))]) ⟨[],[],0,[some ⟨3,.o (.rows [.n .i64] L),[],c,false⟩],0⟩)))∧(¬x2.1<z0→K (Sum.inr [Sum.inl (xintC .i64 x2.1),Sum.inl (Sum.inl (Value.bool false))]) ⟨[],[],0,[some ⟨3,.o (.rows [.n .i64] L),[],c,false⟩],0⟩))) := by kernel_rfl
end Go.Proofs.Ytfhgnngdbbgogaa
end
section
set_option linter.unusedVariables false
set_option linter.unusedSimpArgs false
set_option maxRecDepth 10000
namespace Go.Proofs.Ytfhgnngdbbgogaa
open Go Reck Ost
theorem vupLess_ok : PatOk 67 vupLess := by
  intro tm σ C h K hK w0 e w hk vs hvs
  unfold vupLess at h
  split at h
  · split at h
    · rename_i a b ha hb
      simp only [Option.some.injEq] at h; subst h
      obtain ⟨v, u, rfl, hv, hu⟩ := twos hvs
      refine knownC noOv names (conOk_ofR tbl0_ok) (show runR inv0 tbl0 67 [xi .i64 a, xi .i64 b] emptySt K from ?_) w0 e w hk [v, u] (map2 (as_aInt ha hv) (as_aInt hb hu))
      rw [vuless_vc]
      exact ⟨fun h => absurd rfl h, fun _ => hK⟩
    · cases h
  · cases h
structure U.vuSrtR (L : Rws) (n : Nat) : Prop where
  out : ∀ i j : Nat, i < j → j < n → U.fi L i 0 < (U.fi L j 0)
structure U.vuAt (L : Rws) (n : Nat) (k : Int) (z : Int) : Prop where
  b : 0 ≤ z ∧ z ≤ n
  lo : ∀ m : Nat, (m : Int) < z → U.fi L m 0 < k
  hi : ∀ m : Nat, z ≤ (m : Int) → m < n → ¬ U.fi L m 0 < k
structure U.vuHasAt (L : Rws) (n : Nat) (k : Int) (z : Int) : Prop where
  out : z < n ∧ U.fi L z.toNat 0 = k
set_option maxHeartbeats 1000000 in
theorem vubs_run (K : AV → St → Prop) (L : Rws) (n c : Nat) (k : Int) (hl : n ≤ L.length) (hsm : n ≤ 1000000) (hs : U.vuSrtR L n)
    (hK : ∀ z : Int, U.vuAt L n k z → (U.vuHasAt L n k z → K (zbA z true) ⟨[], [], 0, [some (vukB L c)], 0⟩) ∧ (¬ U.vuHasAt L n k z → K (zbA z false) ⟨[], [], 0, [some (vukB L c)], 0⟩)) :
    runR vuinvBS vutLess 60 [cell (rslC ⟨0, 1, 0, n, c⟩), xi .i64 k] ⟨[], [], 0, [some (vukB L c)], 0⟩ K := by
  rw [vubs_vc]
  intro z0 h0
  refine ⟨⟨(0, z0), ?_⟩, ?_⟩
  · repeat' (first | exact rfl | with_reducible apply And.intro)
    exact ⟨Int.le_refl _, by dsimp only; omega, by dsimp only; omega, fun m hm => by dsimp only at hm; omega, fun m hm hm2 => by dsimp only at hm; omega⟩
  rintro ⟨i, j⟩ ⟨b1, b2, b3, b4, b5⟩
  dsimp only at b1 b2 b3 b4 b5 ⊢
  refine ⟨fun hij z3 h3 z4 h4 => ⟨by decide, fun z5 h5 z6 h6 => ?_⟩, fun hij => ?_⟩
  · have e3 := iw h3 (by omega)
    have e4 : z4 = i + j := by
      rw [h4, e3]; show IntKind.wrap .u64 _ = _
      rw [IntKind.wrap]; simp [IntKind.signed, IntKind.bits]; omega
    have e5 : z5 = (i + j) / 2 := by
      rw [h5, e4]
      unfold shrI
      rw [show min (1 : Int).toNat (IntKind.bits .u64) = 1 from rfl, Int.fdiv_eq_ediv_of_nonneg _ (by decide)]
      rfl
    clear h3 h4 h5
    replace h6 := iw h6 (by omega)
    refine ⟨by omega, fun j7 h7 => ⟨by omega, fun z8 h8 => ?_⟩⟩
    obtain ⟨p, hp⟩ : ∃ p : Nat, z6 = p := ⟨z6.toNat, by omega⟩
    obtain rfl : j7 = p := by omega
    refine ⟨fun hlt z9 h9 => ⟨(z9, j), ?_⟩, fun hge => ⟨(i, z6), ?_⟩⟩
    · replace h9 := iw h9 (by omega)
      repeat' (first | exact rfl | with_reducible apply And.intro)
      · refine ⟨by dsimp only; omega, by dsimp only; omega, b3, fun m hm => ?_, b5⟩
        dsimp only at hm
        rw [h8] at hlt
        by_cases hmp : m = j7
        · rw [hmp]; exact hlt
        · exact Int.lt_trans (hs.out m j7 (by omega) (by omega)) hlt
      · dsimp only; omega
    · repeat' (first | exact rfl | with_reducible apply And.intro)
      · refine ⟨b1, by dsimp only; omega, by dsimp only; omega, b4, fun m hm hm2 => ?_⟩
        dsimp only at hm
        rw [h8] at hge
        by_cases hmp : m = j7
        · rw [hmp]; exact hge
        · exact fun hx => hge (Int.lt_trans (hs.out j7 m (by omega) hm2) hx)
      · dsimp only; omega
  · obtain rfl : i = j := by omega
    obtain ⟨p, rfl⟩ : ∃ p : Nat, i = p := ⟨i.toNat, by omega⟩
    have hK := hK p ⟨⟨b1, b3⟩, b4, b5⟩
    refine ⟨fun hlt => ⟨by omega, fun j12 h12 => ⟨by omega, fun z13 h13 => ?_⟩⟩, fun hge => hK.2 (fun hx => by have := hx.out.1; omega)⟩
    obtain rfl : j12 = p := by omega
    refine ⟨fun heq => hK.1 ⟨by omega, by rw [Int.toNat_natCast, ← h13]; exact heq⟩, fun hne => ?_⟩
    have hno : ¬ U.vuHasAt L n k j12 := fun hx => hne (by have := hx.out.2; rw [Int.toNat_natCast] at this; rw [h13]; exact this)
    repeat' (first | with_reducible apply And.intro | intro _)
    all_goals (first | exact hK.2 hno | omega | (exfalso; rename_i hx; exact hx rfl) | (exfalso; rename_i hx _; exact hx rfl))
end Go.Proofs.Ytfhgnngdbbgogaa
end
section
namespace Go.Proofs.Ytfhgnngdbbgogaa
open Go Reck Ost
set_option linter.unusedVariables false
set_option maxRecDepth 100000
def vupBS : Pat := fun args σ => match args, σ with
  | [s, k], ⟨[], [], 0, [some ⟨3, .o (.rows [.n .i64] L), [], c0, false⟩], 0⟩ => match rslX s, aInt k with
    | some ⟨0, 1, 0, n, c⟩, some k => some fun K => (c0 = c ∧ n ≤ L.length ∧ n ≤ 1000000 ∧ U.vuSrtR L n) ∧ ∀ z : Int, U.vuAt L n k z → (U.vuHasAt L n k z → K (zbA z true) ⟨[], [], 0, [some (vukB L c)], 0⟩) ∧ (¬ U.vuHasAt L n k z → K (zbA z false) ⟨[], [], 0, [some (vukB L c)], 0⟩)
    | _, _ => none
  | _, _ => none
theorem vupBS_ok : PatOk 60 vupBS := by
  intro tm σ C h K hK w0 e w hk vs hvs
  unfold vupBS at h
  split at h
  · split at h
    · rename_i n c k hs hk'
      obtain rfl := rslX_eq hs
      simp only [Option.some.injEq] at h; subst h
      obtain ⟨⟨rfl, h1, h2, h3⟩, h4⟩ := hK
      obtain ⟨v, u, rfl, hv, hu⟩ := twos hvs
      exact knownC noOv names (conOk_ofR (tblIf_ok vupLess_ok)) (vubs_run K _ _ _ k h1 h2 h3 h4) w0 e w hk _ (map2 hv (as_aInt hk' hu))
    · cases h
  · cases h
def vutSh : Tbl := tblOr vutID (tblIf 60 vupBS)
theorem vutSh_ok : TblOk Try.prog vutSh := tblOr_ok vutID_ok (tblIf_ok vupBS_ok)
def vuB (a b : Cell) (m : Int) : Option Blk := some ⟨79, [a, b, xintC .i64 m], none, 3, false⟩
def vuSt (n c : Nat) (L : Rws) (d : Nat) (M : Rws) (m : Int) : St := ⟨[vuB (rslC ⟨0, 1, 0, n, c⟩) (rslC ⟨1, 1, 0, n, d⟩) m], [], 0, [some (vukB L c), some (vuvB M d)], 0⟩
theorem vuNew_vc (K:AV→St→Prop) (m:Int):(runV vuov inv0 tbl0 20 [xi .i64 m] emptySt K)=(K (Sum.inl (Sum.inl (Sum.inr (Sum.inl ((0:Nat),(0:Nat)))))) ⟨[some ⟨nat_lit 79,[Sum.inl (Value.slice none (0:Nat) (0:Nat)),Sum.inl (Value.slice none (0:Nat) (0:Nat)),xintC .i64 m],none,(0:Nat) + (1:Nat) + (1:Nat) + (1:Nat),false⟩],[],0,[],0⟩) := by kernel_rfl
theorem vuSet_vc (K:AV→St→Prop) (L M:Rws) (n c d:Nat) (m:Int) (k:Int) (v0:Int):(runV vuov inv0 vutSh 43 [ptr 0 0,xi .i64 k,xi .i64 v0] (vuSt n c L d M m) K)=((c=c∧n≤List.length L∧n≤1000000∧U.vuSrtR L n)∧∀ (z0:Int),U.vuAt L n k z0→(U.vuHasAt L n k z0→(0≤z0∧z0<(↑n:Int))∧∀ (j1:Nat),(↑j1:Int)=(↑((0:Nat)):Int) + z0→j1<List.length M∧∀ (L'2:List (List CV)),L'2=U.put M j1 ((0:Nat)) [CV.i v0]→K (Sum.inl (Sum.inl (xintC .i64 (0:Int)))) ⟨[some ⟨nat_lit 79,[rslC ⟨0,1,0,n,c⟩,rslC ⟨1,1,0,n,d⟩,xintC .i64 m],none,3,false⟩],[],0,[some ⟨3,.o (.rows [.n .i64] L),[],c,false⟩,some ⟨nat_lit 3,.o (.rows [.n .i64] L'2),[],d,false⟩],0⟩)∧(¬U.vuHasAt L n k z0→∀ (z3:Int),z3=(↑n:Int)→(m≤z3→K (Sum.inl (Sum.inl (xintC .i64 (4:Int)))) ⟨[some ⟨nat_lit 79,[rslC ⟨0,1,0,n,c⟩,rslC ⟨1,1,0,n,d⟩,xintC .i64 m],none,3,false⟩],[],0,[some ⟨3,.o (.rows [.n .i64] L),[],c,false⟩,some ⟨3,.o (.rows [.n .i64] M),[],d,false⟩],0⟩)∧(¬m≤z3→∃ (y4:Rws),(c=c∧U.Fu L n c y4∧(0≤z0∧z0≤(↑n:Int))∧n + (1:Nat)≤1000000)∧∀ (n'5 c'6:Nat) (L'7:Rws),n'5=n + (1:Nat)→U.Fu L'7 n'5 c'6 (U.insR y4 z0 [CV.i k])→∃ (y8:Rws),(d=d∧U.Fu M n d y8∧(0≤z0∧z0≤(↑n:Int))∧n + (1:Nat)≤1000000)∧∀ (n'9 c'10:Nat) (L'11:Rws),n'9=n + (1:Nat)→U.Fu L'11 n'9 c'10 (U.insR y8 z0 [CV.i v0])→K (Sum.inl (Sum.inl (xintC .i64 (0:Int)))) ⟨[some ⟨nat_lit 79,[rslC ⟨2,1,0,n'5,c'6⟩,rslC ⟨3,1,0,n'9,c'10⟩,xintC .i64 m],none,3,false⟩],[],0,[none,none,some ⟨(3:TypeId),.o (.rows [.n .i64] L'7),[],c'6,false⟩,some ⟨(3:TypeId),.o (.rows [.n .i64] L'11),[],c'10,false⟩],0⟩))) := by kernel_rfl
theorem vuGet_vc (K:AV→St→Prop) (L M:Rws) (n c d:Nat) (m:Int) (k:Int):(runV vuov inv0 vutSh 33 [ptr 0 0,xi .i64 k] (vuSt n c L d M m) K)=((c=c∧n≤List.length L∧n≤1000000∧U.vuSrtR L n)∧∀ (z0:Int),U.vuAt L n k z0→(U.vuHasAt L n k z0→(0≤z0∧z0<(↑n:Int))∧∀ (j1:Nat),(↑j1:Int)=(↑((0:Nat)):Int) + z0→j1<List.length M∧∀ (z2:Int),z2=U.fi M j1 ((0:Nat))→K (Sum.inr [Sum.inl (xintC .i64 z2),Sum.inl (Sum.inl (Value.bool true))]) ⟨[some ⟨nat_lit 79,[rslC ⟨0,1,0,n,c⟩,rslC ⟨1,1,0,n,d⟩,xintC .i64 m],none,3,false⟩],[],0,[some ⟨(3:TypeId),.o (.rows [.n .i64] L),[],c,false⟩,some ⟨(3:TypeId),.o (.rows [.n .i64] M),[],d,false⟩],0⟩)∧(¬U.vuHasAt L n k z0→K (Sum.inr [Sum.inl (xintC .i64 (0:Int)),Sum.inl (Sum.inl (Value.bool false))]) ⟨[some ⟨nat_lit 79,[rslC ⟨0,1,0,n,c⟩,rslC ⟨1,1,0,n,d⟩,xintC .i64 m],none,3,false⟩],[],0,[some ⟨(3:TypeId),.o (.rows [.n .i64] L),[],c,false⟩,some ⟨(3:TypeId),.o (.rows [.n .i64] M),[],d,false⟩],0⟩)) := by kernel_rfl
theorem vuDel_vc (K:AV→St→Prop) (L M:Rws) (n c d:Nat) (m:Int) (k:Int):(runV vuov inv0 vutSh 45 [ptr 0 0,sl ⟨1,0,1,none,1⟩] ⟨[vuB (rslC ⟨0,1,0,n,c⟩) (rslC ⟨1,1,0,n,d⟩) m,vusV k],[],0,[some (vukB L c),some (vuvB M d)],0⟩ K)=((c=c∧n≤List.length L∧n≤1000000∧U.vuSrtR L n)∧∀ (z0:Int),U.vuAt L n k z0→(U.vuHasAt L n k z0→∀ (z1:Int),z1=IntKind.wrap .i64 (z0 + (1:Int))→∃ (y2:Rws),(c=c∧U.Fu L n c y2∧(0≤z0∧z0<(↑n:Int))∧z1=z0 + (1:Int))∧∀ (n'3:Nat) (L'4:Rws),n'3 + 1=n→U.Fu L'4 n'3 c (U.erR y2 z0)→∀ (z5:Int),z5=IntKind.wrap .i64 (z0 + (1:Int))→∃ (y6:Rws),(d=d∧U.Fu M n d y6∧(0≤z0∧z0<(↑n:Int))∧z5=z0 + (1:Int))∧∀ (n'7:Nat) (L'8:Rws),n'7 + 1=n→U.Fu L'8 n'7 d (U.erR y6 z0)→K (Sum.inl (Sum.inl (xintC .i64 (1:Int)))) ⟨[some ⟨nat_lit 79,[rslC ⟨2,1,0,n'3,c⟩,rslC ⟨3,1,0,n'7,d⟩,xintC .i64 m],none,3,false⟩,some ⟨nat_lit 3,[xintC .i64 k],none,1,false⟩],[],0,[none,none,some ⟨(3:TypeId),.o (.rows [.n .i64] L'4),[],c,false⟩,some ⟨(3:TypeId),.o (.rows [.n .i64] L'8),[],d,false⟩],0⟩)∧(¬U.vuHasAt L n k z0→K (Sum.inl (Sum.inl (xintC .i64 (0:Int)))) ⟨[some ⟨nat_lit 79,[rslC ⟨0,1,0,n,c⟩,rslC ⟨1,1,0,n,d⟩,xintC .i64 m],none,3,false⟩,some ⟨nat_lit 3,[xintC .i64 k],none,1,false⟩],[],0,[some ⟨(3:TypeId),.o (.rows [.n .i64] L),[],c,false⟩,some ⟨(3:TypeId),.o (.rows [.n .i64] M),[],d,false⟩],0⟩)) := by kernel_rfl
theorem vuKeys_vc (K:AV→St→Prop) (L M:Rws) (n c d:Nat) (m:Int):(runQ inv0 tbl0 47 [ptr 0 0] (vuSt n c L d M m) K)=((n=0→K (Sum.inl (Sum.inl (rslC ⟨2,(0:Nat) + (1:Nat),0,0,0⟩))) ⟨[some ⟨nat_lit 79,[rslC ⟨0,1,0,n,c⟩,rslC ⟨1,1,0,n,d⟩,xintC .i64 m],none,3,false⟩],[],0,[some ⟨(3:TypeId),.o (.rows [.n .i64] L),[],c,false⟩,some ⟨(3:TypeId),.o (.rows [.n .i64] M),[],d,false⟩,some ⟨3,.o (.rows [.n .i64] U.nilL),[],0,false⟩],0⟩)∧True∧Nat.le ((0:Nat) + n) (List.length L)∧(0:Nat)≤16777216∧n≤16777216∧∀ (L'0:List (List CV)) (n'1 c'2:Nat),L'0=U.nilL ++ List.take n (List.drop ((0:Nat)) L)→n'1=0 + n→n'1≤c'2→K (Sum.inl (Sum.inl (rslC ⟨2,(0:Nat) + (1:Nat),0,n'1,c'2⟩))) ⟨[some ⟨nat_lit 79,[rslC ⟨0,1,0,n,c⟩,rslC ⟨1,1,0,n,d⟩,xintC .i64 m],none,3,false⟩],[],0,[some ⟨(3:TypeId),.o (.rows [.n .i64] L),[],c,false⟩,some ⟨(3:TypeId),.o (.rows [.n .i64] M),[],d,false⟩,some ⟨3,.o (.rows [.n .i64] L'0),[],c'2,false⟩],0⟩) := by kernel_rfl
end Go.Proofs.Ytfhgnngdbbgogaa
end
section
set_option linter.unusedVariables false
set_option linter.unusedSimpArgs false
set_option maxRecDepth 10000
namespace Go.Proofs.Ytfhgnngdbbgogaa
open Go Reck Ost
theorem vuirr {a : Int} (h : a < a) : False := Int.lt_irrefl _ h
theorem vutri {a b : Int} (h : ¬ a < b) (k : ¬ b < a) : a = b := by omega
abbrev VUP := List (Int × VUv)
def U.vuks (P : VUP) : Rws := P.map fun p => [.i p.1]
def U.vuvs (P : VUP) : Rws := P.map fun p => p.2.row
structure U.vuSrt (P : VUP) : Prop where
  out : P.Pairwise fun a b => a.1 < b.1
structure U.vuHasK (P : VUP) (k : Int) : Prop where
  out : ∃ e, (k, e) ∈ P
structure U.vuPut (P : VUP) (k : Int) (e : VUv) (P' : VUP) : Prop where
  srt : U.vuSrt P'
  mem : ∀ x y, (x, y) ∈ P' ↔ (x = k ∧ y = e) ∨ ((x, y) ∈ P ∧ x ≠ k)
  has : U.vuHasK P k → P'.length = P.length
  non : ¬ U.vuHasK P k → P'.length = P.length + 1
structure U.vushI (n c : Nat) (L : Rws) (d : Nat) (M : Rws) (P : VUP) : Prop where
  kf : U.Fu L n c (U.vuks P)
  vf : U.Fu M n d (U.vuvs P)
  srt : U.vuSrt P
theorem vushI_n {n c d : Nat} {L M : Rws} {P : VUP} (h : U.vushI n c L d M P) : P.length = n := by
  have := h.kf.n; simpa [U.vuks] using this
theorem vukey_at {n c d : Nat} {L M : Rws} {P : VUP} (h : U.vushI n c L d M P) {m : Nat} {p : Int × VUv} (hp : P[m]? = some p) : U.fi L m 0 = p.1 := by
  have hm : m < n := by rw [← vushI_n h]; exact (List.getElem?_eq_some_iff.1 hp).1
  have := fuGet h.kf hm
  unfold U.fi
  rw [List.getD_eq_getElem?_getD, this]
  simp [U.vuks, hp]
theorem vurow_at {n c d : Nat} {L M : Rws} {P : VUP} (h : U.vushI n c L d M P) {m : Nat} {p : Int × VUv} (hp : P[m]? = some p) : M.getD m [] = p.2.row := by
  have hm : m < n := by rw [← vushI_n h]; exact (List.getElem?_eq_some_iff.1 hp).1
  have := fuGet h.vf hm
  rw [List.getD_eq_getElem?_getD, this]
  simp [U.vuvs, hp]
theorem vusrt_R {n c d : Nat} {L M : Rws} {P : VUP} (h : U.vushI n c L d M P) : U.vuSrtR L n := by
  refine ⟨fun i j hij hj => ?_⟩
  have hn := vushI_n h
  rw [vukey_at h (List.getElem?_eq_getElem (show i < P.length by omega)), vukey_at h (List.getElem?_eq_getElem (show j < P.length by omega))]
  exact List.pairwise_iff_getElem.1 h.srt.out i j (by omega) (by omega) hij
theorem vuat_lo {n c d : Nat} {L M : Rws} {P : VUP} (h : U.vushI n c L d M P) {k : Int} {z : Nat} (ha : U.vuAt L n k z) {p : Int × VUv} (hp : p ∈ P.take z) : p.1 < k := by
  obtain ⟨m, hm⟩ := List.getElem?_of_mem hp
  rw [List.getElem?_take] at hm
  split at hm
  · rename_i hlt
    have := ha.lo m (by omega)
    rwa [vukey_at h hm] at this
  · cases hm
theorem vuat_hi {n c d : Nat} {L M : Rws} {P : VUP} (h : U.vushI n c L d M P) {k : Int} {z : Nat} (ha : U.vuAt L n k z) {p : Int × VUv} (hp : p ∈ P.drop z) : ¬ p.1 < k := by
  obtain ⟨m, hm⟩ := List.getElem?_of_mem hp
  rw [List.getElem?_drop] at hm
  have hl := (List.getElem?_eq_some_iff.1 hm).1
  have := ha.hi (z + m) (by omega) (by rw [← vushI_n h]; exact hl)
  rwa [vukey_at h hm] at this
theorem vuhas_iff {n c d : Nat} {L M : Rws} {P : VUP} (h : U.vushI n c L d M P) {k : Int} {z : Nat} (ha : U.vuAt L n k z) : U.vuHasAt L n k z ↔ U.vuHasK P k := by
  have hn := vushI_n h
  constructor
  · rintro ⟨h1, h2⟩
    have hz : z < P.length := by omega
    refine ⟨P[z].2, ?_⟩
    rw [Int.toNat_natCast, vukey_at h (List.getElem?_eq_getElem hz)] at h2
    rw [← h2]; exact List.getElem_mem hz
  · rintro ⟨e, he⟩
    obtain ⟨m, hm⟩ := List.getElem?_of_mem he
    have hl := (List.getElem?_eq_some_iff.1 hm).1
    have hk := vukey_at h hm
    have h1 : ¬ (m < z) := fun hlt => by
      have := ha.lo m (by omega)
      rw [hk] at this; exact vuirr this
    have h2 : ¬ (z < m) := fun hlt => by
      have a := ha.hi z (by omega) (by omega)
      have b := (vusrt_R h).out z m hlt (by omega)
      rw [hk] at b; exact a b
    obtain rfl : m = z := by omega
    exact ⟨by omega, by rw [Int.toNat_natCast]; exact hk⟩
theorem vuput_non {n c d : Nat} {L M : Rws} {P : VUP} (h : U.vushI n c L d M P) {k : Int} {z : Nat} (ha : U.vuAt L n k z) (hk : ¬ U.vuHasK P k) (e : VUv) :
    U.vuPut P k e (P.take z ++ [(k, e)] ++ P.drop z) ∧ U.vuks (P.take z ++ [(k, e)] ++ P.drop z) = U.insR (U.vuks P) z [.i k] ∧ U.vuvs (P.take z ++ [(k, e)] ++ P.drop z) = U.insR (U.vuvs P) z e.row := by
  have hne : ∀ p ∈ P, p.1 ≠ k := fun p hp he => hk ⟨p.2, he ▸ hp⟩
  have hgt : ∀ p ∈ P.drop z, k < p.1 := fun p hp => by
    by_cases hx : k < p.1
    · exact hx
    · exact (hne p (List.mem_of_mem_drop hp) (vutri (vuat_hi h ha hp) hx)).elim
  have hs := h.srt.out
  refine ⟨⟨⟨?_⟩, fun x y => ?_, fun hx => (hk hx).elim, fun _ => ?_⟩, ?_, ?_⟩
  · rw [← List.take_append_drop z P, List.pairwise_append] at hs
    rw [List.append_assoc, List.pairwise_append]
    refine ⟨hs.1, ?_, ?_⟩
    · rw [List.singleton_append, List.pairwise_cons]
      exact ⟨hgt, hs.2.1⟩
    · intro a ha' b hb
      rcases List.mem_cons.1 hb with rfl | hb
      · exact vuat_lo h ha ha'
      · exact hs.2.2 a ha' b hb
  · have hm : (x, y) ∈ P ↔ (x, y) ∈ P.take z ∨ (x, y) ∈ P.drop z := by
      rw [← List.mem_append, List.take_append_drop]
    simp only [List.mem_append, List.mem_singleton, Prod.mk.injEq]
    constructor
    · rintro ((hx | hx) | hx)
      · exact .inr ⟨hm.2 (.inl hx), hne _ (hm.2 (.inl hx))⟩
      · exact .inl hx
      · exact .inr ⟨hm.2 (.inr hx), hne _ (hm.2 (.inr hx))⟩
    · rintro (hx | ⟨hx, _⟩)
      · exact .inl (.inr hx)
      · rcases hm.1 hx with hx | hx
        · exact .inl (.inl hx)
        · exact .inr hx
  · have := ha.b
    have hn := vushI_n h
    simp; omega
  · simp [U.vuks, U.insR, List.map_take, List.map_drop]
  · simp [U.vuvs, U.insR, List.map_take, List.map_drop]
theorem vuput_has {n c d : Nat} {L M : Rws} {P : VUP} (h : U.vushI n c L d M P) {k : Int} {z : Nat} (ha : U.vuAt L n k z) (hk : U.vuHasAt L n k z) (e : VUv) :
    U.vuPut P k e (P.set z (k, e)) ∧ U.vuks (P.set z (k, e)) = U.vuks P ∧ U.vuvs (P.set z (k, e)) = (U.vuvs P).set z e.row := by
  have hn := vushI_n h
  obtain ⟨h1, h2⟩ := hk.out
  have hz : z < P.length := by omega
  have hkz : P[z].1 = k := by
    rw [Int.toNat_natCast, vukey_at h (List.getElem?_eq_getElem hz)] at h2; exact h2
  have hks : U.vuks (P.set z (k, e)) = U.vuks P := by
    apply List.ext_getElem?
    intro m
    simp only [U.vuks, List.getElem?_map, List.getElem?_set]
    by_cases hm : z = m
    · subst hm
      rw [if_pos rfl, if_pos hz, List.getElem?_eq_getElem hz]; simp [hkz]
    · rw [if_neg hm]
  have hlk : ∀ i (hi : i < P.length) (hi' : i < (P.set z (k, e)).length), ((P.set z (k, e))[i]).1 = (P[i]).1 := fun i hi hi' => by
    rw [List.getElem_set]
    split
    · rename_i hzi; subst hzi; exact hkz.symm
    · rfl
  refine ⟨⟨⟨?_⟩, fun x y => ?_, fun _ => List.length_set, fun hx => (hx ((vuhas_iff h ha).1 hk)).elim⟩, hks, ?_⟩
  · rw [List.pairwise_iff_getElem]
    intro i j hi hj hij
    rw [List.length_set] at hi hj
    rw [hlk i hi, hlk j hj]
    exact List.pairwise_iff_getElem.1 h.srt.out i j hi hj hij
  · constructor
    · intro hx
      obtain ⟨m, hm⟩ := List.getElem?_of_mem hx
      rw [List.getElem?_set] at hm
      split at hm
      · try rw [if_pos hz] at hm
        simp only [Option.some.injEq, Prod.mk.injEq] at hm
        exact .inl ⟨hm.1.symm, hm.2.symm⟩
      · rename_i hne
        refine .inr ⟨List.mem_of_getElem? hm, fun he => ?_⟩
        have hl := (List.getElem?_eq_some_iff.1 hm).1
        have e1 := vukey_at h hm
        have e2 := vukey_at h (List.getElem?_eq_getElem hz)
        rw [hkz] at e2
        dsimp only at e1
        rcases Nat.lt_or_gt_of_ne hne with hlt | hlt
        · have := (vusrt_R h).out z m hlt (by omega)
          rw [e1, e2, he] at this; exact vuirr this
        · have := (vusrt_R h).out m z hlt (by omega)
          rw [e1, e2, he] at this; exact vuirr this
    · rintro (⟨rfl, rfl⟩ | ⟨hx, hne⟩)
      · exact List.mem_of_getElem? (i := z) (by rw [List.getElem?_set, if_pos rfl, if_pos hz])
      · obtain ⟨m, hm⟩ := List.getElem?_of_mem hx
        refine List.mem_of_getElem? (i := m) ?_
        rw [List.getElem?_set]
        by_cases hmz : z = m
        · subst hmz
          rw [List.getElem?_eq_getElem hz] at hm
          simp only [Option.some.injEq] at hm
          exact (hne (by rw [hm] at hkz; exact hkz)).elim
        · rw [if_neg hmz]; exact hm
  · apply List.ext_getElem?
    intro m
    simp only [U.vuvs, List.getElem?_map, List.getElem?_set, List.length_map]
    by_cases hm : z = m
    · subst hm
      rw [if_pos rfl, if_pos rfl, if_pos hz, if_pos hz]; rfl
    · rw [if_neg hm, if_neg hm]
theorem vuput_row {n c d : Nat} {L M M' : Rws} {P : VUP} (h : U.vushI n c L d M P) {z : Nat} (hz : z < n) (e : VUv) {r : List CV} (hr : r = e.row) (hM : M' = U.put M z 0 r) : U.Fu M' n d ((U.vuvs P).set z e.row) := by
  subst hr
  have hn := vushI_n h
  have hrow := vurow_at h (List.getElem?_eq_getElem (show z < P.length by omega))
  have hp1 : put1 (M.getD z []) 0 e.row = e.row := by
    rw [hrow]
    simp [put1, VUv.row, vuR]
  unfold U.put at hM
  rw [hp1] at hM
  obtain ⟨v1, v2, v3, v4⟩ := h.vf
  exact ⟨by rw [hM, v1, List.take_set], by rw [hM, List.length_set]; exact v2, v3, v4⟩
def vushNw (n c : Nat) (L : Rws) (d : Nat) (M : Rws) (m : Int) : St := ⟨[vuB (rslC ⟨2, 1, 0, n, c⟩) (rslC ⟨3, 1, 0, n, d⟩) m], [], 0, [none, none, some (vukB L c), some (vuvB M d)], 0⟩
structure U.vuRem (P : VUP) (k : Int) (P' : VUP) : Prop where
  srt : U.vuSrt P'
  mem : ∀ x y, (x, y) ∈ P' ↔ (x, y) ∈ P ∧ x ≠ k
  len : P'.length + 1 = P.length
theorem vurem_has {n c d : Nat} {L M : Rws} {P : VUP} (h : U.vushI n c L d M P) {k : Int} {z : Nat} (ha : U.vuAt L n k z) (hk : U.vuHasAt L n k z) :
    U.vuRem P k (P.eraseIdx z) ∧ U.vuks (P.eraseIdx z) = U.erR (U.vuks P) z ∧ U.vuvs (P.eraseIdx z) = U.erR (U.vuvs P) z := by
  have hn := vushI_n h
  obtain ⟨h1, h2⟩ := hk.out
  have hz : z < P.length := by omega
  have hkz : P[z].1 = k := by
    rw [Int.toNat_natCast, vukey_at h (List.getElem?_eq_getElem hz)] at h2; exact h2
  have hlt : ∀ i j (hi : i < P.length) (hj : j < P.length), i < j → (P[i]).1 < (P[j]).1 := fun i j hi hj hij => List.pairwise_iff_getElem.1 h.srt.out i j hi hj hij
  refine ⟨⟨⟨List.Pairwise.sublist (List.eraseIdx_sublist _ _) h.srt.out⟩, fun x y => ?_, by rw [List.length_eraseIdx_of_lt hz]; omega⟩, ?_, ?_⟩
  · rw [List.mem_eraseIdx_iff_getElem?]
    constructor
    · rintro ⟨i, hi, hx⟩
      refine ⟨List.mem_of_getElem? hx, fun he => ?_⟩
      obtain ⟨hl, hx⟩ := List.getElem?_eq_some_iff.1 hx
      have e1 : (P[i]).1 = k := by rw [hx]; exact he
      rcases Nat.lt_or_gt_of_ne hi with g | g
      · have := hlt i z hl hz g
        rw [e1, hkz] at this; exact vuirr this
      · have := hlt z i hz hl g
        rw [e1, hkz] at this; exact vuirr this
    · rintro ⟨hx, hne⟩
      obtain ⟨i, hi⟩ := List.getElem?_of_mem hx
      refine ⟨i, fun he => hne ?_, hi⟩
      subst he
      rw [List.getElem?_eq_getElem hz] at hi
      simp only [Option.some.injEq] at hi
      rw [hi] at hkz; exact hkz
  · unfold U.erR U.vuks
    rw [Int.toNat_natCast]; simp [List.eraseIdx_eq_take_drop_succ, List.map_take, List.map_drop]
  · unfold U.erR U.vuvs
    rw [Int.toNat_natCast]; simp [List.eraseIdx_eq_take_drop_succ, List.map_take, List.map_drop]
theorem vuSet_run (K : AV → St → Prop) (L M : Rws) (n c d : Nat) (m : Int) (k : Int) (e : VUv) (P : VUP) (h : U.vushI n c L d M P) (hn : n ≤ 100000)
    (h1 : U.vuHasK P k → ∀ (M' : Rws) (P' : VUP), U.vuPut P k e P' → U.vushI n c L d M' P' → K (xi .i64 0) (vuSt n c L d M' m))
    (h2 : ¬ U.vuHasK P k → m ≤ n → K (xi .i64 4) (vuSt n c L d M m))
    (h3 : ¬ U.vuHasK P k → (n : Int) < m → ∀ (L' : Rws) (n' c' : Nat) (M' : Rws) (d' : Nat) (P' : VUP), n' = n + 1 → U.vuPut P k e P' → U.vushI n' c' L' d' M' P' → K (xi .i64 0) (vushNw n' c' L' d' M' m)) :
    runV vuov inv0 vutSh 43 [ptr 0 0, xi .i64 k, xi .i64 e.v0] (vuSt n c L d M m) K := by
  obtain ⟨v0⟩ := e
  have hPn := vushI_n h
  have hl := h.kf.len
  have hle := h.kf.le
  have hl2 := h.vf.len
  have hle2 := h.vf.le
  have G : ∀ (z : Nat), U.vuAt L n k z → (U.vuHasAt L n k z ↔ U.vuHasK P k) := fun z ha => vuhas_iff h ha
  show runV vuov inv0 vutSh 43 [ptr 0 0, xi .i64 k, xi .i64 v0] (vuSt n c L d M m) K
  rw [vuSet_vc]
  refine ⟨⟨rfl, by omega, by omega, vusrt_R h⟩, fun z hz => ?_⟩
  have hb := hz.b
  obtain ⟨z, rfl⟩ : ∃ y : Nat, z = y := ⟨z.toNat, by omega⟩
  refine ⟨fun hx => ⟨by have := hx.out.1; omega, fun j1 hj1 => ⟨by have := hx.out.1; omega, fun M' hM => ?_⟩⟩, fun hx z3 h3' => ⟨fun hfull => ?_, fun hroom => ⟨U.vuks P, ⟨rfl, h.kf, by omega, by omega⟩, fun n5 c6 L7 e5 e7 => ?_⟩⟩⟩
  · obtain rfl : j1 = z := by omega
    obtain ⟨q1, q2, q3⟩ := vuput_has h hz hx ⟨v0⟩
    exact h1 ((G j1 hz).1 hx) M' _ q1 ⟨by rw [q2]; exact h.kf, by rw [q3]; exact vuput_row h (by have := hx.out.1; omega) _ rfl hM, q1.srt⟩
  · exact h2 (fun hy => hx ((G z hz).2 hy)) (by omega)
  · repeat (first | refine ⟨rfl, ?_⟩ | refine ⟨⟨rfl, rfl, rfl⟩, ?_⟩)
    refine ⟨U.vuvs P, ⟨rfl, h.vf, by omega, by omega⟩, fun n9 d10 M11 e9 e11 => ?_⟩
    obtain rfl : n9 = n5 := by omega
    obtain ⟨q1, q2, q3⟩ := vuput_non h hz (fun hy => hx ((G z hz).2 hy)) ⟨v0⟩
    repeat' (first | exact rfl | with_reducible apply And.intro)
    exact h3 (fun hy => hx ((G z hz).2 hy)) (by omega) _ _ _ _ _ _ e5 q1 ⟨by rw [q2]; exact e7, by rw [q3]; exact e11, q1.srt⟩
structure U.vuHasE (P : VUP) (k : Int) (v0 : Int) : Prop where
  out : (k, (⟨v0⟩ : VUv)) ∈ P
theorem vuof {M : Rws} {j : Nat} {e : VUv} (h : M.getD j [] = e.row) : (⟨U.fi M j 0⟩ : VUv) = e := by
  unfold U.fi
  rw [h]
  rfl
abbrev vuge (v0 : Int) (ok : Bool) : AV := .inr [.inl (xintC .i64 v0), .inl (.inl (.bool ok))]
theorem vuGet_run (K : AV → St → Prop) (L M : Rws) (n c d : Nat) (m : Int) (k : Int) (P : VUP) (h : U.vushI n c L d M P) (hn : n ≤ 100000)
    (hT : ∀ v0 : Int, U.vuHasE P k v0 → K (vuge v0 true) (vuSt n c L d M m)) (hF : ¬ U.vuHasK P k → K (vuge 0 false) (vuSt n c L d M m)) :
    runV vuov inv0 vutSh 33 [ptr 0 0, xi .i64 k] (vuSt n c L d M m) K := by
  rw [vuGet_vc]
  have hPn := vushI_n h
  have hl := h.kf.len
  have hle := h.kf.le
  have hl2 := h.vf.len
  have hle2 := h.vf.le
  refine ⟨⟨rfl, by omega, by omega, vusrt_R h⟩, fun z hz => ?_⟩
  have hb := hz.b
  obtain ⟨z, rfl⟩ : ∃ y : Nat, z = y := ⟨z.toNat, by omega⟩
  refine ⟨fun hx => ⟨by have := hx.out.1; omega, fun j1 hj1 => ⟨by have := hx.out.1; omega, ?_⟩⟩, fun hx => hF (fun hy => hx ((vuhas_iff h hz).2 hy))⟩
  obtain rfl : j1 = z := by omega
  obtain ⟨g1, g2⟩ := hx.out
  have hzl : j1 < P.length := by omega
  have hP := List.getElem?_eq_getElem hzl
  have hrow := vurow_at h hP
  have hkz := vukey_at h hP
  rw [Int.toNat_natCast, hkz] at g2
  have hmem : (k, P[j1].2) ∈ P := by rw [← g2]; exact List.getElem_mem hzl
  have hT := hT (U.fi M j1 0) ⟨by rw [vuof hrow]; exact hmem⟩
  rintro _ rfl
  exact hT
theorem vuDel_run (K : AV → St → Prop) (L M : Rws) (n c d : Nat) (m : Int) (k : Int) (P : VUP) (h : U.vushI n c L d M P) (hn : n ≤ 100000)
    (h1 : U.vuHasK P k → ∀ (L' : Rws) (n' : Nat) (M' : Rws) (P' : VUP), n' + 1 = n → U.vuRem P k P' → U.vushI n' c L' d M' P' → K (xi .i64 1) ⟨[vuB (rslC ⟨2, 1, 0, n', c⟩) (rslC ⟨3, 1, 0, n', d⟩) m, vusV k], [], 0, [none, none, some (vukB L' c), some (vuvB M' d)], 0⟩)
    (h0 : ¬ U.vuHasK P k → K (xi .i64 0) ⟨[vuB (rslC ⟨0, 1, 0, n, c⟩) (rslC ⟨1, 1, 0, n, d⟩) m, vusV k], [], 0, [some (vukB L c), some (vuvB M d)], 0⟩) :
    runV vuov inv0 vutSh 45 [ptr 0 0, sl ⟨1, 0, 1, none, 1⟩] ⟨[vuB (rslC ⟨0, 1, 0, n, c⟩) (rslC ⟨1, 1, 0, n, d⟩) m, vusV k], [], 0, [some (vukB L c), some (vuvB M d)], 0⟩ K := by
  rw [vuDel_vc]
  have hPn := vushI_n h
  have hl := h.kf.len
  have hle := h.kf.le
  have hl2 := h.vf.len
  have hle2 := h.vf.le
  refine ⟨⟨rfl, by omega, by omega, vusrt_R h⟩, fun z hz => ?_⟩
  have hb := hz.b
  obtain ⟨z, rfl⟩ : ∃ y : Nat, z = y := ⟨z.toNat, by omega⟩
  refine ⟨fun hx z1 hz1 => ?_, fun hx => h0 (fun hy => hx ((vuhas_iff h hz).2 hy))⟩
  have hlt := hx.out.1
  have e1 := iw hz1 (by omega)
  obtain ⟨q1, q2, q3⟩ := vurem_has h hz hx
  refine ⟨U.vuks P, ⟨rfl, h.kf, by omega, e1⟩, fun n3 L4 e3 f4 z5 h5 => ⟨U.vuvs P, ⟨rfl, h.vf, by omega, iw h5 (by omega)⟩, fun n7 L8 e7 f8 => ?_⟩⟩
  obtain rfl : n7 = n3 := by omega
  exact h1 ((vuhas_iff h hz).1 hx) L4 n7 L8 _ e3 q1 ⟨by rw [q2]; exact f4, by rw [q3]; exact f8, q1.srt⟩
theorem vuKeys_run (K : AV → St → Prop) (L M : Rws) (n c d : Nat) (m : Int) (P : VUP) (h : U.vushI n c L d M P)
    (hK : ∀ (L' : Rws) (n' c' : Nat), n' = n → n' ≤ c' → L' = U.vuks P → K (cell (rslC ⟨2, 1, 0, n', c'⟩)) ⟨[vuB (rslC ⟨0, 1, 0, n, c⟩) (rslC ⟨1, 1, 0, n, d⟩) m], [], 0, [some (vukB L c), some (vuvB M d), some (vukB L' c')], 0⟩) :
    runQ inv0 tbl0 47 [ptr 0 0] (vuSt n c L d M m) K := by
  rw [vuKeys_vc]
  have hPn := vushI_n h
  have hv := h.kf.n
  have hl2 := h.kf.len
  have hle2 := h.kf.le
  have hsm := h.kf.sm
  refine ⟨fun h0 => hK [] 0 0 h0.symm (Nat.le_refl _) (List.eq_nil_of_length_eq_zero (by omega)).symm, trivial, (by omega : 0 + n ≤ L.length), by omega, by omega, fun L0 n1 c2 e0 e1 e2 => ?_⟩
  obtain rfl : n1 = n := by omega
  refine hK L0 n1 c2 rfl e2 ?_
  rw [e0, List.drop_zero, h.kf.eq]; rfl
end Go.Proofs.Ytfhgnngdbbgogaa
end
section
set_option linter.unusedVariables false
set_option linter.unusedSimpArgs false
set_option maxRecDepth 10000
namespace Go.Proofs.Ytfhgnngdbbgogaa
open Go Reck Ost
def vushC (p : Option Blk) (a1 a2 : Option ABlk) : Option (Nat × Nat × Rws × Nat × Rws × Int) :=
  match p, a1, a2 with
  | some ⟨79, [a, b, m], none, 3, false⟩, some ⟨3, .o (.rows [.n .i64] L), [], c0, false⟩, some ⟨3, .o (.rows ks M), [], d0, false⟩ => match cRsl a, cRsl b, cInt m, sameK ks vuvK with
    | some ⟨0, 1, 0, n, c⟩, some ⟨1, 1, 0, n2, d⟩, some m, true => some (n, c0, L, d0, M, m)
    | _, _, _, _ => none
  | _, _, _ => none
def vushD (p : Option Blk) (a1 a2 : Option ABlk) : Prop :=
  match p, a1, a2 with
  | some ⟨_, [a, b, _], _, _, _⟩, some ⟨_, _, _, c0, _⟩, some ⟨_, _, _, d0, _⟩ => match cRsl a, cRsl b with
    | some ⟨_, _, _, n, c⟩, some ⟨_, _, _, n2, d⟩ => c = c0 ∧ d = d0 ∧ n2 = n
    | _, _ => False
  | _, _, _ => False
theorem vushC_eq {p : Option Blk} {a1 a2 : Option ABlk} {n c d : Nat} {L M : Rws} {m : Int} (h : vushC p a1 a2 = some (n, c, L, d, M, m)) (hy : vushD p a1 a2) : p = vuB (rslC ⟨0, 1, 0, n, c⟩) (rslC ⟨1, 1, 0, n, d⟩) m ∧ a1 = some (vukB L c) ∧ a2 = some (vuvB M d) := by
  unfold vushC at h
  split at h
  · split at h
    · rename_i h1 h2 h3 h4
      simp only [Option.some.injEq, Prod.mk.injEq] at h
      obtain ⟨rfl, rfl, rfl, rfl, rfl, rfl⟩ := h
      simp only [vushD, h1, h2] at hy
      obtain ⟨rfl, rfl, rfl⟩ := hy
      rw [cRsl_eq h1, cRsl_eq h2, cInt_eq h3, sameK_eq h4]
      exact ⟨rfl, rfl, rfl⟩
    · cases h
  · cases h
theorem vumv {w0 w : World} {e : Env} {n c d : Nat} {L M : Rws} {m : Int} {H : List (Option Blk)} (h : Ok w0 e ⟨vuB (rslC ⟨0, 1, 0, n, c⟩) (rslC ⟨1, 1, 0, n, d⟩) m :: H, [], 0, [some (vukB L c), some (vuvB M d)], 0⟩ w) :
    ∃ e', e.le e' ∧ Ok w0 e' ⟨vuB (rslC ⟨2, 1, 0, n, c⟩) (rslC ⟨3, 1, 0, n, d⟩) m :: H, [], 0, [none, none, some (vukB L c), some (vuvB M d)], 0⟩ w := by
  have hb : ∃ q, e.blk[0]? = some q := by
    have := h.blks
    exact ⟨_, List.getElem?_eq_getElem (by rw [this]; exact Nat.succ_pos _)⟩
  obtain ⟨q, hq⟩ := hb
  obtain ⟨_, cur, fz, _, hc, _⟩ := h.blk 0 _ q rfl hq
  obtain ⟨v0, a0, _⟩ := hc 0 _ rfl
  obtain ⟨v1, a1, _⟩ := hc 1 _ rfl
  have b0 : Reck.av e (cell (rslC ⟨0, 1, 0, n, c⟩)) = some v0 := a0
  obtain ⟨q1, m1, k1⟩ := h.mvRows (i := 0) (b := vukB L c) rfl rfl rfl b0
  have b1 := av_mono (le_arr e q1) (cell (rslC ⟨1, 1, 0, n, d⟩)) v1 a1
  obtain ⟨q2, m2, k2⟩ := k1.mvRows (i := 1) (b := vuvB M d) rfl rfl rfl b1
  have l2 := le_arr ⟨e.blk, e.int, e.opq, e.arr ++ [q1], e.S, e.junk⟩ q2
  have m1 := av_mono l2 _ _ m1
  have le := (le_arr e q1).trans l2
  refine ⟨_, le, ?_⟩
  exact k2.reCell (i := 0) (cells' := [rslC ⟨2, 1, 0, n, c⟩, rslC ⟨3, 1, 0, n, d⟩, xintC .i64 m]) rfl (by
    intro j c' hc'
    match j, hc' with
    | 0, hc' => simp at hc'; subst hc'; exact ⟨_, _, rfl, cv_mono le _ _ a0, m1⟩
    | 1, hc' => simp at hc'; subst hc'; exact ⟨_, _, rfl, cv_mono le _ _ a1, m2⟩
    | 2, hc' => simp at hc'; subst hc'; exact ⟨_, _, rfl, rfl, rfl⟩
    | n + 3, hc' => simp at hc')
def U.vulen (P : VUP) : Nat := P.length
structure U.vuRoom (P : VUP) (k : Int) (m : Int) : Prop where
  out : U.vuHasK P k ∨ (P.length : Int) < m
def vupNew : Pat := fun args σ => match args, σ with
  | [m], ⟨[], [], 0, [], 0⟩ => match aInt m with
    | some m => some fun K => K (ptr 0 0) ⟨[vuB (rslC ⟨0, 1, 0, 0, 0⟩) (rslC ⟨1, 1, 0, 0, 0⟩) m], [], 0, [some (vukB [] 0), some (vuvB [] 0)], 0⟩
    | _ => none
  | _, _ => none
theorem vupNew_ok : PatOk 20 vupNew := by
  intro tm σ C h K hK w0 e w hk vs hvs
  unfold vupNew at h
  split at h
  · split at h
    · rename_i m hm
      simp only [Option.some.injEq] at h; subst h
      obtain ⟨v, rfl, hv⟩ := ones hvs
      refine (knownD noOv names (opMV_ok vuovOk) (conOk_ofR tbl0_ok) (show runV vuov inv0 tbl0 20 [xi .i64 m] emptySt (fun x σ' => x = ptr 0 0 ∧ σ' = ⟨[vuB (.inl (.slice none 0 0)) (.inl (.slice none 0 0)) m], [], 0, [], 0⟩) by rw [vuNew_vc]; exact ⟨rfl, rfl⟩) w0 e w hk _ (map1 (as_aInt hm hv))).mono ?_
      rintro en w' ⟨x, σ', e', v', h1, h2, h3, h4, rfl, rfl⟩
      obtain ⟨k1, c1⟩ := h4.addNone 3 [.n .i64] 1
      obtain ⟨k2, c2⟩ := k1.addNone 3 vuvK 1
      have l2 := le_arr ⟨e'.blk, e'.int, e'.opq, e'.arr ++ [.inl none], e'.S, e'.junk⟩ (.inl none)
      have c1 := cv_mono l2 _ _ c1
      have k3 := k2.reCell (i := 0) (cells' := [rslC ⟨0, 1, 0, 0, 0⟩, rslC ⟨1, 1, 0, 0, 0⟩, xintC .i64 m]) rfl (by
        intro j c' hc'
        match j, hc' with
        | 0, hc' => simp at hc'; subst hc'; exact ⟨_, _, rfl, rfl, c1⟩
        | 1, hc' => simp at hc'; subst hc'; exact ⟨_, _, rfl, rfl, c2⟩
        | 2, hc' => simp at hc'; subst hc'; exact ⟨_, _, rfl, rfl, rfl⟩
        | n + 3, hc' => simp at hc')
      exact ⟨_, _, _, v', h1, h2.trans ((le_arr e' (.inl none)).trans l2), av_mono ((le_arr e' (.inl none)).trans l2) _ _ h3, k3, hK⟩
    · cases h
  · cases h
def vupSet : Pat := fun args σ => match args, σ with
  | [.inl (.inl (.inr (.inl (0, 0)))), k, v], ⟨[p], [], 0, [a1, a2], 0⟩ => match aInt k, aInt v, vushC p a1 a2 with
    | some k, some v0, some (n, c, L, d, M, m) => some fun K => ∃ P, (vushD p a1 a2 ∧ U.vushI n c L d M P ∧ n ≤ 100000) ∧
      (U.vuRoom P k m → ∀ (L' : Rws) (n' c' : Nat) (M' : Rws) (d' : Nat) (P' : VUP), n' = U.vulen P' → U.vuPut P k (⟨v0⟩ : VUv) P' → U.vushI n' c' L' d' M' P' → K (xi .i64 0) (vushNw n' c' L' d' M' m)) ∧
      (¬ U.vuRoom P k m → K (xi .i64 4) (vuSt n c L d M m))
    | _, _, _ => none
  | _, _ => none
theorem vupSet_ok : PatOk 43 vupSet := by
  intro tm σ C h K hK w0 e w hk vs hvs
  unfold vupSet at h
  split at h
  · split at h
    · rename_i k en n c L d M m hkk hl hσ
      simp only [Option.some.injEq] at h; subst h
      obtain ⟨P, ⟨hy, h1, h2⟩, h3, h4⟩ := hK
      obtain ⟨rfl, rfl, rfl⟩ := vushC_eq hσ hy
      obtain ⟨x, y, z, rfl, q1, q2, q3⟩ := threes hvs
      have hn := vushI_n h1
      refine (knownD noOv names (opMV_ok vuovOk) (conOk_ofR vutSh_ok) (vuSet_run (fun x σ' => (x = xi .i64 0 ∧ U.vuRoom P k m ∧ ∃ (L' : Rws) (n' c' : Nat) (M' : Rws) (d' : Nat) (P' : VUP), n' = P'.length ∧ U.vuPut P k ⟨en⟩ P' ∧ U.vushI n' c' L' d' M' P' ∧ (σ' = vuSt n' c' L' d' M' m ∨ σ' = vushNw n' c' L' d' M' m)) ∨ (x = xi .i64 4 ∧ ¬ U.vuRoom P k m ∧ σ' = vuSt n c L d M m)) L M n c d m k ⟨en⟩ P h1 h2 ?_ ?_ ?_) w0 e w hk _ (map3 q1 (as_aInt hkk q2) (as_aInt hl q3))).mono ?_
      · exact fun hh M' P' hp hi => .inl ⟨rfl, ⟨.inl hh⟩, L, n, c, M', d, P', by rw [hp.has hh, hn], hp, hi, .inl rfl⟩
      · exact fun hh hm => .inr ⟨rfl, fun ⟨hx⟩ => hx.elim hh (fun h => by omega), rfl⟩
      · exact fun hh hm L' n' c' M' d' P' he hp hi => .inl ⟨rfl, ⟨.inr (by omega)⟩, L', n', c', M', d', P', by rw [hp.non hh]; omega, hp, hi, .inr rfl⟩
      · rintro en' w' ⟨x, σ', e', v, g1, g2, g3, g4, hw⟩
        rcases hw with ⟨rfl, hr, L', n', c', M', d', P', f1, f2, f3, rfl | rfl⟩ | ⟨rfl, hr, rfl⟩
        · obtain ⟨e2, l2, k2⟩ := vumv g4
          exact ⟨_, _, e2, v, g1, g2.trans l2, av_mono l2 _ _ g3, k2, h3 hr L' n' c' M' d' P' f1 f2 f3⟩
        · exact ⟨_, _, e', v, g1, g2, g3, g4, h3 hr L' n' c' M' d' P' f1 f2 f3⟩
        · exact ⟨_, _, e', v, g1, g2, g3, g4, h4 hr⟩
    · cases h
  · cases h
def vupGet : Pat := fun args σ => match args, σ with
  | [.inl (.inl (.inr (.inl (0, 0)))), k], ⟨[p], [], 0, [a1, a2], 0⟩ => match aInt k, vushC p a1 a2 with
    | some k, some (n, c, L, d, M, m) => some fun K => ∃ P, (vushD p a1 a2 ∧ U.vushI n c L d M P ∧ n ≤ 100000) ∧ (∀ v0 : Int, U.vuHasE P k v0 → K (vuge v0 true) (vuSt n c L d M m)) ∧ (¬ U.vuHasK P k → K (vuge 0 false) (vuSt n c L d M m))
    | _, _ => none
  | _, _ => none
theorem vupGet_ok : PatOk 33 vupGet := by
  intro tm σ C h K hK w0 e w hk vs hvs
  unfold vupGet at h
  split at h
  · split at h
    · rename_i hkk hσ
      simp only [Option.some.injEq] at h; subst h
      obtain ⟨P, ⟨hy, h1, h2⟩, h3, h4⟩ := hK
      obtain ⟨rfl, rfl, rfl⟩ := vushC_eq hσ hy
      obtain ⟨x, y, rfl, q1, q2⟩ := twos hvs
      exact knownD noOv names (opMV_ok vuovOk) (conOk_ofR vutSh_ok) (vuGet_run K _ _ _ _ _ _ _ P h1 h2 h3 h4) w0 e w hk _ (map2 q1 (as_aInt hkk q2))
    · cases h
  · cases h
structure U.vuRm (P : VUP) (k : Int) (P' : VUP) : Prop where
  srt : U.vuSrt P'
  mem : ∀ x y, (x, y) ∈ P' ↔ (x, y) ∈ P ∧ x ≠ k
  len : P'.length ≤ P.length
structure U.vuRmN (P : VUP) (k : Int) (z : Int) : Prop where
  yes : U.vuHasK P k → z = 1
  no : ¬ U.vuHasK P k → z = 0
theorem vurm_of {P P' : VUP} {k : Int} (h : U.vuRem P k P') : U.vuRm P k P' := ⟨h.srt, h.mem, by have := h.len; omega⟩
theorem vurm_non {P : VUP} {k : Int} (hs : U.vuSrt P) (h : ¬ U.vuHasK P k) : U.vuRm P k P :=
  ⟨hs, fun x y => ⟨fun hx => ⟨hx, fun he => h ⟨y, he ▸ hx⟩⟩, fun hx => hx.1⟩, Nat.le_refl _⟩
def vupDel : Pat := fun args σ => match args, σ with
  | [.inl (.inl (.inr (.inl (0, 0)))), .inl (.inl (.inr (.inr (.inl ⟨1, 0, 1, none, 1⟩))))], ⟨[p, some ⟨3, [v], none, 1, false⟩], [], 0, [a1, a2], 0⟩ => match cInt v, vushC p a1 a2 with
    | some k, some (n, c, L, d, M, m) => some fun K => ∃ P, (vushD p a1 a2 ∧ U.vushI n c L d M P ∧ n ≤ 100000) ∧ ∀ (z : Int) (L' : Rws) (n' : Nat) (M' : Rws) (P' : VUP), n' = U.vulen P' → U.vuRmN P k z → U.vuRm P k P' → U.vushI n' c L' d M' P' → K (xi .i64 z) ⟨[vuB (rslC ⟨2, 1, 0, n', c⟩) (rslC ⟨3, 1, 0, n', d⟩) m, vusV k], [], 0, [none, none, some (vukB L' c), some (vuvB M' d)], 0⟩
    | _, _ => none
  | _, _ => none
theorem vupDel_ok : PatOk 45 vupDel := by
  intro tm σ C h K hK w0 e w hk vs hvs
  unfold vupDel at h
  split at h
  · split at h
    · rename_i k n c L d M m hkk hσ
      simp only [Option.some.injEq] at h; subst h
      obtain ⟨P, ⟨hy, h1, h2⟩, h3⟩ := hK
      obtain ⟨rfl, rfl, rfl⟩ := vushC_eq hσ hy
      obtain rfl := cInt_eq hkk
      obtain ⟨x, y, rfl, q1, q2⟩ := twos hvs
      have hn := vushI_n h1
      refine (knownD noOv names (opMV_ok vuovOk) (conOk_ofR vutSh_ok) (vuDel_run (fun x σ' => ∃ (z : Int) (L' : Rws) (n' : Nat) (M' : Rws) (P' : VUP), x = xi .i64 z ∧ n' = U.vulen P' ∧ U.vuRmN P k z ∧ U.vuRm P k P' ∧ U.vushI n' c L' d M' P' ∧ (σ' = ⟨[vuB (rslC ⟨0, 1, 0, n', c⟩) (rslC ⟨1, 1, 0, n', d⟩) m, vusV k], [], 0, [some (vukB L' c), some (vuvB M' d)], 0⟩ ∨ σ' = ⟨[vuB (rslC ⟨2, 1, 0, n', c⟩) (rslC ⟨3, 1, 0, n', d⟩) m, vusV k], [], 0, [none, none, some (vukB L' c), some (vuvB M' d)], 0⟩)) L M n c d m k P h1 h2 ?_ ?_) w0 e w hk _ (map2 q1 q2)).mono ?_
      · exact fun hh L' n' M' P' he hr hi => ⟨1, L', n', M', P', rfl, by have := vushI_n hi; exact this.symm, ⟨fun _ => rfl, fun g => (g hh).elim⟩, vurm_of hr, hi, .inr rfl⟩
      · exact fun hh => ⟨0, L, n, M, P, rfl, hn.symm, ⟨fun g => (hh g).elim, fun _ => rfl⟩, vurm_non h1.srt hh, h1, .inl rfl⟩
      · rintro en' w' ⟨x, σ', e', v, g1, g2, g3, g4, z, L', n', M', P', rfl, f1, f2, f3, f4, rfl | rfl⟩
        · obtain ⟨e2, l2, k2⟩ := vumv g4
          exact ⟨_, _, e2, v, g1, g2.trans l2, av_mono l2 _ _ g3, k2, h3 z L' n' M' P' f1 f2 f3 f4⟩
        · exact ⟨_, _, e', v, g1, g2, g3, g4, h3 z L' n' M' P' f1 f2 f3 f4⟩
    · cases h
  · cases h
def vupKeys : Pat := fun args σ => match args, σ with
  | [.inl (.inl (.inr (.inl (0, 0))))], ⟨[p], [], 0, [a1, a2], 0⟩ => match vushC p a1 a2 with
    | some (n, c, L, d, M, m) => some fun K => ∃ P, (vushD p a1 a2 ∧ U.vushI n c L d M P) ∧ ∀ (L' : Rws) (n' c' : Nat), n' = n → n' ≤ c' → L' = U.vuks P → K (cell (rslC ⟨2, 1, 0, n', c'⟩)) ⟨[vuB (rslC ⟨0, 1, 0, n, c⟩) (rslC ⟨1, 1, 0, n, d⟩) m], [], 0, [some (vukB L c), some (vuvB M d), some (vukB L' c')], 0⟩
    | _ => none
  | _, _ => none
theorem vupKeys_ok : PatOk 47 vupKeys := by
  intro tm σ C h K hK w0 e w hk vs hvs
  unfold vupKeys at h
  split at h
  · split at h
    · rename_i hσ
      simp only [Option.some.injEq] at h; subst h
      obtain ⟨P, ⟨hy, h1⟩, h2⟩ := hK
      obtain ⟨rfl, rfl, rfl⟩ := vushC_eq hσ hy
      exact knownD noOv names opMK_ok (conOk_ofR tbl0_ok) (vuKeys_run K _ _ _ _ _ _ P h1 h2) w0 e w hk vs hvs
    · cases h
  · cases h
def vutS : Tbl := tblOr (tblIf 20 vupNew) (tblOr (tblIf 43 vupSet) (tblOr (tblIf 33 vupGet) (tblOr (tblIf 45 vupDel) ((tblIf 47 vupKeys)))))
theorem vutS_ok : TblOk Try.prog vutS := tblOr_ok (tblIf_ok vupNew_ok) (tblOr_ok (tblIf_ok vupSet_ok) (tblOr_ok (tblIf_ok vupGet_ok) (tblOr_ok (tblIf_ok vupDel_ok) ((tblIf_ok vupKeys_ok)))))
end Go.Proofs.Ytfhgnngdbbgogaa
end
