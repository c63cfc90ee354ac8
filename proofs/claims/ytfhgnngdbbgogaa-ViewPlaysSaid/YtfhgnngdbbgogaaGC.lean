/- Parts of a proof, one behind the other: VL1 VL2 VL3 VL4 VL5. No condition. -/
import Derived.Test.YtfhgnngdbbgogaaGA
section
namespace Go.Proofs.Ytfhgnngdbbgogaa
open Go Reck Ost
set_option linter.unusedVariables false
set_option maxRecDepth 100000
abbrev vlov : List FuncId := [61, 63]
def vlkB (L : Rws) (cap : Nat) : ABlk := rowB 3 [.n .i64] L cap false
def vlvK : List CK := [.n .i64, .n .i64, .n .i64, .n .i64, .n .i64]
def vlC (v0 v1 v2 v3 v4 : Int) : List Cell := [xintC .i64 v0, xintC .i64 v1, xintC .i64 v2, xintC .i64 v3, xintC .i64 v4]
def vlR (v0 v1 v2 v3 v4 : Int) : List CV := [.i v0, .i v1, .i v2, .i v3, .i v4]
def vlvB (L : Rws) (cap : Nat) : ABlk := rowB 58 vlvK L cap false
theorem vlinsK_vc (K:AV→St→Prop) (L:Rws) (n c:Nat) (i:Int) (k:Int):(runV vlov inv0 tbl0 54 [cell (rslC ⟨0,1,0,n,c⟩),xi .i64 i,sl ⟨0,0,1,none,1⟩] ⟨[some ⟨3,[xintC .i64 k],none,1,false⟩],[],0,[some (vlkB L c)],0⟩ K)=((0≤i∧i≤(↑n:Int)∧(↑n:Int)≤(↑c:Int))∧∀ (o0 n1 c2:Nat),((↑o0:Int)=if (↑c:Int)=Option.getD (some i) (0:Int) then (0:Int) else (0:Int) + i)→(↑n1:Int)=(↑n:Int) - i→(↑c2:Int)=(↑c:Int) - i→∀ (z3:Int),z3=(↑n:Int)→(i=z3→((0:Nat) + c≤List.length L∧(0:Nat) + c≤c)∧True∧n≤16777216∧(1:Nat)≤16777216∧∀ (L'4 T5:List (List CV)) (n'6 c'7:Nat),L'4=List.take n (List.take c (List.drop ((0:Nat)) L)) ++ [CV.i k] :: U.nilL ++ T5→n'6=n + (1:Nat)→n'6≤c'7→List.length L'4=c'7→K (Sum.inl (Sum.inl (rslC ⟨1,(0:Nat) + (1:Nat),0,n'6,c'7⟩))) ⟨[some ⟨nat_lit 3,[xintC .i64 k],none,1,false⟩],[],0,[none,some ⟨3,.o (.rows [.n .i64] L'4),[],c'7,false⟩],0⟩)∧(¬i=z3→∀ (z8:Int),z8=IntKind.wrap .i64 (z3 + (1:Int))→∀ (z9:Int),z9=(↑c:Int)→(z9<z8→((0:Int)≤0∧0≤i∧i≤(↑c:Int))∧∀ (o10 n11 c12:Nat),((↑o10:Int)=if (↑c:Int)=Option.getD none (0:Int) then (0:Int) else (0:Int))→(↑n11:Int)=i - (0:Int)→(↑c12:Int)=(↑c:Int) - (0:Int)→∀ (z13:Int),z13=IntKind.wrap .i64 (z3 + (1:Int))→∀ (z14:Int),z14=IntKind.wrap .i64 (z13 - i)→(o10 + c12≤List.length L∧o10 + c12≤c)∧n11≤16777216∧(0≤z14∧z14≤16777216)∧(↑c12:Int)<(↑n11:Int) + z14∧∀ (L'15 T16:List (List CV)) (n'17 c'18:Nat),L'15=List.take n11 (List.take c12 (List.drop o10 L)) ++ List.replicate (Int.toNat z14) [CV.i (0:Int)] ++ T16→(↑n'17:Int)=(↑n11:Int) + z14→n'17≤c'18→List.length L'15=c'18→(0≤i∧i≤(↑n'17:Int)∧(↑n'17:Int)≤(↑c'18:Int))∧∀ (o19 n20 c21:Nat),((↑o19:Int)=if (↑c'18:Int)=Option.getD (some i) (0:Int) then (0:Int) else (0:Int) + i)→(↑n20:Int)=(↑n'17:Int) - i→(↑c21:Int)=(↑c'18:Int) - i→(o19 + n20≤List.length L'15∧True)∧∀ (n22:Nat) (L'23:List (List CV)),n22=min ((1:Nat)) n20→L'23=List.take o19 L'15 ++ List.take n22 ([CV.i k] :: U.nilL) ++ List.drop (o19 + n22) L'15→∀ (z24:Int),z24=IntKind.wrap .i64 (i + (1:Int))→(0≤z24∧z24≤(↑n'17:Int)∧(↑n'17:Int)≤(↑c'18:Int))∧∀ (o25 n26 c27:Nat),((↑o25:Int)=if (↑c'18:Int)=Option.getD (some z24) (0:Int) then (0:Int) else (0:Int) + z24)→(↑n26:Int)=(↑n'17:Int) - z24→(↑c27:Int)=(↑c'18:Int) - z24→(0≤i∧i≤(↑n:Int)∧(↑n:Int)≤(↑c:Int))∧∀ (o28 n29 c30:Nat),((↑o28:Int)=if (↑c:Int)=Option.getD (some i) (0:Int) then (0:Int) else (0:Int) + i)→(↑n29:Int)=(↑n:Int) - i→(↑c30:Int)=(↑c:Int) - i→(o25 + n26≤List.length L'23∧Nat.le (o28 + n29) (List.length L))∧∀ (n31:Nat) (L'32:List (List CV)),n31=min n29 n26→L'32=List.take o25 L'23 ++ List.take n31 (List.take n29 (List.drop o28 L)) ++ List.drop (o25 + n31) L'23→K (Sum.inl (Sum.inl (rslC ⟨1,1,0,n'17,c'18⟩))) ⟨[some ⟨nat_lit 3,[xintC .i64 k],none,1,false⟩],[],0,[some ⟨3,.o (.rows [.n .i64] L),[],c,false⟩,some ⟨nat_lit 3,.o (.rows [.n .i64] L'32),[],c'18,false⟩],0⟩)∧(¬z9<z8→∀ (z33:Int),z33=IntKind.wrap .i64 (z3 + (1:Int))→((0:Int)≤0∧0≤z33∧z33≤(↑c:Int))∧∀ (o34 n35 c36:Nat),((↑o34:Int)=if (↑c:Int)=Option.getD none (0:Int) then (0:Int) else (0:Int))→(↑n35:Int)=z33 - (0:Int)→(↑c36:Int)=(↑c:Int) - (0:Int)→∀ (z37:Int),z37=IntKind.wrap .i64 (i + (1:Int))→(0≤z37∧z37≤(↑n35:Int)∧(↑n35:Int)≤(↑c36:Int))∧∀ (o38 n39 c40:Nat),((↑o38:Int)=if (↑c36:Int)=Option.getD (some z37) (0:Int) then (↑o34:Int) else (↑o34:Int) + z37)→(↑n39:Int)=(↑n35:Int) - z37→(↑c40:Int)=(↑c36:Int) - z37→o38 + n39≤List.length L∧∀ (z41:Int),z41=IntKind.wrap .i64 (i + (1:Int))→(0≤z41∧z41≤(↑n35:Int)∧(↑n35:Int)≤(↑c36:Int))∧∀ (o42 n43 c44:Nat),((↑o42:Int)=if (↑c36:Int)=Option.getD (some z41) (0:Int) then (↑o34:Int) else (↑o34:Int) + z41)→(↑n43:Int)=(↑n35:Int) - z41→(↑c44:Int)=(↑c36:Int) - z41→(0≤i∧i≤(↑n35:Int)∧(↑n35:Int)≤(↑c36:Int))∧∀ (o45 n46 c47:Nat),((↑o45:Int)=if (↑c36:Int)=Option.getD (some i) (0:Int) then (↑o34:Int) else (↑o34:Int) + i)→(↑n46:Int)=(↑n35:Int) - i→(↑c47:Int)=(↑c36:Int) - i→(o42 + n43≤List.length L∧Nat.le (o45 + n46) (List.length L))∧∀ (n48:Nat) (L'49:List (List CV)),n48=min n46 n43→L'49=List.take o42 L ++ List.take n48 (List.take n46 (List.drop o45 L)) ++ List.drop (o42 + n48) L→(0≤i∧i≤(↑n35:Int)∧(↑n35:Int)≤(↑c36:Int))∧∀ (o50 n51 c52:Nat),((↑o50:Int)=if (↑c36:Int)=Option.getD (some i) (0:Int) then (↑o34:Int) else (↑o34:Int) + i)→(↑n51:Int)=(↑n35:Int) - i→(↑c52:Int)=(↑c36:Int) - i→(o50 + n51≤List.length L'49∧True)∧∀ (n53:Nat) (L'54:List (List CV)),n53=min ((1:Nat)) n51→L'54=List.take o50 L'49 ++ List.take n53 ([CV.i k] :: U.nilL) ++ List.drop (o50 + n53) L'49→K (Sum.inl (Sum.inl (rslC ⟨0,1,o34,n35,c36⟩))) ⟨[some ⟨nat_lit 3,[xintC .i64 k],none,1,false⟩],[],0,[some ⟨nat_lit 3,.o (.rows [.n .i64] L'54),[],c,false⟩],0⟩))) := by kernel_rfl
theorem vlinsV_vc (K:AV→St→Prop) (L:Rws) (n c:Nat) (i:Int) (v0 v1 v2 v3 v4:Int):(runV vlov inv0 tbl0 55 [cell (rslC ⟨0,5,0,n,c⟩),xi .i64 i,sl ⟨0,0,1,none,1⟩] ⟨[some ⟨58,vlC v0 v1 v2 v3 v4,none,5,false⟩],[],0,[some (vlvB L c)],0⟩ K)=((0≤i∧i≤(↑n:Int)∧(↑n:Int)≤(↑c:Int))∧∀ (o0 n1 c2:Nat),((↑o0:Int)=if (↑c:Int)=Option.getD (some i) (0:Int) then (0:Int) else (0:Int) + i)→(↑n1:Int)=(↑n:Int) - i→(↑c2:Int)=(↑c:Int) - i→∀ (z3:Int),z3=(↑n:Int)→(i=z3→((0:Nat) + c≤List.length L∧(0:Nat) + c≤c)∧True∧n≤16777216∧(1:Nat)≤16777216∧∀ (L'4 T5:List (List CV)) (n'6 c'7:Nat),L'4=List.take n (List.take c (List.drop ((0:Nat)) L)) ++ [CV.i v0,CV.i v1,CV.i v2,CV.i v3,CV.i v4] :: U.nilL ++ T5→n'6=n + (1:Nat)→n'6≤c'7→List.length L'4=c'7→K (Sum.inl (Sum.inl (rslC ⟨1,(4:Nat) + (1:Nat),0,n'6,c'7⟩))) ⟨[some ⟨nat_lit 58,[xintC .i64 v0,xintC .i64 v1,xintC .i64 v2,xintC .i64 v3,xintC .i64 v4],none,5,false⟩],[],0,[none,some ⟨58,.o (.rows [.n .i64,.n .i64,.n .i64,.n .i64,.n .i64] L'4),[],c'7,false⟩],0⟩)∧(¬i=z3→∀ (z8:Int),z8=IntKind.wrap .i64 (z3 + (1:Int))→∀ (z9:Int),z9=(↑c:Int)→(z9<z8→((0:Int)≤0∧0≤i∧i≤(↑c:Int))∧∀ (o10 n11 c12:Nat),((↑o10:Int)=if (↑c:Int)=Option.getD none (0:Int) then (0:Int) else (0:Int))→(↑n11:Int)=i - (0:Int)→(↑c12:Int)=(↑c:Int) - (0:Int)→∀ (z13:Int),z13=IntKind.wrap .i64 (z3 + (1:Int))→∀ (z14:Int),z14=IntKind.wrap .i64 (z13 - i)→(o10 + c12≤List.length L∧o10 + c12≤c)∧n11≤16777216∧(0≤z14∧z14≤16777216)∧(↑c12:Int)<(↑n11:Int) + z14∧∀ (L'15 T16:List (List CV)) (n'17 c'18:Nat),L'15=List.take n11 (List.take c12 (List.drop o10 L)) ++ List.replicate (Int.toNat z14) [CV.i (0:Int),CV.i (0:Int),CV.i (0:Int),CV.i (0:Int),CV.i (0:Int)] ++ T16→(↑n'17:Int)=(↑n11:Int) + z14→n'17≤c'18→List.length L'15=c'18→(0≤i∧i≤(↑n'17:Int)∧(↑n'17:Int)≤(↑c'18:Int))∧∀ (o19 n20 c21:Nat),((↑o19:Int)=if (↑c'18:Int)=Option.getD (some i) (0:Int) then (0:Int) else (0:Int) + i)→(↑n20:Int)=(↑n'17:Int) - i→(↑c21:Int)=(↑c'18:Int) - i→(o19 + n20≤List.length L'15∧True)∧∀ (n22:Nat) (L'23:List (List CV)),n22=min ((1:Nat)) n20→L'23=List.take o19 L'15 ++ List.take n22 ([CV.i v0,CV.i v1,CV.i v2,CV.i v3,CV.i v4] :: U.nilL) ++ List.drop (o19 + n22) L'15→∀ (z24:Int),z24=IntKind.wrap .i64 (i + (1:Int))→(0≤z24∧z24≤(↑n'17:Int)∧(↑n'17:Int)≤(↑c'18:Int))∧∀ (o25 n26 c27:Nat),((↑o25:Int)=if (↑c'18:Int)=Option.getD (some z24) (0:Int) then (0:Int) else (0:Int) + z24)→(↑n26:Int)=(↑n'17:Int) - z24→(↑c27:Int)=(↑c'18:Int) - z24→(0≤i∧i≤(↑n:Int)∧(↑n:Int)≤(↑c:Int))∧∀ (o28 n29 c30:Nat),((↑o28:Int)=if (↑c:Int)=Option.getD (some i) (0:Int) then (0:Int) else (0:Int) + i)→(↑n29:Int)=(↑n:Int) - i→(↑c30:Int)=(↑c:Int) - i→(o25 + n26≤List.length L'23∧Nat.le (o28 + n29) (List.length L))∧∀ (n31:Nat) (L'32:List (List CV)),n31=min n29 n26→L'32=List.take o25 L'23 ++ List.take n31 (List.take n29 (List.drop o28 L)) ++ List.drop (o25 + n31) L'23→K (Sum.inl (Sum.inl (rslC ⟨1,5,0,n'17,c'18⟩))) ⟨[some ⟨nat_lit 58,[xintC .i64 v0,xintC .i64 v1,xintC .i64 v2,xintC .i64 v3,xintC .i64 v4],none,5,false⟩],[],0,[some ⟨58,.o (.rows [.n .i64,.n .i64,.n .i64,.n .i64,.n .i64] L),[],c,false⟩,some ⟨nat_lit 58,.o (.rows [.n .i64,.n .i64,.n .i64,.n .i64,.n .i64] L'32),[],c'18,false⟩],0⟩)∧(¬z9<z8→∀ (z33:Int),z33=IntKind.wrap .i64 (z3 + (1:Int))→((0:Int)≤0∧0≤z33∧z33≤(↑c:Int))∧∀ (o34 n35 c36:Nat),((↑o34:Int)=if (↑c:Int)=Option.getD none (0:Int) then (0:Int) else (0:Int))→(↑n35:Int)=z33 - (0:Int)→(↑c36:Int)=(↑c:Int) - (0:Int)→∀ (z37:Int),z37=IntKind.wrap .i64 (i + (1:Int))→(0≤z37∧z37≤(↑n35:Int)∧(↑n35:Int)≤(↑c36:Int))∧∀ (o38 n39 c40:Nat),((↑o38:Int)=if (↑c36:Int)=Option.getD (some z37) (0:Int) then (↑o34:Int) else (↑o34:Int) + z37)→(↑n39:Int)=(↑n35:Int) - z37→(↑c40:Int)=(↑c36:Int) - z37→o38 + n39≤List.length L∧∀ (z41:Int),z41=IntKind.wrap .i64 (i + (1:Int))→(0≤z41∧z41≤(↑n35:Int)∧(↑n35:Int)≤(↑c36:Int))∧∀ (o42 n43 c44:Nat),((↑o42:Int)=if (↑c36:Int)=Option.getD (some z41) (0:Int) then (↑o34:Int) else (↑o34:Int) + z41)→(↑n43:Int)=(↑n35:Int) - z41→(↑c44:Int)=(↑c36:Int) - z41→(0≤i∧i≤(↑n35:Int)∧(↑n35:Int)≤(↑c36:Int))∧∀ (o45 n46 c47:Nat),((↑o45:Int)=if (↑c36:Int)=Option.getD (some i) (0:Int) then (↑o34:Int) else (↑o34:Int) + i)→(↑n46:Int)=(↑n35:Int) - i→(↑c47:Int)=(↑c36:Int) - i→(o42 + n43≤List.length L∧Nat.le (o45 + n46) (List.length L))∧∀ (n48:Nat) (L'49:List (List CV)),n48=min n46 n43→L'49=List.take o42 L ++ List.take n48 (List.take n46 (List.drop o45 L)) ++ List.drop (o42 + n48) L→(0≤i∧i≤(↑n35:Int)∧(↑n35:Int)≤(↑c36:Int))∧∀ (o50 n51 c52:Nat),((↑o50:Int)=if (↑c36:Int)=Option.getD (some i) (0:Int) then (↑o34:Int) else (↑o34:Int) + i)→(↑n51:Int)=(↑n35:Int) - i→(↑c52:Int)=(↑c36:Int) - i→(o50 + n51≤List.length L'49∧True)∧∀ (n53:Nat) (L'54:List (List CV)),n53=min ((1:Nat)) n51→L'54=List.take o50 L'49 ++ List.take n53 ([CV.i v0,CV.i v1,CV.i v2,CV.i v3,CV.i v4] :: U.nilL) ++ List.drop (o50 + n53) L'49→K (Sum.inl (Sum.inl (rslC ⟨0,5,o34,n35,c36⟩))) ⟨[some ⟨nat_lit 58,[xintC .i64 v0,xintC .i64 v1,xintC .i64 v2,xintC .i64 v3,xintC .i64 v4],none,5,false⟩],[],0,[some ⟨nat_lit 58,.o (.rows [.n .i64,.n .i64,.n .i64,.n .i64,.n .i64] L'54),[],c,false⟩],0⟩))) := by kernel_rfl
theorem vldelK_vc (K:AV→St→Prop) (L:Rws) (n c:Nat) (i j:Int):(runW vlov inv0 tbl0 58 [cell (rslC ⟨0,1,0,n,c⟩),xi .i64 i,xi .i64 j] ⟨[],[],0,[some (vlkB L c)],0⟩ K)=(∀ (z0:Int),z0=(↑n:Int)→(0≤i∧i≤j∧j≤z0∧z0≤(↑c:Int))∧∀ (o1 n2 c3:Nat),((↑o1:Int)=if z0=i then (↑((0:Nat)):Int) else (↑((0:Nat)):Int) + i)→(↑n2:Int)=j - i→(↑c3:Int)=z0 - i→(i=j→K (Sum.inl (Sum.inl (rslC ⟨0,1,0,n,c⟩))) ⟨[],[],0,[some ⟨(3:TypeId),.o (.rows [.n .i64] L),[],c,false⟩],0⟩)∧(¬i=j→∀ (z4:Int),z4=(↑n:Int)→((0:Int)≤0∧0≤i∧i≤(↑c:Int))∧∀ (o5 n6 c7:Nat),((↑o5:Int)=if (↑c:Int)=Option.getD none (0:Int) then (0:Int) else (0:Int))→(↑n6:Int)=i - (0:Int)→(↑c7:Int)=(↑c:Int) - (0:Int)→(0≤j∧j≤(↑n:Int)∧(↑n:Int)≤(↑c:Int))∧∀ (o8 n9 c10:Nat),((↑o8:Int)=if (↑c:Int)=Option.getD (some j) (0:Int) then (0:Int) else (0:Int) + j)→(↑n9:Int)=(↑n:Int) - j→(↑c10:Int)=(↑c:Int) - j→(o5 + c7≤List.length L∧o5 + c7≤c)∧Nat.le (o8 + n9) (List.length L)∧(n6≤16777216∧n9≤16777216∧n6 + n9≤c7)∧∀ (L'11:List (List CV)) (n'12:Nat),L'11=List.take n6 (List.take c7 (List.drop o5 L)) ++ List.take n9 (List.drop o8 L) ++ List.drop (n6 + n9) (List.take c7 (List.drop o5 L))→n'12=n6 + n9→∀ (z13:Int),z13=(↑n'12:Int)→(0≤z13∧z13≤z4∧z4≤(↑c7:Int))∧∀ (o14 n15 c16:Nat),((↑o14:Int)=if (↑c7:Int)=Option.getD (some z13) (0:Int) then (0:Int) else (0:Int) + z13)→(↑n15:Int)=z4 - z13→(↑c16:Int)=(↑c7:Int) - z13→o14 + n15≤List.length L'11∧∀ (L'17:List (List CV)),L'17=List.take o14 L'11 ++ List.replicate n15 [CV.i (0:Int)] ++ List.drop (o14 + n15) L'11→K (Sum.inl (Sum.inl (rslC ⟨1,1,0,n'12,c7⟩))) ⟨[],[],0,[none,some ⟨nat_lit 3,.o (.rows [.n .i64] L'17),[],c7,false⟩],0⟩)) := by kernel_rfl
end Go.Proofs.Ytfhgnngdbbgogaa
end
section
set_option linter.unusedVariables false
set_option linter.unusedSimpArgs false
namespace Go.Proofs.Ytfhgnngdbbgogaa
open Go Reck Ost
theorem vlovOk : vlov.all (isOverlaps Try.prog) = true := by kernel_rfl
set_option maxHeartbeats 4000000 in
theorem vlinsK_run (K : AV → St → Prop) (L A : Rws) (n c : Nat) (i : Int) (k : Int) (h : U.Fu L n c A) (hi : 0 ≤ i ∧ i ≤ n) (hn : n + 1 ≤ 1000000)
    (hA : ∀ (L' : Rws) (c' : Nat), U.Fu L' (n + 1) c' (U.insR A i [.i k]) → K (cell (rslC ⟨1, 1, 0, n + 1, c'⟩)) ⟨[some ⟨3, [xintC .i64 k], none, 1, false⟩], [], 0, [none, some (vlkB L' c')], 0⟩)
    (hB : ∀ (L' : Rws) (c' : Nat), U.Fu L' (n + 1) c' (U.insR A i [.i k]) → K (cell (rslC ⟨1, 1, 0, n + 1, c'⟩)) ⟨[some ⟨3, [xintC .i64 k], none, 1, false⟩], [], 0, [some (vlkB L c), some (vlkB L' c')], 0⟩)
    (hC : ∀ (L' : Rws) (c' : Nat), U.Fu L' (n + 1) c' (U.insR A i [.i k]) → K (cell (rslC ⟨0, 1, 0, n + 1, c'⟩)) ⟨[some ⟨3, [xintC .i64 k], none, 1, false⟩], [], 0, [some (vlkB L' c')], 0⟩) :
    runV vlov inv0 tbl0 54 [cell (rslC ⟨0, 1, 0, n, c⟩), xi .i64 i, sl ⟨0, 0, 1, none, 1⟩] ⟨[some ⟨3, [xintC .i64 k], none, 1, false⟩], [], 0, [some (vlkB L c)], 0⟩ K := by
  rw [vlinsK_vc]
  have hl := h.len
  have hle := h.le
  have tk : L.take c = L := List.take_of_length_le (by omega)
  obtain ⟨j, rfl⟩ : ∃ j : Nat, i = j := ⟨i.toNat, by omega⟩
  refine ⟨⟨by omega, by omega, by omega⟩, fun o0 n1 c2 _ h1 h2 z3 h3 => ⟨fun hin => ⟨⟨by omega, by omega⟩, trivial, by omega, by omega, fun L4 T5 n6 c7 e4 e6 e7 e8 => ?_⟩, fun hin z8 h8 z9 h9 => ⟨fun hlt => ⟨⟨by omega, by omega, by omega⟩, fun o10 n11 c12 h10 h11 h12 z13 h13 z14 h14 => ?_⟩, fun hge z31 h31 => ?_⟩⟩⟩
  · subst e6
    rw [List.drop_zero, tk] at e4
    have hj : j = n := by omega
    subst hj
    exact hA _ _ (insA h e4 e8 e7 hn)
  · replace h8 := iw h8 (by omega)
    replace h13 := iw h13 (by omega)
    replace h14 := iw h14 (by omega)
    replace h10 := off_of (l := 0) h10 (.inr rfl)
    obtain rfl : o10 = 0 := by omega
    obtain rfl : n11 = j := by omega
    obtain rfl : c12 = c := by omega
    refine ⟨⟨by omega, by omega⟩, by omega, ⟨by omega, by omega⟩, by omega, fun L15 T16 n17 c18 e15 e17 e18 e19 => ?_⟩
    obtain rfl : n17 = n + 1 := by omega
    refine ⟨⟨by omega, by omega, by omega⟩, fun o19 n20 c21 h19 h20 h21 => ?_⟩
    have q19 : ¬ (c18 : Int) = n11 := by clear h19; omega
    replace h19 := off_of (l := n11) h19 (.inl q19)
    obtain rfl : o19 = n11 := by omega
    refine ⟨⟨by omega, trivial⟩, fun n22 L23 h22 e23 z24 h24 => ?_⟩
    replace h24 := iw h24 (by omega)
    refine ⟨⟨by omega, by omega, by omega⟩, fun o25 n26 c27 h25 h26 h27 => ?_⟩
    have q25 : ¬ (c18 : Int) = z24 := by clear h25; omega
    replace h25 := off_of (l := z24) h25 (.inl q25)
    refine ⟨⟨by omega, by omega, by omega⟩, fun o28 n29 c30 h28 h29 h30 => ?_⟩
    have q28 : ¬ (c12 : Int) = o19 := by clear h28; omega
    replace h28 := off_of (l := o19) h28 (.inl q28)
    obtain ⟨f23, l23⟩ := mid_one e23 (by omega) (by omega)
    clear e23
    obtain rfl : o25 = o19 + 1 := by omega
    obtain rfl : o28 = o19 := by omega
    refine ⟨⟨by omega, (by omega : o28 + n29 ≤ L.length)⟩, fun n31 L32 h31 e32 => ?_⟩
    obtain rfl : n31 = n - o28 := by omega
    obtain ⟨f32, l32⟩ := mid_row (k := n + 1) e32 (by omega) (by omega) (by omega) (by omega)
    rw [List.drop_zero, tk, show z14.toNat = n + 1 - o28 by omega] at e15
    exact hB _ _ (insB h (by omega) e15 e19 e18 f23 f32 hn)
  · replace h8 := iw h8 (by omega)
    replace h31 := iw h31 (by omega)
    refine ⟨⟨by omega, by omega, by omega⟩, fun o32 n33 c34 h32 h33 h34 z35 h35 => ?_⟩
    replace h32 := off_of (l := 0) h32 (.inr rfl)
    replace h35 := iw h35 (by omega)
    obtain rfl : o32 = 0 := by omega
    obtain rfl : n33 = n + 1 := by omega
    obtain rfl : c34 = c := by omega
    refine ⟨⟨by omega, by omega, by omega⟩, fun o36 n37 c38 h36 h37 h38 => ?_⟩
    have q36 : ¬ (c34 : Int) = z35 := by clear h36; omega
    replace h36 := off_of (l := z35) h36 (.inl q36)
    refine ⟨by omega, fun z39 h39 => ?_⟩
    replace h39 := iw h39 (by omega)
    refine ⟨⟨by omega, by omega, by omega⟩, fun o40 n41 c42 h40 h41 h42 => ?_⟩
    have q40 : ¬ (c34 : Int) = z39 := by clear h40; omega
    replace h40 := off_of (l := z39) h40 (.inl q40)
    refine ⟨⟨by omega, by omega, by omega⟩, fun o43 n44 c45 h43 h44 h45 => ?_⟩
    have q43 : ¬ (c34 : Int) = j := by clear h43; omega
    replace h43 := off_of (l := j) h43 (.inl q43)
    obtain rfl : o40 = j + 1 := by omega
    obtain rfl : o43 = j := by omega
    refine ⟨⟨by omega, (by omega : o43 + n44 ≤ L.length)⟩, fun n46 L47 h46 e47 => ⟨⟨by omega, by omega, by omega⟩, fun o48 n49 c50 h48 h49 h50 => ?_⟩⟩
    have q48 : ¬ (c34 : Int) = o43 := by clear h48; omega
    replace h48 := off_of (l := o43) h48 (.inl q48)
    obtain rfl : o48 = o43 := by omega
    obtain rfl : n46 = n - o48 := by omega
    obtain ⟨f47, l47⟩ := mid_row (k := n + 1) e47 (by omega) (by omega) (by omega) (by omega)
    clear e47
    refine ⟨⟨by omega, trivial⟩, fun n51 L52 h51 e52 => ?_⟩
    obtain ⟨f52, l52⟩ := mid_one e52 (by omega) (by omega)
    exact hC _ _ (insC h (by omega) (by omega) f47 f52 hn)
set_option maxHeartbeats 4000000 in
theorem vlinsV_run (K : AV → St → Prop) (L A : Rws) (n c : Nat) (i : Int) (v0 v1 v2 v3 v4 : Int) (h : U.Fu L n c A) (hi : 0 ≤ i ∧ i ≤ n) (hn : n + 1 ≤ 1000000)
    (hA : ∀ (L' : Rws) (c' : Nat), U.Fu L' (n + 1) c' (U.insR A i (vlR v0 v1 v2 v3 v4)) → K (cell (rslC ⟨1, 5, 0, n + 1, c'⟩)) ⟨[some ⟨58, vlC v0 v1 v2 v3 v4, none, 5, false⟩], [], 0, [none, some (vlvB L' c')], 0⟩)
    (hB : ∀ (L' : Rws) (c' : Nat), U.Fu L' (n + 1) c' (U.insR A i (vlR v0 v1 v2 v3 v4)) → K (cell (rslC ⟨1, 5, 0, n + 1, c'⟩)) ⟨[some ⟨58, vlC v0 v1 v2 v3 v4, none, 5, false⟩], [], 0, [some (vlvB L c), some (vlvB L' c')], 0⟩)
    (hC : ∀ (L' : Rws) (c' : Nat), U.Fu L' (n + 1) c' (U.insR A i (vlR v0 v1 v2 v3 v4)) → K (cell (rslC ⟨0, 5, 0, n + 1, c'⟩)) ⟨[some ⟨58, vlC v0 v1 v2 v3 v4, none, 5, false⟩], [], 0, [some (vlvB L' c')], 0⟩) :
    runV vlov inv0 tbl0 55 [cell (rslC ⟨0, 5, 0, n, c⟩), xi .i64 i, sl ⟨0, 0, 1, none, 1⟩] ⟨[some ⟨58, vlC v0 v1 v2 v3 v4, none, 5, false⟩], [], 0, [some (vlvB L c)], 0⟩ K := by
  rw [vlinsV_vc]
  have hl := h.len
  have hle := h.le
  have tk : L.take c = L := List.take_of_length_le (by omega)
  obtain ⟨j, rfl⟩ : ∃ j : Nat, i = j := ⟨i.toNat, by omega⟩
  refine ⟨⟨by omega, by omega, by omega⟩, fun o0 n1 c2 _ h1 h2 z3 h3 => ⟨fun hin => ⟨⟨by omega, by omega⟩, trivial, by omega, by omega, fun L4 T5 n6 c7 e4 e6 e7 e8 => ?_⟩, fun hin z8 h8 z9 h9 => ⟨fun hlt => ⟨⟨by omega, by omega, by omega⟩, fun o10 n11 c12 h10 h11 h12 z13 h13 z14 h14 => ?_⟩, fun hge z31 h31 => ?_⟩⟩⟩
  · subst e6
    rw [List.drop_zero, tk] at e4
    have hj : j = n := by omega
    subst hj
    exact hA _ _ (insA h e4 e8 e7 hn)
  · replace h8 := iw h8 (by omega)
    replace h13 := iw h13 (by omega)
    replace h14 := iw h14 (by omega)
    replace h10 := off_of (l := 0) h10 (.inr rfl)
    obtain rfl : o10 = 0 := by omega
    obtain rfl : n11 = j := by omega
    obtain rfl : c12 = c := by omega
    refine ⟨⟨by omega, by omega⟩, by omega, ⟨by omega, by omega⟩, by omega, fun L15 T16 n17 c18 e15 e17 e18 e19 => ?_⟩
    obtain rfl : n17 = n + 1 := by omega
    refine ⟨⟨by omega, by omega, by omega⟩, fun o19 n20 c21 h19 h20 h21 => ?_⟩
    have q19 : ¬ (c18 : Int) = n11 := by clear h19; omega
    replace h19 := off_of (l := n11) h19 (.inl q19)
    obtain rfl : o19 = n11 := by omega
    refine ⟨⟨by omega, trivial⟩, fun n22 L23 h22 e23 z24 h24 => ?_⟩
    replace h24 := iw h24 (by omega)
    refine ⟨⟨by omega, by omega, by omega⟩, fun o25 n26 c27 h25 h26 h27 => ?_⟩
    have q25 : ¬ (c18 : Int) = z24 := by clear h25; omega
    replace h25 := off_of (l := z24) h25 (.inl q25)
    refine ⟨⟨by omega, by omega, by omega⟩, fun o28 n29 c30 h28 h29 h30 => ?_⟩
    have q28 : ¬ (c12 : Int) = o19 := by clear h28; omega
    replace h28 := off_of (l := o19) h28 (.inl q28)
    obtain ⟨f23, l23⟩ := mid_one e23 (by omega) (by omega)
    clear e23
    obtain rfl : o25 = o19 + 1 := by omega
    obtain rfl : o28 = o19 := by omega
    refine ⟨⟨by omega, (by omega : o28 + n29 ≤ L.length)⟩, fun n31 L32 h31 e32 => ?_⟩
    obtain rfl : n31 = n - o28 := by omega
    obtain ⟨f32, l32⟩ := mid_row (k := n + 1) e32 (by omega) (by omega) (by omega) (by omega)
    rw [List.drop_zero, tk, show z14.toNat = n + 1 - o28 by omega] at e15
    exact hB _ _ (insB h (by omega) e15 e19 e18 f23 f32 hn)
  · replace h8 := iw h8 (by omega)
    replace h31 := iw h31 (by omega)
    refine ⟨⟨by omega, by omega, by omega⟩, fun o32 n33 c34 h32 h33 h34 z35 h35 => ?_⟩
    replace h32 := off_of (l := 0) h32 (.inr rfl)
    replace h35 := iw h35 (by omega)
    obtain rfl : o32 = 0 := by omega
    obtain rfl : n33 = n + 1 := by omega
    obtain rfl : c34 = c := by omega
    refine ⟨⟨by omega, by omega, by omega⟩, fun o36 n37 c38 h36 h37 h38 => ?_⟩
    have q36 : ¬ (c34 : Int) = z35 := by clear h36; omega
    replace h36 := off_of (l := z35) h36 (.inl q36)
    refine ⟨by omega, fun z39 h39 => ?_⟩
    replace h39 := iw h39 (by omega)
    refine ⟨⟨by omega, by omega, by omega⟩, fun o40 n41 c42 h40 h41 h42 => ?_⟩
    have q40 : ¬ (c34 : Int) = z39 := by clear h40; omega
    replace h40 := off_of (l := z39) h40 (.inl q40)
    refine ⟨⟨by omega, by omega, by omega⟩, fun o43 n44 c45 h43 h44 h45 => ?_⟩
    have q43 : ¬ (c34 : Int) = j := by clear h43; omega
    replace h43 := off_of (l := j) h43 (.inl q43)
    obtain rfl : o40 = j + 1 := by omega
    obtain rfl : o43 = j := by omega
    refine ⟨⟨by omega, (by omega : o43 + n44 ≤ L.length)⟩, fun n46 L47 h46 e47 => ⟨⟨by omega, by omega, by omega⟩, fun o48 n49 c50 h48 h49 h50 => ?_⟩⟩
    have q48 : ¬ (c34 : Int) = o43 := by clear h48; omega
    replace h48 := off_of (l := o43) h48 (.inl q48)
    obtain rfl : o48 = o43 := by omega
    obtain rfl : n46 = n - o48 := by omega
    obtain ⟨f47, l47⟩ := mid_row (k := n + 1) e47 (by omega) (by omega) (by omega) (by omega)
    clear e47
    refine ⟨⟨by omega, trivial⟩, fun n51 L52 h51 e52 => ?_⟩
    obtain ⟨f52, l52⟩ := mid_one e52 (by omega) (by omega)
    exact hC _ _ (insC h (by omega) (by omega) f47 f52 hn)
theorem vldelK_run (K : AV → St → Prop) (L A : Rws) (n c : Nat) (i j : Int) (h : U.Fu L n c A) (hi : 0 ≤ i ∧ i < n) (hj : j = i + 1)
    (hK : ∀ (n' : Nat) (L' : Rws), n' + 1 = n → U.Fu L' n' c (A.eraseIdx i.toNat) → K (cell (rslC ⟨1, 1, 0, n', c⟩)) ⟨[], [], 0, [none, some (vlkB L' c)], 0⟩) :
    runW vlov inv0 tbl0 58 [cell (rslC ⟨0, 1, 0, n, c⟩), xi .i64 i, xi .i64 j] ⟨[], [], 0, [some (vlkB L c)], 0⟩ K := by
  rw [vldelK_vc]
  have hl := h.len
  have hle := h.le
  have hsm := h.sm
  have tk : L.take c = L := List.take_of_length_le (by omega)
  obtain ⟨p, rfl⟩ : ∃ p : Nat, i = p := ⟨i.toNat, by omega⟩
  subst hj
  refine fun z0 h0 => ⟨⟨by omega, by omega, by omega, by omega⟩, fun o1 n2 c3 _ _ _ => ⟨fun g => by omega, fun _ z4 h4 => ⟨⟨by omega, by omega, by omega⟩, fun o5 n6 c7 h5 h6 h7 => ⟨⟨by omega, by omega, by omega⟩, fun o8 n9 c10 h8 h9 h10 => ?_⟩⟩⟩⟩
  obtain rfl : o5 = 0 := by split at h5 <;> omega
  obtain rfl : n6 = p := by omega
  obtain rfl : c7 = c := by omega
  have h8' : o8 = n6 + 1 ∨ n - (n6 + 1) = 0 := by
    by_cases hc : (c7 : Int) = (n6 : Int) + 1
    · right; omega
    · left
      replace h8 := off_of (l := (n6 : Int) + 1) h8 (.inl hc)
      omega
  have h8b : o8 + n9 ≤ L.length := by
    rcases h8' with h | h
    · omega
    · replace h8 : (o8 : Int) ≤ n6 + 1 := by split at h8 <;> omega
      omega
  clear h8
  obtain rfl : n9 = n - (n6 + 1) := by omega
  refine ⟨⟨by omega, by omega⟩, h8b, ⟨by omega, by omega, by omega⟩, fun L11 n12 e11 e12 z13 h13 => ⟨⟨by omega, by omega, by omega⟩, fun o14 n15 c16 h14 h15 h16 => ?_⟩⟩
  have q14 : ¬ (c7 : Int) = z13 := by clear h14; omega
  replace h14 := off_of (l := z13) h14 (.inl q14)
  obtain rfl : o14 = n - 1 := by omega
  obtain rfl : n15 = 1 := by omega
  rw [List.drop_zero, tk, show n6 + (n - (n6 + 1)) = n - 1 by omega] at e11
  have l11 : L11.length = c7 := by
    rw [e11, List.length_append, List.length_append, List.length_take, List.length_take, List.length_drop, List.length_drop]; omega
  refine ⟨by omega, fun L17 e17 => hK n12 L17 (by omega) ?_⟩
  have := del_fin h (by omega) h8' e11 (L2 := L17) (by rw [e17, show n - 1 + 1 = n by omega])
  rw [Int.toNat_natCast, show n12 = n - 1 by omega]
  exact this
end Go.Proofs.Ytfhgnngdbbgogaa
end
section
set_option linter.unusedVariables false
set_option linter.unusedSimpArgs false
set_option maxRecDepth 10000
namespace Go.Proofs.Ytfhgnngdbbgogaa
open Go Reck Ost
structure VLv where
  (v0 v1 v2 v3 v4 : Int)
def VLv.cells (e : VLv) : List Cell := vlC e.v0 e.v1 e.v2 e.v3 e.v4
def VLv.row (e : VLv) : List CV := vlR e.v0 e.v1 e.v2 e.v3 e.v4
def vlX (l : List Cell) : Option VLv :=
  match l with
  | [v0, v1, v2, v3, v4] => match xiX (cell v0), xiX (cell v1), xiX (cell v2), xiX (cell v3), xiX (cell v4) with
    | some (.i64, v0), some (.i64, v1), some (.i64, v2), some (.i64, v3), some (.i64, v4) => some ⟨v0, v1, v2, v3, v4⟩
    | _, _, _, _, _ => none
  | _ => none
theorem vlX_eq {l : List Cell} {e : VLv} (h : vlX l = some e) : l = e.cells := by
  unfold vlX at h
  split at h
  · split at h
    · rename_i h0 h1 h2 h3 h4
      simp only [Option.some.injEq] at h; subst h
      rw [cInj (xiX_eq h0), cInj (xiX_eq h1), cInj (xiX_eq h2), cInj (xiX_eq h3), cInj (xiX_eq h4)]; rfl
    · cases h
  · cases h
def vlsV (k : Int) : Option Blk := some ⟨3, [xintC .i64 k], none, 1, false⟩
def vleV (e : VLv) : Option Blk := some ⟨58, e.cells, none, 5, false⟩
def vlpInsK : Pat := fun args σ => match args, σ with
  | [s, i, .inl (.inl (.inr (.inr (.inl ⟨0, 0, 1, none, 1⟩))))], ⟨[some ⟨3, [v], none, 1, false⟩], [], 0, [some ⟨3, .o (.rows [.n .i64] L), [], c0, false⟩], 0⟩ => match rslX s, intX i, cInt v with
    | some ⟨0, 1, 0, n, c⟩, some (.i64, i), some k => some fun K => ∃ A, (c0 = c ∧ U.Fu L n c A ∧ (0 ≤ i ∧ i ≤ n) ∧ n + 1 ≤ 1000000) ∧ ∀ (n' c' : Nat) (L' : Rws), n' = n + 1 → U.Fu L' n' c' (U.insR A i [.i k]) → K (cell (rslC ⟨1, 1, 0, n', c'⟩)) ⟨[vlsV k], [], 0, [none, some (vlkB L' c')], 0⟩
    | _, _, _ => none
  | _, _ => none
theorem vlpInsK_ok : PatOk 54 vlpInsK := by
  intro tm σ C h K hK w0 e w hk vs hvs
  unfold vlpInsK at h
  split at h
  · rename_i s i v L c0
    split at h
    · rename_i n c i' k hs hi hv
      obtain rfl := rslX_eq hs
      obtain rfl := cInt_eq hv
      simp only [Option.some.injEq] at h; subst h
      obtain ⟨A, ⟨rfl, h1, h2, h3⟩, hK⟩ := hK
      obtain ⟨x, y, z, rfl, q1, q2, q3⟩ := threes hvs
      refine ins_fin (old := some (vlkB L c0)) (u := 1) (Q := fun n' c' L' => n' = n + 1 ∧ U.Fu L' n' c' (U.insR A i' [.i k])) (knownD noOv names (opMV_ok vlovOk) (conOk_ofR tbl0_ok) (vlinsK_run _ L A n c0 i' k h1 h2 h3 ?_ ?_ ?_) w0 e w hk _ (map3 q1 (as_int hi q2) q3)) (fun n' c' L' hq => hK n' c' L' hq.1 hq.2)
      · exact fun L' c' hF => ⟨n + 1, c', L', ⟨rfl, hF⟩, .inl ⟨rfl, rfl⟩⟩
      · exact fun L' c' hF => ⟨n + 1, c', L', ⟨rfl, hF⟩, .inr (.inl ⟨rfl, rfl⟩)⟩
      · exact fun L' c' hF => ⟨n + 1, c', L', ⟨rfl, hF⟩, .inr (.inr ⟨rfl, rfl⟩)⟩
    · cases h
  · cases h
def vlpInsV : Pat := fun args σ => match args, σ with
  | [s, i, .inl (.inl (.inr (.inr (.inl ⟨0, 0, 1, none, 1⟩))))], ⟨[some ⟨58, l, none, 5, false⟩], [], 0, [some ⟨58, .o (.rows ks L), [], c0, false⟩], 0⟩ => match rslX s, intX i, vlX l, sameK ks vlvK with
    | some ⟨0, 5, 0, n, c⟩, some (.i64, i), some e, true => some fun K => ∃ A, (c0 = c ∧ U.Fu L n c A ∧ (0 ≤ i ∧ i ≤ n) ∧ n + 1 ≤ 1000000) ∧ ∀ (n' c' : Nat) (L' : Rws), n' = n + 1 → U.Fu L' n' c' (U.insR A i e.row) → K (cell (rslC ⟨1, 5, 0, n', c'⟩)) ⟨[vleV e], [], 0, [none, some (vlvB L' c')], 0⟩
    | _, _, _, _ => none
  | _, _ => none
theorem vlpInsV_ok : PatOk 55 vlpInsV := by
  intro tm σ C h K hK w0 e w hk vs hvs
  unfold vlpInsV at h
  split at h
  · rename_i s i l ks L c0
    split at h
    · rename_i n c i' en hs hi hv hks
      obtain rfl := rslX_eq hs
      obtain rfl := vlX_eq hv
      obtain rfl := sameK_eq hks
      simp only [Option.some.injEq] at h; subst h
      obtain ⟨A, ⟨rfl, h1, h2, h3⟩, hK⟩ := hK
      obtain ⟨x, y, z, rfl, q1, q2, q3⟩ := threes hvs
      refine ins_fin (old := some (vlvB L c0)) (u := 5) (Q := fun n' c' L' => n' = n + 1 ∧ U.Fu L' n' c' (U.insR A i' en.row)) (knownD noOv names (opMV_ok vlovOk) (conOk_ofR tbl0_ok) (vlinsV_run _ L A n c0 i' en.v0 en.v1 en.v2 en.v3 en.v4 h1 h2 h3 ?_ ?_ ?_) w0 e w hk _ (map3 q1 (as_int hi q2) q3)) (fun n' c' L' hq => hK n' c' L' hq.1 hq.2)
      · exact fun L' c' hF => ⟨n + 1, c', L', ⟨rfl, hF⟩, .inl ⟨rfl, rfl⟩⟩
      · exact fun L' c' hF => ⟨n + 1, c', L', ⟨rfl, hF⟩, .inr (.inl ⟨rfl, rfl⟩)⟩
      · exact fun L' c' hF => ⟨n + 1, c', L', ⟨rfl, hF⟩, .inr (.inr ⟨rfl, rfl⟩)⟩
    · cases h
  · cases h
def vlpDelK : Pat := fun args σ => match args, σ with
  | [s, i, j], ⟨[], [], 0, [some ⟨3, .o (.rows ks L), [], c0, false⟩], 0⟩ => match rslX s, intX i, intX j, sameK ks [.n .i64] with
    | some ⟨0, 1, 0, n, c⟩, some (.i64, i), some (.i64, j), true => some fun K => ∃ A, (c0 = c ∧ U.Fu L n c A ∧ (0 ≤ i ∧ i < n) ∧ j = i + 1) ∧ ∀ (n' : Nat) (L' : Rws), n' + 1 = n → U.Fu L' n' c (U.erR A i) → K (cell (rslC ⟨1, 1, 0, n', c⟩)) ⟨[], [], 0, [none, some (vlkB L' c)], 0⟩
    | _, _, _, _ => none
  | _, _ => none
theorem vlpDelK_ok : PatOk 58 vlpDelK := by
  intro tm σ C h K hK w0 e w hk vs hvs
  unfold vlpDelK at h
  split at h
  · rename_i s i j ks L c0
    split at h
    · rename_i n c i' j' hs hi hj hks
      obtain rfl := rslX_eq hs
      obtain rfl := sameK_eq hks
      simp only [Option.some.injEq] at h; subst h
      obtain ⟨A, ⟨rfl, h1, h2, h3⟩, hK⟩ := hK
      obtain ⟨x, y, z, rfl, q1, q2, q3⟩ := threes hvs
      exact knownD noOv names (opMW_ok vlovOk) (conOk_ofR tbl0_ok) (vldelK_run _ L A n c0 i' j' h1 h2 h3 hK) w0 e w hk _ (map3 q1 (as_int hi q2) (as_int hj q3))
    · cases h
  · cases h
def vlpDelV : Pat := fun args σ => match args, σ with
  | [s, i, j], ⟨[], [], 0, [some ⟨58, .o (.rows ks L), [], c0, false⟩], 0⟩ => match rslX s, intX i, intX j, sameK ks vlvK with
    | some ⟨0, 5, 0, n, c⟩, some (.i64, i), some (.i64, j), true => some fun K => ∃ A, (c0 = c ∧ U.Fu L n c A ∧ (0 ≤ i ∧ i < n) ∧ j = i + 1) ∧ ∀ (n' : Nat) (L' : Rws), n' + 1 = n → U.Fu L' n' c (U.erR A i) → K (cell (rslC ⟨1, 5, 0, n', c⟩)) ⟨[], [], 0, [none, some (vlvB L' c)], 0⟩
    | _, _, _, _ => none
  | _, _ => none
def vltID : Tbl := tblOr (tblIf 54 vlpInsK) (tblOr (tblIf 55 vlpInsV) (tblIf 58 vlpDelK))
theorem vltID_ok : TblOk Try.prog vltID := tblOr_ok (tblIf_ok vlpInsK_ok) (tblOr_ok (tblIf_ok vlpInsV_ok) (tblIf_ok vlpDelK_ok))
end Go.Proofs.Ytfhgnngdbbgogaa
end
section
namespace Go.Proofs.Ytfhgnngdbbgogaa
open Go Reck Ost
set_option linter.unusedVariables false
set_option maxRecDepth 100000
def vlpLess : Pat := fun args σ => match args, σ with
  | [a, b], ⟨[], [], 0, [], 0⟩ => match aInt a, aInt b with
    | some a, some b => some fun K => (a < b → K (lit (.bool true)) emptySt) ∧ (¬ a < b → K (lit (.bool false)) emptySt)
    | _, _ => none
  | _, _ => none
def vltLess : Tbl := tblIf 67 vlpLess
structure U.vlbsR (L : Rws) (n : Nat) (k : Int) (i j : Int) : Prop where
  out : 0 ≤ i ∧ i ≤ j ∧ j ≤ n ∧ (∀ m : Nat, (m : Int) < i → U.fi L m 0 < k) ∧ (∀ m : Nat, j ≤ (m : Int) → m < n → ¬ U.fi L m 0 < k)
def vlbsInv (c : Code) (tm : List AV) (σ : St) : Inv where
  X := Int × Int
  tags := [0]
  tag _ _ := 0
  J := wrBut [7, 8] c
  val _ x := [(7, xi .i64 x.1), (8, xi .i64 x.2)]
  st _ _ σ' := σ'
  I _ x := U.vlbsR (rowsAt σ (slotR tm 0).a) (slotR tm 0).n (slotI tm 1) x.1 x.2
  m _ x := (x.2 - x.1).toNat
  ren := noRen
def vlinvBS : InvF := fun c tm σ => match tm.length, firstReg c with
  | 54, some 3 => some (vlbsInv c tm σ)
  | _, _ => none
theorem vlless_vc (K:AV→St→Prop) (a b:Int):(runR inv0 tbl0 67 [xi .i64 a,xi .i64 b] emptySt K)=((¬a=a→(¬b=b→(a<b→K (lit (.bool true)) ⟨[],[],0,[],0⟩)∧(¬a<b→K (lit (.bool false)) ⟨[],[],0,[],0⟩))∧(¬¬b=b→K (lit (.bool true)) ⟨[],[],0,[],0⟩))∧(¬¬a=a→(a<b→K (lit (.bool true)) ⟨[],[],0,[],0⟩)∧(¬a<b→K (lit (.bool false)) ⟨[],[],0,[],0⟩))) := by kernel_rfl
theorem vlbs_vc (K:AV→St→Prop) (L:Rws) (n c:Nat) (k:Int):(runR vlinvBS vltLess 60 [cell (rslC ⟨0,1,0,n,c⟩),xi .i64 k] ⟨[],[],0,[some (vlkB L c)],0⟩ K)=(∀ (z0:Int),z0=(↑n:Int)→(∃ (y1:Int × Int),((0:Nat)=0∧n=n∧c=c)∧k=k∧false=false∧z0=z0∧0=y1.1∧z0=y1.2∧((0:Nat)=0∧n=n∧c=c)∧z0=z0∧z0=z0∧(L=L∧c=c∧false=false)∧U.vlbsR L n k y1.1 y1.2)∧∀ (x2:Int × Int),U.vlbsR L n k x2.1 x2.2→(x2.1<x2.2→∀ (z3:Int),z3=IntKind.wrap .i64 (x2.1 + x2.2)→∀ (z4:Int),z4=IntKind.wrap IntKind.u64 z3→(0:Int)≤1∧∀ (z5:Int),z5=shrI IntKind.u64 z4 (1:Int)→∀ (z6:Int),z6=IntKind.wrap .i64 z5→(0≤z6∧z6<(↑n:Int))∧∀ (j7:Nat),(↑j7:Int)=(↑((0:Nat)):Int) + z6→j7<List.length L∧∀ (z8:Int),z8=U.fi L j7 ((0:Nat))→(z8<k→∀ (z9:Int),z9=IntKind.wrap .i64 (z6 + (1:Int))→∃ (y10:Int × Int),((0:Nat)=0∧n=n∧c=c)∧k=k∧false=false∧z0=z0∧z9=y10.1∧x2.2=y10.2∧((0:Nat)=0∧n=n∧c=c)∧z0=z0∧z0=z0∧(L=L∧c=c∧false=false)∧U.vlbsR L n k y10.1 y10.2∧Int.toNat (y10.2 - y10.1)<Int.toNat (x2.2 - x2.1))∧(¬z8<k→∃ (y11:Int × Int),((0:Nat)=0∧n=n∧c=c)∧k=k∧false=false∧z0=z0∧x2.1=y11.1∧z6=y11.2∧((0:Nat)=0∧n=n∧c=c)∧z0=z0∧z0=z0∧(L=L∧c=c∧false=false)∧U.vlbsR L n k y11.1 y11.2∧Int.toNat (y11.2 - y11.1)<Int.toNat (x2.2 - x2.1)))∧(¬x2.1<x2.2→(x2.1<z0→(0≤x2.1∧x2.1<(↑n:Int))∧∀ (j12:Nat),(↑j12:Int)=(↑((0:Nat)):Int) + x2.1→j12<List.length L∧∀ (z13:Int),z13=U.fi L j12 ((0:Nat))→(z13=k→K (Sum.inr [Sum.inl (xintC .i64 x2.1),Sum.inl (Sum.inl (Value.bool true))]) ⟨[],[],0,[some ⟨3,.o (.rows [.n .i64] L),[],c,false⟩],0⟩)∧(¬z13=k→(0≤x2.1∧x2.1<(↑n:Int))∧∀ (j14:Nat),(↑j14:Int)=(↑((0:Nat)):Int) + x2.1→j14<List.length L∧∀ (z15:Int),z15=U.fi L j14 ((0:Nat))→(¬z15=z15→(¬k=k→K (Sum.inr [Sum.inl (xintC .i64 x2.1),Sum.inl (Sum.inl (Value.bool true))]) ⟨[],[],0,[some ⟨3,.o (.rows [.n .i64] L),[],c,false⟩],0⟩)∧(¬¬k=k→K (Sum.inr [Sum.inl (xintC .i64 x2.1),Sum.inl (Sum.inl (Value.bool false))]) ⟨[],[],0,[some ⟨3,.o (.rows [.n .i64] L),[],c,false⟩],0⟩))∧(¬¬z15=z15→K (Sum.inr [Sum.inl (xintC .i64 x2.1),Sum.inl (Sum.inl (Value.bool false))]) ⟨[],[],0,[some ⟨3,.o (.rows [.n .i64] L),[],c,false⟩],0⟩)))∧(¬x2.1<z0→K (Sum.inr [Sum.inl (xintC .i64 x2.1),Sum.inl (Sum.inl (Value.bool false))]) ⟨[],[],0,[some ⟨3,.o (.rows [.n .i64] L),[],c,false⟩],0⟩))) := by kernel_rfl
end Go.Proofs.Ytfhgnngdbbgogaa
end
section
set_option linter.unusedVariables false
set_option linter.unusedSimpArgs false
set_option maxRecDepth 10000
namespace Go.Proofs.Ytfhgnngdbbgogaa
open Go Reck Ost
theorem vlpLess_ok : PatOk 67 vlpLess := by
  intro tm σ C h K hK w0 e w hk vs hvs
  unfold vlpLess at h
  split at h
  · split at h
    · rename_i a b ha hb
      simp only [Option.some.injEq] at h; subst h
      obtain ⟨v, u, rfl, hv, hu⟩ := twos hvs
      refine knownC noOv names (conOk_ofR tbl0_ok) (show runR inv0 tbl0 67 [xi .i64 a, xi .i64 b] emptySt K from ?_) w0 e w hk [v, u] (map2 (as_aInt ha hv) (as_aInt hb hu))
      rw [vlless_vc]
      exact ⟨fun h => absurd rfl h, fun _ => hK⟩
    · cases h
  · cases h
structure U.vlSrtR (L : Rws) (n : Nat) : Prop where
  out : ∀ i j : Nat, i < j → j < n → U.fi L i 0 < (U.fi L j 0)
structure U.vlAt (L : Rws) (n : Nat) (k : Int) (z : Int) : Prop where
  b : 0 ≤ z ∧ z ≤ n
  lo : ∀ m : Nat, (m : Int) < z → U.fi L m 0 < k
  hi : ∀ m : Nat, z ≤ (m : Int) → m < n → ¬ U.fi L m 0 < k
structure U.vlHasAt (L : Rws) (n : Nat) (k : Int) (z : Int) : Prop where
  out : z < n ∧ U.fi L z.toNat 0 = k
set_option maxHeartbeats 1000000 in
theorem vlbs_run (K : AV → St → Prop) (L : Rws) (n c : Nat) (k : Int) (hl : n ≤ L.length) (hsm : n ≤ 1000000) (hs : U.vlSrtR L n)
    (hK : ∀ z : Int, U.vlAt L n k z → (U.vlHasAt L n k z → K (zbA z true) ⟨[], [], 0, [some (vlkB L c)], 0⟩) ∧ (¬ U.vlHasAt L n k z → K (zbA z false) ⟨[], [], 0, [some (vlkB L c)], 0⟩)) :
    runR vlinvBS vltLess 60 [cell (rslC ⟨0, 1, 0, n, c⟩), xi .i64 k] ⟨[], [], 0, [some (vlkB L c)], 0⟩ K := by
  rw [vlbs_vc]
  intro z0 h0
  refine ⟨⟨(0, z0), ?_⟩, ?_⟩
  · repeat' (first | exact rfl | with_reducible apply And.intro)
    exact ⟨Int.le_refl _, by dsimp only; omega, by dsimp only; omega, fun m hm => by dsimp only at hm; omega, fun m hm hm2 => by dsimp only at hm; omega⟩
  rintro ⟨i, j⟩ ⟨b1, b2, b3, b4, b5⟩
  dsimp only at b1 b2 b3 b4 b5 ⊢
  refine ⟨fun hij z3 h3 z4 h4 => ⟨by decide, fun z5 h5 z6 h6 => ?_⟩, fun hij => ?_⟩
  · have e3 := iw h3 (by omega)
    have e4 : z4 = i + j := by
      rw [h4, e3]; show IntKind.wrap .u64 _ = _
      rw [IntKind.wrap]; simp [IntKind.signed, IntKind.bits]; omega
    have e5 : z5 = (i + j) / 2 := by
      rw [h5, e4]
      unfold shrI
      rw [show min (1 : Int).toNat (IntKind.bits .u64) = 1 from rfl, Int.fdiv_eq_ediv_of_nonneg _ (by decide)]
      rfl
    clear h3 h4 h5
    replace h6 := iw h6 (by omega)
    refine ⟨by omega, fun j7 h7 => ⟨by omega, fun z8 h8 => ?_⟩⟩
    obtain ⟨p, hp⟩ : ∃ p : Nat, z6 = p := ⟨z6.toNat, by omega⟩
    obtain rfl : j7 = p := by omega
    refine ⟨fun hlt z9 h9 => ⟨(z9, j), ?_⟩, fun hge => ⟨(i, z6), ?_⟩⟩
    · replace h9 := iw h9 (by omega)
      repeat' (first | exact rfl | with_reducible apply And.intro)
      · refine ⟨by dsimp only; omega, by dsimp only; omega, b3, fun m hm => ?_, b5⟩
        dsimp only at hm
        rw [h8] at hlt
        by_cases hmp : m = j7
        · rw [hmp]; exact hlt
        · exact Int.lt_trans (hs.out m j7 (by omega) (by omega)) hlt
      · dsimp only; omega
    · repeat' (first | exact rfl | with_reducible apply And.intro)
      · refine ⟨b1, by dsimp only; omega, by dsimp only; omega, b4, fun m hm hm2 => ?_⟩
        dsimp only at hm
        rw [h8] at hge
        by_cases hmp : m = j7
        · rw [hmp]; exact hge
        · exact fun hx => hge (Int.lt_trans (hs.out j7 m (by omega) hm2) hx)
      · dsimp only; omega
  · obtain rfl : i = j := by omega
    obtain ⟨p, rfl⟩ : ∃ p : Nat, i = p := ⟨i.toNat, by omega⟩
    have hK := hK p ⟨⟨b1, b3⟩, b4, b5⟩
    refine ⟨fun hlt => ⟨by omega, fun j12 h12 => ⟨by omega, fun z13 h13 => ?_⟩⟩, fun hge => hK.2 (fun hx => by have := hx.out.1; omega)⟩
    obtain rfl : j12 = p := by omega
    refine ⟨fun heq => hK.1 ⟨by omega, by rw [Int.toNat_natCast, ← h13]; exact heq⟩, fun hne => ?_⟩
    have hno : ¬ U.vlHasAt L n k j12 := fun hx => hne (by have := hx.out.2; rw [Int.toNat_natCast] at this; rw [h13]; exact this)
    repeat' (first | with_reducible apply And.intro | intro _)
    all_goals (first | exact hK.2 hno | omega | (exfalso; rename_i hx; exact hx rfl) | (exfalso; rename_i hx _; exact hx rfl))
end Go.Proofs.Ytfhgnngdbbgogaa
end
