/- Parts of a proof, one behind the other: VR5 VR6 VR7 VR8. No condition. -/
import Derived.Test.YtfhgnngdbbgogaaGH
section
namespace Go.Proofs.Ytfhgnngdbbgogaa
open Go Reck Ost
set_option linter.unusedVariables false
set_option maxRecDepth 100000
structure U.Lss (a b a' b' : Int) : Prop where
  out : a < a' ∨ (a = a' ∧ b < b')
def pLess : Pat := fun args σ => match args, σ with
  | [p, q], ⟨[], [], 0, [], 0⟩ => match aPl p, aPl q with
    | some (a, b), some (a', b') => some fun K => (U.Lss a b a' b' → K (lit (.bool true)) emptySt) ∧ (¬ U.Lss a b a' b' → K (lit (.bool false)) emptySt)
    | _, _ => none
  | _, _ => none
def rlInv (P : VLP) (tm : List AV) (σ : St) : Inv where
  X := Int × (Rws × (Nat × Nat))
  tags := [0]
  tag _ _ := 0
  J := [0,1,2,4,5,6,7,8,12,13,14,15,16,17,18,19,20,21,22,23,24]
  val _ x := [(11, xi .i64 x.1), (3, cell (rslC ⟨σ.arrs.length, 4, 0, x.2.2.1, x.2.2.2⟩))]
  st _ x σ' := ⟨σ'.heap, σ'.ints, σ'.opqs, σ'.arrs.dropLast ++ [some (liB x.2.1 x.2.2.2)], σ'.junks⟩
  I _ x := U.plI P x.1 x.2.1 x.2.2.1 x.2.2.2
  m _ x := ((slotR tm 9).n : Int).toNat - x.1.toNat
  ren tm' σ' := ([], [(slotR tm' 3).a])
def reInv (P : VLP) (a b : Int) (tm : List AV) (σ : St) : Inv where
  X := Int
  tags := [0]
  tag _ _ := 0
  J := [1,2,4,5,6,7,8,9,13,14,15,16,17,18,19,20,21,22,23,24,25,26,27,28,29]
  val _ x := [(12, xi .i64 x)]
  st _ _ σ' := σ'
  I _ x := U.ifI P a b x
  m _ x := ((slotR tm 10).n : Int).toNat - x.toNat
  ren := noRen
structure U.smI (n : Nat) (i : Int) : Prop where
  out : 0 ≤ i ∧ i ≤ n
def rsInv (tm : List AV) (σ : St) : Inv where
  X := Int
  tags := [0]
  tag _ _ := 0
  J := [2,3,4,5,6,7,8,9,10,14,15,16,17,18,19,20,21,22,23,24,25]
  val _ x := [(13, xi .i64 x)]
  st _ _ σ' := σ'
  I _ x := U.smI (slotR tm 0).n x
  m _ x := ((slotR tm 0).n : Int).toNat - x.toNat
  ren := noRen
def invR5 (P : VLP) (a b : Int) : InvF := fun c tm σ => match tm.length, firstReg c with
  | 25, some 3 => some (rlInv P tm σ)
  | 30, some 2 => some (reInv P a b tm σ)
  | 26, some 4 => some (rsInv tm σ)
  | _, _ => none
theorem less_vc (K:AV→St→Prop) (a b a' b':Int):(runR inv0 tbl0 13 [plA a b,plA a' b'] emptySt K)=((a<a'→K (lit (.bool true)) ⟨[],[],0,[],0⟩)∧(¬a<a'→(a=a'→(b<b'→K (lit (.bool true)) ⟨[],[],0,[],0⟩)∧(¬b<b'→K (lit (.bool false)) ⟨[],[],0,[],0⟩))∧(¬a=a'→K (lit (.bool false)) ⟨[],[],0,[],0⟩))) := by kernel_rfl
theorem rSame_vc (K:AV→St→Prop) (A B:Rws) (n c q d:Nat):(runR (invR5 [] 0 0) tbl0 22 [cell (rslC ⟨0,4,0,n,c⟩),cell (rslC ⟨1,4,0,q,d⟩)] ⟨[],[],0,[some (liB A c),some (liB B d)],0⟩ K)=(∀ (z0:Int),z0=(↑n:Int)→∀ (z1:Int),z1=(↑q:Int)→(¬z0=z1→K (lit (.bool false)) ⟨[],[],0,[some (liB A c),some (liB B d)],0⟩)∧(¬¬z0=z1→∀ (z2:Int),z2=(↑n:Int)→(∃ (y3:Int),((0:Nat)=0∧n=n∧c=c)∧((0:Nat)=0∧q=q∧d=d)∧((0:Nat)=0∧n=n∧c=c)∧z2=z2∧0=y3∧(A=A∧c=c∧false=false)∧(B=B∧d=d∧false=false)∧U.smI n y3)∧∀ (x4:Int),U.smI n x4→(x4<z2→(0≤x4∧x4<(↑n:Int))∧∀ (j5:Nat),(↑j5:Int)=(↑((0:Nat)):Int) + x4→j5<List.length A∧∀ (z6:Int),z6=U.fi A j5 ((0:Nat))→∀ (z7:Int),z7=U.fi A j5 ((0:Nat) + (1:Nat))→∀ (z8:Int),z8=U.fi A j5 ((0:Nat) + (1:Nat) + (1:Nat))→∀ (z9:Int),z9=U.fi A j5 ((0:Nat) + (1:Nat) + (1:Nat) + (1:Nat))→(0≤x4∧x4<(↑q:Int))∧∀ (j10:Nat),(↑j10:Int)=(↑((0:Nat)):Int) + x4→j10<List.length B∧∀ (z11:Int),z11=U.fi B j10 ((0:Nat))→∀ (z12:Int),z12=U.fi B j10 ((0:Nat) + (1:Nat))→∀ (z13:Int),z13=U.fi B j10 ((0:Nat) + (1:Nat) + (1:Nat))→∀ (z14:Int),z14=U.fi B j10 ((0:Nat) + (1:Nat) + (1:Nat) + (1:Nat))→(¬((z6=z11∧z7=z12∧True)∧(z8=z13∧z9=z14∧True)∧True)→K (lit (.bool false)) ⟨[],[],0,[some (liB A c),some (liB B d)],0⟩)∧(¬¬((z6=z11∧z7=z12∧True)∧(z8=z13∧z9=z14∧True)∧True)→∀ (z15:Int),z15=IntKind.wrap .i64 (x4 + (1:Int))→∃ (y16:Int),((0:Nat)=0∧n=n∧c=c)∧((0:Nat)=0∧q=q∧d=d)∧((0:Nat)=0∧n=n∧c=c)∧z2=z2∧z15=y16∧(A=A∧c=c∧false=false)∧(B=B∧d=d∧false=false)∧U.smI n y16∧Int.toNat (↑n:Int) - Int.toNat y16<Int.toNat (↑n:Int) - Int.toNat x4))∧(¬x4<z2→K (lit (.bool true)) ⟨[],[],0,[some (liB A c),some (liB B d)],0⟩))) := by kernel_rfl
theorem rLinks_vc (K:AV→St→Prop) (P:VLP) (k0 k1 k2 k3 k4 k5 k6 k7 k8:Bool) (u0 u1 u2 u3 u4 u5 u6 u7 u8:Int) (q rc:Nat) (R:Rws):(runR (invR5 P 0 0) tR4 29 [ptr 0 0] (rvSt [k0,k1,k2,k3,k4,k5,k6,k7,k8] [u0,u1,u2,u3,u4,u5,u6,u7,u8] q rc R) K)=(∀ (z0:Int),z0=(↑q:Int)→(∃ (y1:Int × Rws × Nat × Nat),((0:Nat)=0∧0=y1.2.2.1∧0=y1.2.2.2)∧((0:Nat)=0∧q=q∧rc=rc)∧z0=z0∧0=y1.1∧k0=k0∧k1=k1∧k2=k2∧k3=k3∧k4=k4∧k5=k5∧k6=k6∧k7=k7∧k8=k8∧u0=u0∧u1=u1∧u2=u2∧u3=u3∧u4=u4∧u5=u5∧u6=u6∧u7=u7∧u8=u8∧((0:Nat)=0∧q=q∧rc=rc)∧(R=R∧rc=rc∧false=false)∧(U.nilL=U.nilL∧(0:Nat)=0∧false=false)∧(U.nilL=y1.2.1∧0=y1.2.2.2∧false=false)∧U.plI P y1.1 y1.2.1 y1.2.2.1 y1.2.2.2)∧∀ (x2:Int × Rws × Nat × Nat),U.plI P x2.1 x2.2.1 x2.2.2.1 x2.2.2.2→(x2.1<z0→(0≤x2.1∧x2.1<(↑q:Int))∧∀ (j3:Nat),(↑j3:Int)=(↑((0:Nat)):Int) + x2.1→j3<List.length R∧∀ (z4:Int),z4=U.fi R j3 ((0:Nat))→∀ (z5:Int),z5=U.fi R j3 ((0:Nat) + (1:Nat))→∀ (z6:Int),z6=U.fi R j3 ((0:Nat) + (1:Nat) + (1:Nat))→∀ (z7:Int),z7=U.fi R j3 ((0:Nat) + (1:Nat) + (1:Nat) + (1:Nat))→∀ (z8:Int),z8=U.fi R j3 ((0:Nat) + (1:Nat) + (1:Nat) + (1:Nat) + (1:Nat))→((0:Nat) + x2.2.2.1≤List.length x2.2.1∧(0:Nat) + x2.2.2.2≤x2.2.2.2)∧True∧x2.2.2.1≤16777216∧(1:Nat)≤16777216∧∀ (L'9:List (List CV)) (n'10 c'11:Nat),L'9=List.take x2.2.2.1 (List.drop ((0:Nat)) x2.2.1) ++ [CV.i z4,CV.i z5,CV.i z6,CV.i z7] :: U.nilL→n'10=x2.2.2.1 + (1:Nat)→n'10≤c'11→∀ (z12:Int),z12=IntKind.wrap .i64 (x2.1 + (1:Int))→∃ (y13:Int × Rws × Nat × Nat),((0:Nat)=0∧n'10=y13.2.2.1∧c'11=y13.2.2.2)∧((0:Nat)=0∧q=q∧rc=rc)∧z0=z0∧z12=y13.1∧k0=k0∧k1=k1∧k2=k2∧k3=k3∧k4=k4∧k5=k5∧k6=k6∧k7=k7∧k8=k8∧u0=u0∧u1=u1∧u2=u2∧u3=u3∧u4=u4∧u5=u5∧u6=u6∧u7=u7∧u8=u8∧((0:Nat)=0∧q=q∧rc=rc)∧(R=R∧rc=rc∧false=false)∧(U.nilL=U.nilL∧(0:Nat)=0∧false=false)∧(L'9=y13.2.1∧c'11=y13.2.2.2∧false=false)∧U.plI P y13.1 y13.2.1 y13.2.2.1 y13.2.2.2∧Int.toNat (↑q:Int) - Int.toNat y13.1<Int.toNat (↑q:Int) - Int.toNat x2.1)∧(¬x2.1<z0→K (Sum.inl (Sum.inl (rslC ⟨1,4,0,x2.2.2.1,x2.2.2.2⟩))) ⟨[rvB [k0,k1,k2,k3,k4,k5,k6,k7,k8] [u0,u1,u2,u3,u4,u5,u6,u7,u8] (rslC ⟨0,5,0,q,rc⟩)],[],0,[some (snB R rc),some (liB x2.2.1 x2.2.2.2)],0⟩)) := by kernel_rfl
theorem rEdge_vc (K:AV→St→Prop) (P:VLP) (k0 k1 k2 k3 k4 k5 k6 k7 k8:Bool) (u0 u1 u2 u3 u4 u5 u6 u7 u8:Int) (q rc:Nat) (R:Rws) (a b:Int):(runR (invR5 P a b) tR4 28 [ptr 0 0,plA a b] (rvSt [k0,k1,k2,k3,k4,k5,k6,k7,k8] [u0,u1,u2,u3,u4,u5,u6,u7,u8] q rc R) K)=(∀ (z0:Int),z0=(↑q:Int)→(∃ (y1:Int),((0:Nat)=0∧q=q∧rc=rc)∧z0=z0∧0=y1∧k0=k0∧k1=k1∧k2=k2∧k3=k3∧k4=k4∧k5=k5∧k6=k6∧k7=k7∧k8=k8∧u0=u0∧u1=u1∧u2=u2∧u3=u3∧u4=u4∧u5=u5∧u6=u6∧u7=u7∧u8=u8∧((0:Nat)=0∧q=q∧rc=rc)∧a=a∧b=b∧(R=R∧rc=rc∧false=false)∧U.ifI P a b y1)∧∀ (x2:Int),U.ifI P a b x2→(x2<z0→(0≤x2∧x2<(↑q:Int))∧∀ (j3:Nat),(↑j3:Int)=(↑((0:Nat)):Int) + x2→j3<List.length R∧∀ (z4:Int),z4=U.fi R j3 ((0:Nat))→∀ (z5:Int),z5=U.fi R j3 ((0:Nat) + (1:Nat))→∀ (z6:Int),z6=U.fi R j3 ((0:Nat) + (1:Nat) + (1:Nat))→∀ (z7:Int),z7=U.fi R j3 ((0:Nat) + (1:Nat) + (1:Nat) + (1:Nat))→∀ (z8:Int),z8=U.fi R j3 ((0:Nat) + (1:Nat) + (1:Nat) + (1:Nat) + (1:Nat))→(z4=a∧z5=b∧True→K (lit (.bool false)) ⟨[rvB [k0,k1,k2,k3,k4,k5,k6,k7,k8] [u0,u1,u2,u3,u4,u5,u6,u7,u8] (rslC ⟨0,5,0,q,rc⟩)],[],0,[some ⟨(84:TypeId),.o (.rows [.n .i64,.n .i64,.n .i64,.n .i64,.n .i64] R),[],rc,false⟩],0⟩)∧(¬(z4=a∧z5=b∧True)→(z6=a∧z7=b∧True→K (lit (.bool false)) ⟨[rvB [k0,k1,k2,k3,k4,k5,k6,k7,k8] [u0,u1,u2,u3,u4,u5,u6,u7,u8] (rslC ⟨0,5,0,q,rc⟩)],[],0,[some ⟨(84:TypeId),.o (.rows [.n .i64,.n .i64,.n .i64,.n .i64,.n .i64] R),[],rc,false⟩],0⟩)∧(¬(z6=a∧z7=b∧True)→∀ (z9:Int),z9=IntKind.wrap .i64 (x2 + (1:Int))→∃ (y10:Int),((0:Nat)=0∧q=q∧rc=rc)∧z0=z0∧z9=y10∧k0=k0∧k1=k1∧k2=k2∧k3=k3∧k4=k4∧k5=k5∧k6=k6∧k7=k7∧k8=k8∧u0=u0∧u1=u1∧u2=u2∧u3=u3∧u4=u4∧u5=u5∧u6=u6∧u7=u7∧u8=u8∧((0:Nat)=0∧q=q∧rc=rc)∧a=a∧b=b∧(R=R∧rc=rc∧false=false)∧U.ifI P a b y10∧Int.toNat (↑q:Int) - Int.toNat y10<Int.toNat (↑q:Int) - Int.toNat x2)))∧(¬x2<z0→(rc=rc∧U.ubI [u0,u1,u2,u3,u4,u5,u6,u7,u8])∧(U.rUp [k0,k1,k2,k3,k4,k5,k6,k7,k8] [u0,u1,u2,u3,u4,u5,u6,u7,u8] a b→K (lit (.bool true)) ⟨[rvB [k0,k1,k2,k3,k4,k5,k6,k7,k8] [u0,u1,u2,u3,u4,u5,u6,u7,u8] (rslC ⟨0,5,0,q,rc⟩)],[],0,[some ⟨(84:TypeId),.o (.rows [.n .i64,.n .i64,.n .i64,.n .i64,.n .i64] R),[],rc,false⟩],0⟩)∧(¬U.rUp [k0,k1,k2,k3,k4,k5,k6,k7,k8] [u0,u1,u2,u3,u4,u5,u6,u7,u8] a b→K (lit (.bool false)) ⟨[rvB [k0,k1,k2,k3,k4,k5,k6,k7,k8] [u0,u1,u2,u3,u4,u5,u6,u7,u8] (rslC ⟨0,5,0,q,rc⟩)],[],0,[some ⟨(84:TypeId),.o (.rows [.n .i64,.n .i64,.n .i64,.n .i64,.n .i64] R),[],rc,false⟩],0⟩))) := by kernel_rfl
theorem rAge_vc (K:AV→St→Prop) (k0 k1 k2 k3 k4 k5 k6 k7 k8:Bool) (u0 u1 u2 u3 u4 u5 u6 u7 u8:Int) (q rc:Nat) (R:Rws) (now most:Int):(runR inv0 tR4 26 [ptr 0 0,xi .i64 now,xi .i64 most] (rvSt [k0,k1,k2,k3,k4,k5,k6,k7,k8] [u0,u1,u2,u3,u4,u5,u6,u7,u8] q rc R) K)=(∃ (y0:VLP),(rc=rc∧R=U.vlvs y0∧q=U.vllen y0∧q≤100000)∧∀ (G1:Rws) (gq2 gc3 hq4 hc5:Nat),G1=U.lks (U.gone (U.fAge now most) y0)→gq2=U.vllen (U.gone (U.fAge now most) y0)→gq2≤gc3→hq4=U.vllen (U.rest (U.fAge now most) y0)→hq4≤hc5→K (Sum.inl (Sum.inl (rslC ⟨1,4,0,gq2,gc3⟩))) ⟨[rvB [k0,k1,k2,k3,k4,k5,k6,k7,k8] [u0,u1,u2,u3,u4,u5,u6,u7,u8] (rslC ⟨2,5,0,hq4,hc5⟩)],[],0,[some ⟨(84:TypeId),.o (.rows [.n .i64,.n .i64,.n .i64,.n .i64,.n .i64] R),[],rc,false⟩,some (liB G1 gc3),some ⟨(84:TypeId),.o (.rows [.n .i64,.n .i64,.n .i64,.n .i64,.n .i64] (U.vlvs (U.rest (U.fAge now most) y0))),[],hc5,false⟩],0⟩) := by kernel_rfl
theorem rPortsB_vc (K:AV→St→Prop) (k0 k1 k2 k3 k4 k5 k6 k7 k8:Bool) (u0 u1 u2 u3 u4 u5 u6 u7 u8:Int) (q rc:Nat) (R:Rws) (sw up:Int):(runR inv0 tR4 23 [ptr 0 0,xi .i64 sw,xi .i64 up] (rvSt [k0,k1,k2,k3,k4,k5,k6,k7,k8] [u0,u1,u2,u3,u4,u5,u6,u7,u8] q rc R) K)=((sw<1→K (Sum.inl (Sum.inl (rslC ⟨1,(3:Nat) + (1:Nat),0,0,0⟩))) ⟨[rvB [k0,k1,k2,k3,k4,k5,k6,k7,k8] [u0,u1,u2,u3,u4,u5,u6,u7,u8] (rslC ⟨0,5,0,q,rc⟩)],[],0,[some ⟨(84:TypeId),.o (.rows [.n .i64,.n .i64,.n .i64,.n .i64,.n .i64] R),[],rc,false⟩,some (liB U.nilL 0)],0⟩)∧(¬sw<1→(8<sw→K (Sum.inl (Sum.inl (rslC ⟨1,(3:Nat) + (1:Nat),0,0,0⟩))) ⟨[rvB [k0,k1,k2,k3,k4,k5,k6,k7,k8] [u0,u1,u2,u3,u4,u5,u6,u7,u8] (rslC ⟨0,5,0,q,rc⟩)],[],0,[some ⟨(84:TypeId),.o (.rows [.n .i64,.n .i64,.n .i64,.n .i64,.n .i64] R),[],rc,false⟩,some (liB U.nilL 0)],0⟩)∧(¬8<sw→(up<0→K (Sum.inl (Sum.inl (rslC ⟨1,(3:Nat) + (1:Nat),0,0,0⟩))) ⟨[rvB [k0,k1,k2,k3,k4,k5,k6,k7,k8] [u0,u1,u2,u3,u4,u5,u6,u7,u8] (rslC ⟨0,5,0,q,rc⟩)],[],0,[some ⟨(84:TypeId),.o (.rows [.n .i64,.n .i64,.n .i64,.n .i64,.n .i64] R),[],rc,false⟩,some (liB U.nilL 0)],0⟩)∧(¬up<0→(255<up→K (Sum.inl (Sum.inl (rslC ⟨1,(3:Nat) + (1:Nat),0,0,0⟩))) ⟨[rvB [k0,k1,k2,k3,k4,k5,k6,k7,k8] [u0,u1,u2,u3,u4,u5,u6,u7,u8] (rslC ⟨0,5,0,q,rc⟩)],[],0,[some ⟨(84:TypeId),.o (.rows [.n .i64,.n .i64,.n .i64,.n .i64,.n .i64] R),[],rc,false⟩,some (liB U.nilL 0)],0⟩)∧(¬255<up→Err [(113:Nat),(4:Nat),(31:Nat)]))))) := by kernel_rfl
theorem rDropB_vc (K:AV→St→Prop) (k0 k1 k2 k3 k4 k5 k6 k7 k8:Bool) (u0 u1 u2 u3 u4 u5 u6 u7 u8:Int) (q rc:Nat) (R:Rws) (sw:Int):(runR inv0 tR4 25 [ptr 0 0,xi .i64 sw] (rvSt [k0,k1,k2,k3,k4,k5,k6,k7,k8] [u0,u1,u2,u3,u4,u5,u6,u7,u8] q rc R) K)=((1≤sw→(sw≤8→Err [(113:Nat),(4:Nat),(31:Nat)])∧(¬sw≤8→∃ (y0:VLP),(rc=rc∧R=U.vlvs y0∧q=U.vllen y0∧q≤100000)∧∀ (G1:Rws) (gq2 gc3 hq4 hc5:Nat),G1=U.lks (U.gone (U.fSw sw) y0)→gq2=U.vllen (U.gone (U.fSw sw) y0)→gq2≤gc3→hq4=U.vllen (U.rest (U.fSw sw) y0)→hq4≤hc5→K (Sum.inl (Sum.inl (rslC ⟨1,4,0,gq2,gc3⟩))) ⟨[rvB [k0,k1,k2,k3,k4,k5,k6,k7,k8] [u0,u1,u2,u3,u4,u5,u6,u7,u8] (rslC ⟨2,5,0,hq4,hc5⟩)],[],0,[some ⟨(84:TypeId),.o (.rows [.n .i64,.n .i64,.n .i64,.n .i64,.n .i64] R),[],rc,false⟩,some (liB G1 gc3),some ⟨(84:TypeId),.o (.rows [.n .i64,.n .i64,.n .i64,.n .i64,.n .i64] (U.vlvs (U.rest (U.fSw sw) y0))),[],hc5,false⟩],0⟩))∧(¬1≤sw→∃ (y6:VLP),(rc=rc∧R=U.vlvs y6∧q=U.vllen y6∧q≤100000)∧∀ (G7:Rws) (gq8 gc9 hq10 hc11:Nat),G7=U.lks (U.gone (U.fSw sw) y6)→gq8=U.vllen (U.gone (U.fSw sw) y6)→gq8≤gc9→hq10=U.vllen (U.rest (U.fSw sw) y6)→hq10≤hc11→K (Sum.inl (Sum.inl (rslC ⟨1,4,0,gq8,gc9⟩))) ⟨[rvB [k0,k1,k2,k3,k4,k5,k6,k7,k8] [u0,u1,u2,u3,u4,u5,u6,u7,u8] (rslC ⟨2,5,0,hq10,hc11⟩)],[],0,[some ⟨(84:TypeId),.o (.rows [.n .i64,.n .i64,.n .i64,.n .i64,.n .i64] R),[],rc,false⟩,some (liB G7 gc9),some ⟨(84:TypeId),.o (.rows [.n .i64,.n .i64,.n .i64,.n .i64,.n .i64] (U.vlvs (U.rest (U.fSw sw) y6))),[],hc11,false⟩],0⟩)) := by kernel_rfl
theorem rPorts1_vc (K:AV→St→Prop) (k0 k1 k2 k3 k4 k5 k6 k7 k8:Bool) (u0 u1 u2 u3 u4 u5 u6 u7 u8:Int) (q rc:Nat) (R:Rws) (up:Int):(runR inv0 tR4 23 [ptr 0 0,.inl (.inl (.inl (.int .i64 1))),xi .i64 up] (rvSt [k0,k1,k2,k3,k4,k5,k6,k7,k8] [u0,u1,u2,u3,u4,u5,u6,u7,u8] q rc R) K)=((up<0→K (Sum.inl (Sum.inl (rslC ⟨1,(3:Nat) + (1:Nat),0,0,0⟩))) ⟨[rvB [k0,k1,k2,k3,k4,k5,k6,k7,k8] [u0,u1,u2,u3,u4,u5,u6,u7,u8] (rslC ⟨0,5,0,q,rc⟩)],[],0,[some ⟨(84:TypeId),.o (.rows [.n .i64,.n .i64,.n .i64,.n .i64,.n .i64] R),[],rc,false⟩,some (liB U.nilL 0)],0⟩)∧(¬up<0→(255<up→K (Sum.inl (Sum.inl (rslC ⟨1,(3:Nat) + (1:Nat),0,0,0⟩))) ⟨[rvB [k0,k1,k2,k3,k4,k5,k6,k7,k8] [u0,u1,u2,u3,u4,u5,u6,u7,u8] (rslC ⟨0,5,0,q,rc⟩)],[],0,[some ⟨(84:TypeId),.o (.rows [.n .i64,.n .i64,.n .i64,.n .i64,.n .i64] R),[],rc,false⟩,some (liB U.nilL 0)],0⟩)∧(¬255<up→∃ (y0:VLP),(rc=rc∧R=U.vlvs y0∧q=U.vllen y0∧q≤100000∧U.ubI [u0,up,u2,u3,u4,u5,u6,u7,u8])∧∀ (G1:Rws) (gq2 gc3 hq4 hc5:Nat),G1=U.lks (U.gone (U.fBrkR [k0,true,k2,k3,k4,k5,k6,k7,k8] [u0,up,u2,u3,u4,u5,u6,u7,u8]) y0)→gq2=U.vllen (U.gone (U.fBrkR [k0,true,k2,k3,k4,k5,k6,k7,k8] [u0,up,u2,u3,u4,u5,u6,u7,u8]) y0)→gq2≤gc3→hq4=U.vllen (U.rest (U.fBrkR [k0,true,k2,k3,k4,k5,k6,k7,k8] [u0,up,u2,u3,u4,u5,u6,u7,u8]) y0)→hq4≤hc5→K (Sum.inl (Sum.inl (rslC ⟨1,4,0,gq2,gc3⟩))) ⟨[rvB [k0,true,k2,k3,k4,k5,k6,k7,k8] [u0,up,u2,u3,u4,u5,u6,u7,u8] (rslC ⟨2,5,0,hq4,hc5⟩)],[],0,[some ⟨(84:TypeId),.o (.rows [.n .i64,.n .i64,.n .i64,.n .i64,.n .i64] R),[],rc,false⟩,some (liB G1 gc3),some ⟨(84:TypeId),.o (.rows [.n .i64,.n .i64,.n .i64,.n .i64,.n .i64] (U.vlvs (U.rest (U.fBrkR [k0,true,k2,k3,k4,k5,k6,k7,k8] [u0,up,u2,u3,u4,u5,u6,u7,u8]) y0))),[],hc5,false⟩],0⟩))) := by kernel_rfl
theorem rDrop1_vc (K:AV→St→Prop) (k0 k1 k2 k3 k4 k5 k6 k7 k8:Bool) (u0 u1 u2 u3 u4 u5 u6 u7 u8:Int) (q rc:Nat) (R:Rws):(runR inv0 tR4 25 [ptr 0 0,.inl (.inl (.inl (.int .i64 1)))] (rvSt [k0,k1,k2,k3,k4,k5,k6,k7,k8] [u0,u1,u2,u3,u4,u5,u6,u7,u8] q rc R) K)=(∃ (y0:VLP),(rc=rc∧R=U.vlvs y0∧q=U.vllen y0∧q≤100000)∧∀ (G1:Rws) (gq2 gc3 hq4 hc5:Nat),G1=U.lks (U.gone (U.fSw (1:Int)) y0)→gq2=U.vllen (U.gone (U.fSw (1:Int)) y0)→gq2≤gc3→hq4=U.vllen (U.rest (U.fSw (1:Int)) y0)→hq4≤hc5→K (Sum.inl (Sum.inl (rslC ⟨1,4,0,gq2,gc3⟩))) ⟨[some ⟨nat_lit 30,[Sum.inl (Value.bool k0),Sum.inl (Value.bool false),Sum.inl (Value.bool k2),Sum.inl (Value.bool k3),Sum.inl (Value.bool k4),Sum.inl (Value.bool k5),Sum.inl (Value.bool k6),Sum.inl (Value.bool k7),Sum.inl (Value.bool k8),xintC .i64 u0,xintC .i64 (0:Int),xintC .i64 u2,xintC .i64 u3,xintC .i64 u4,xintC .i64 u5,xintC .i64 u6,xintC .i64 u7,xintC .i64 u8,rslC ⟨2,5,0,hq4,hc5⟩],none,19,false⟩],[],0,[some ⟨(84:TypeId),.o (.rows [.n .i64,.n .i64,.n .i64,.n .i64,.n .i64] R),[],rc,false⟩,some (liB G1 gc3),some ⟨(84:TypeId),.o (.rows [.n .i64,.n .i64,.n .i64,.n .i64,.n .i64] (U.vlvs (U.rest (U.fSw (1:Int)) y0))),[],hc5,false⟩],0⟩) := by kernel_rfl
theorem rPorts2_vc (K:AV→St→Prop) (k0 k1 k2 k3 k4 k5 k6 k7 k8:Bool) (u0 u1 u2 u3 u4 u5 u6 u7 u8:Int) (q rc:Nat) (R:Rws) (up:Int):(runR inv0 tR4 23 [ptr 0 0,.inl (.inl (.inl (.int .i64 2))),xi .i64 up] (rvSt [k0,k1,k2,k3,k4,k5,k6,k7,k8] [u0,u1,u2,u3,u4,u5,u6,u7,u8] q rc R) K)=((up<0→K (Sum.inl (Sum.inl (rslC ⟨1,(3:Nat) + (1:Nat),0,0,0⟩))) ⟨[rvB [k0,k1,k2,k3,k4,k5,k6,k7,k8] [u0,u1,u2,u3,u4,u5,u6,u7,u8] (rslC ⟨0,5,0,q,rc⟩)],[],0,[some ⟨(84:TypeId),.o (.rows [.n .i64,.n .i64,.n .i64,.n .i64,.n .i64] R),[],rc,false⟩,some (liB U.nilL 0)],0⟩)∧(¬up<0→(255<up→K (Sum.inl (Sum.inl (rslC ⟨1,(3:Nat) + (1:Nat),0,0,0⟩))) ⟨[rvB [k0,k1,k2,k3,k4,k5,k6,k7,k8] [u0,u1,u2,u3,u4,u5,u6,u7,u8] (rslC ⟨0,5,0,q,rc⟩)],[],0,[some ⟨(84:TypeId),.o (.rows [.n .i64,.n .i64,.n .i64,.n .i64,.n .i64] R),[],rc,false⟩,some (liB U.nilL 0)],0⟩)∧(¬255<up→∃ (y0:VLP),(rc=rc∧R=U.vlvs y0∧q=U.vllen y0∧q≤100000∧U.ubI [u0,u1,up,u3,u4,u5,u6,u7,u8])∧∀ (G1:Rws) (gq2 gc3 hq4 hc5:Nat),G1=U.lks (U.gone (U.fBrkR [k0,k1,true,k3,k4,k5,k6,k7,k8] [u0,u1,up,u3,u4,u5,u6,u7,u8]) y0)→gq2=U.vllen (U.gone (U.fBrkR [k0,k1,true,k3,k4,k5,k6,k7,k8] [u0,u1,up,u3,u4,u5,u6,u7,u8]) y0)→gq2≤gc3→hq4=U.vllen (U.rest (U.fBrkR [k0,k1,true,k3,k4,k5,k6,k7,k8] [u0,u1,up,u3,u4,u5,u6,u7,u8]) y0)→hq4≤hc5→K (Sum.inl (Sum.inl (rslC ⟨1,4,0,gq2,gc3⟩))) ⟨[rvB [k0,k1,true,k3,k4,k5,k6,k7,k8] [u0,u1,up,u3,u4,u5,u6,u7,u8] (rslC ⟨2,5,0,hq4,hc5⟩)],[],0,[some ⟨(84:TypeId),.o (.rows [.n .i64,.n .i64,.n .i64,.n .i64,.n .i64] R),[],rc,false⟩,some (liB G1 gc3),some ⟨(84:TypeId),.o (.rows [.n .i64,.n .i64,.n .i64,.n .i64,.n .i64] (U.vlvs (U.rest (U.fBrkR [k0,k1,true,k3,k4,k5,k6,k7,k8] [u0,u1,up,u3,u4,u5,u6,u7,u8]) y0))),[],hc5,false⟩],0⟩))) := by kernel_rfl
theorem rDrop2_vc (K:AV→St→Prop) (k0 k1 k2 k3 k4 k5 k6 k7 k8:Bool) (u0 u1 u2 u3 u4 u5 u6 u7 u8:Int) (q rc:Nat) (R:Rws):(runR inv0 tR4 25 [ptr 0 0,.inl (.inl (.inl (.int .i64 2)))] (rvSt [k0,k1,k2,k3,k4,k5,k6,k7,k8] [u0,u1,u2,u3,u4,u5,u6,u7,u8] q rc R) K)=(∃ (y0:VLP),(rc=rc∧R=U.vlvs y0∧q=U.vllen y0∧q≤100000)∧∀ (G1:Rws) (gq2 gc3 hq4 hc5:Nat),G1=U.lks (U.gone (U.fSw (2:Int)) y0)→gq2=U.vllen (U.gone (U.fSw (2:Int)) y0)→gq2≤gc3→hq4=U.vllen (U.rest (U.fSw (2:Int)) y0)→hq4≤hc5→K (Sum.inl (Sum.inl (rslC ⟨1,4,0,gq2,gc3⟩))) ⟨[some ⟨nat_lit 30,[Sum.inl (Value.bool k0),Sum.inl (Value.bool k1),Sum.inl (Value.bool false),Sum.inl (Value.bool k3),Sum.inl (Value.bool k4),Sum.inl (Value.bool k5),Sum.inl (Value.bool k6),Sum.inl (Value.bool k7),Sum.inl (Value.bool k8),xintC .i64 u0,xintC .i64 u1,xintC .i64 (0:Int),xintC .i64 u3,xintC .i64 u4,xintC .i64 u5,xintC .i64 u6,xintC .i64 u7,xintC .i64 u8,rslC ⟨2,5,0,hq4,hc5⟩],none,19,false⟩],[],0,[some ⟨(84:TypeId),.o (.rows [.n .i64,.n .i64,.n .i64,.n .i64,.n .i64] R),[],rc,false⟩,some (liB G1 gc3),some ⟨(84:TypeId),.o (.rows [.n .i64,.n .i64,.n .i64,.n .i64,.n .i64] (U.vlvs (U.rest (U.fSw (2:Int)) y0))),[],hc5,false⟩],0⟩) := by kernel_rfl
theorem rPorts3_vc (K:AV→St→Prop) (k0 k1 k2 k3 k4 k5 k6 k7 k8:Bool) (u0 u1 u2 u3 u4 u5 u6 u7 u8:Int) (q rc:Nat) (R:Rws) (up:Int):(runR inv0 tR4 23 [ptr 0 0,.inl (.inl (.inl (.int .i64 3))),xi .i64 up] (rvSt [k0,k1,k2,k3,k4,k5,k6,k7,k8] [u0,u1,u2,u3,u4,u5,u6,u7,u8] q rc R) K)=((up<0→K (Sum.inl (Sum.inl (rslC ⟨1,(3:Nat) + (1:Nat),0,0,0⟩))) ⟨[rvB [k0,k1,k2,k3,k4,k5,k6,k7,k8] [u0,u1,u2,u3,u4,u5,u6,u7,u8] (rslC ⟨0,5,0,q,rc⟩)],[],0,[some ⟨(84:TypeId),.o (.rows [.n .i64,.n .i64,.n .i64,.n .i64,.n .i64] R),[],rc,false⟩,some (liB U.nilL 0)],0⟩)∧(¬up<0→(255<up→K (Sum.inl (Sum.inl (rslC ⟨1,(3:Nat) + (1:Nat),0,0,0⟩))) ⟨[rvB [k0,k1,k2,k3,k4,k5,k6,k7,k8] [u0,u1,u2,u3,u4,u5,u6,u7,u8] (rslC ⟨0,5,0,q,rc⟩)],[],0,[some ⟨(84:TypeId),.o (.rows [.n .i64,.n .i64,.n .i64,.n .i64,.n .i64] R),[],rc,false⟩,some (liB U.nilL 0)],0⟩)∧(¬255<up→∃ (y0:VLP),(rc=rc∧R=U.vlvs y0∧q=U.vllen y0∧q≤100000∧U.ubI [u0,u1,u2,up,u4,u5,u6,u7,u8])∧∀ (G1:Rws) (gq2 gc3 hq4 hc5:Nat),G1=U.lks (U.gone (U.fBrkR [k0,k1,k2,true,k4,k5,k6,k7,k8] [u0,u1,u2,up,u4,u5,u6,u7,u8]) y0)→gq2=U.vllen (U.gone (U.fBrkR [k0,k1,k2,true,k4,k5,k6,k7,k8] [u0,u1,u2,up,u4,u5,u6,u7,u8]) y0)→gq2≤gc3→hq4=U.vllen (U.rest (U.fBrkR [k0,k1,k2,true,k4,k5,k6,k7,k8] [u0,u1,u2,up,u4,u5,u6,u7,u8]) y0)→hq4≤hc5→K (Sum.inl (Sum.inl (rslC ⟨1,4,0,gq2,gc3⟩))) ⟨[rvB [k0,k1,k2,true,k4,k5,k6,k7,k8] [u0,u1,u2,up,u4,u5,u6,u7,u8] (rslC ⟨2,5,0,hq4,hc5⟩)],[],0,[some ⟨(84:TypeId),.o (.rows [.n .i64,.n .i64,.n .i64,.n .i64,.n .i64] R),[],rc,false⟩,some (liB G1 gc3),some ⟨(84:TypeId),.o (.rows [.n .i64,.n .i64,.n .i64,.n .i64,.n .i64] (U.vlvs (U.rest (U.fBrkR [k0,k1,k2,true,k4,k5,k6,k7,k8] [u0,u1,u2,up,u4,u5,u6,u7,u8]) y0))),[],hc5,false⟩],0⟩))) := by kernel_rfl
theorem rDrop3_vc (K:AV→St→Prop) (k0 k1 k2 k3 k4 k5 k6 k7 k8:Bool) (u0 u1 u2 u3 u4 u5 u6 u7 u8:Int) (q rc:Nat) (R:Rws):(runR inv0 tR4 25 [ptr 0 0,.inl (.inl (.inl (.int .i64 3)))] (rvSt [k0,k1,k2,k3,k4,k5,k6,k7,k8] [u0,u1,u2,u3,u4,u5,u6,u7,u8] q rc R) K)=(∃ (y0:VLP),(rc=rc∧R=U.vlvs y0∧q=U.vllen y0∧q≤100000)∧∀ (G1:Rws) (gq2 gc3 hq4 hc5:Nat),G1=U.lks (U.gone (U.fSw (3:Int)) y0)→gq2=U.vllen (U.gone (U.fSw (3:Int)) y0)→gq2≤gc3→hq4=U.vllen (U.rest (U.fSw (3:Int)) y0)→hq4≤hc5→K (Sum.inl (Sum.inl (rslC ⟨1,4,0,gq2,gc3⟩))) ⟨[some ⟨nat_lit 30,[Sum.inl (Value.bool k0),Sum.inl (Value.bool k1),Sum.inl (Value.bool k2),Sum.inl (Value.bool false),Sum.inl (Value.bool k4),Sum.inl (Value.bool k5),Sum.inl (Value.bool k6),Sum.inl (Value.bool k7),Sum.inl (Value.bool k8),xintC .i64 u0,xintC .i64 u1,xintC .i64 u2,xintC .i64 (0:Int),xintC .i64 u4,xintC .i64 u5,xintC .i64 u6,xintC .i64 u7,xintC .i64 u8,rslC ⟨2,5,0,hq4,hc5⟩],none,19,false⟩],[],0,[some ⟨(84:TypeId),.o (.rows [.n .i64,.n .i64,.n .i64,.n .i64,.n .i64] R),[],rc,false⟩,some (liB G1 gc3),some ⟨(84:TypeId),.o (.rows [.n .i64,.n .i64,.n .i64,.n .i64,.n .i64] (U.vlvs (U.rest (U.fSw (3:Int)) y0))),[],hc5,false⟩],0⟩) := by kernel_rfl
theorem rPorts4_vc (K:AV→St→Prop) (k0 k1 k2 k3 k4 k5 k6 k7 k8:Bool) (u0 u1 u2 u3 u4 u5 u6 u7 u8:Int) (q rc:Nat) (R:Rws) (up:Int):(runR inv0 tR4 23 [ptr 0 0,.inl (.inl (.inl (.int .i64 4))),xi .i64 up] (rvSt [k0,k1,k2,k3,k4,k5,k6,k7,k8] [u0,u1,u2,u3,u4,u5,u6,u7,u8] q rc R) K)=((up<0→K (Sum.inl (Sum.inl (rslC ⟨1,(3:Nat) + (1:Nat),0,0,0⟩))) ⟨[rvB [k0,k1,k2,k3,k4,k5,k6,k7,k8] [u0,u1,u2,u3,u4,u5,u6,u7,u8] (rslC ⟨0,5,0,q,rc⟩)],[],0,[some ⟨(84:TypeId),.o (.rows [.n .i64,.n .i64,.n .i64,.n .i64,.n .i64] R),[],rc,false⟩,some (liB U.nilL 0)],0⟩)∧(¬up<0→(255<up→K (Sum.inl (Sum.inl (rslC ⟨1,(3:Nat) + (1:Nat),0,0,0⟩))) ⟨[rvB [k0,k1,k2,k3,k4,k5,k6,k7,k8] [u0,u1,u2,u3,u4,u5,u6,u7,u8] (rslC ⟨0,5,0,q,rc⟩)],[],0,[some ⟨(84:TypeId),.o (.rows [.n .i64,.n .i64,.n .i64,.n .i64,.n .i64] R),[],rc,false⟩,some (liB U.nilL 0)],0⟩)∧(¬255<up→∃ (y0:VLP),(rc=rc∧R=U.vlvs y0∧q=U.vllen y0∧q≤100000∧U.ubI [u0,u1,u2,u3,up,u5,u6,u7,u8])∧∀ (G1:Rws) (gq2 gc3 hq4 hc5:Nat),G1=U.lks (U.gone (U.fBrkR [k0,k1,k2,k3,true,k5,k6,k7,k8] [u0,u1,u2,u3,up,u5,u6,u7,u8]) y0)→gq2=U.vllen (U.gone (U.fBrkR [k0,k1,k2,k3,true,k5,k6,k7,k8] [u0,u1,u2,u3,up,u5,u6,u7,u8]) y0)→gq2≤gc3→hq4=U.vllen (U.rest (U.fBrkR [k0,k1,k2,k3,true,k5,k6,k7,k8] [u0,u1,u2,u3,up,u5,u6,u7,u8]) y0)→hq4≤hc5→K (Sum.inl (Sum.inl (rslC ⟨1,4,0,gq2,gc3⟩))) ⟨[rvB [k0,k1,k2,k3,true,k5,k6,k7,k8] [u0,u1,u2,u3,up,u5,u6,u7,u8] (rslC ⟨2,5,0,hq4,hc5⟩)],[],0,[some ⟨(84:TypeId),.o (.rows [.n .i64,.n .i64,.n .i64,.n .i64,.n .i64] R),[],rc,false⟩,some (liB G1 gc3),some ⟨(84:TypeId),.o (.rows [.n .i64,.n .i64,.n .i64,.n .i64,.n .i64] (U.vlvs (U.rest (U.fBrkR [k0,k1,k2,k3,true,k5,k6,k7,k8] [u0,u1,u2,u3,up,u5,u6,u7,u8]) y0))),[],hc5,false⟩],0⟩))) := by kernel_rfl
theorem rDrop4_vc (K:AV→St→Prop) (k0 k1 k2 k3 k4 k5 k6 k7 k8:Bool) (u0 u1 u2 u3 u4 u5 u6 u7 u8:Int) (q rc:Nat) (R:Rws):(runR inv0 tR4 25 [ptr 0 0,.inl (.inl (.inl (.int .i64 4)))] (rvSt [k0,k1,k2,k3,k4,k5,k6,k7,k8] [u0,u1,u2,u3,u4,u5,u6,u7,u8] q rc R) K)=(∃ (y0:VLP),(rc=rc∧R=U.vlvs y0∧q=U.vllen y0∧q≤100000)∧∀ (G1:Rws) (gq2 gc3 hq4 hc5:Nat),G1=U.lks (U.gone (U.fSw (4:Int)) y0)→gq2=U.vllen (U.gone (U.fSw (4:Int)) y0)→gq2≤gc3→hq4=U.vllen (U.rest (U.fSw (4:Int)) y0)→hq4≤hc5→K (Sum.inl (Sum.inl (rslC ⟨1,4,0,gq2,gc3⟩))) ⟨[some ⟨nat_lit 30,[Sum.inl (Value.bool k0),Sum.inl (Value.bool k1),Sum.inl (Value.bool k2),Sum.inl (Value.bool k3),Sum.inl (Value.bool false),Sum.inl (Value.bool k5),Sum.inl (Value.bool k6),Sum.inl (Value.bool k7),Sum.inl (Value.bool k8),xintC .i64 u0,xintC .i64 u1,xintC .i64 u2,xintC .i64 u3,xintC .i64 (0:Int),xintC .i64 u5,xintC .i64 u6,xintC .i64 u7,xintC .i64 u8,rslC ⟨2,5,0,hq4,hc5⟩],none,19,false⟩],[],0,[some ⟨(84:TypeId),.o (.rows [.n .i64,.n .i64,.n .i64,.n .i64,.n .i64] R),[],rc,false⟩,some (liB G1 gc3),some ⟨(84:TypeId),.o (.rows [.n .i64,.n .i64,.n .i64,.n .i64,.n .i64] (U.vlvs (U.rest (U.fSw (4:Int)) y0))),[],hc5,false⟩],0⟩) := by kernel_rfl
theorem rPorts5_vc (K:AV→St→Prop) (k0 k1 k2 k3 k4 k5 k6 k7 k8:Bool) (u0 u1 u2 u3 u4 u5 u6 u7 u8:Int) (q rc:Nat) (R:Rws) (up:Int):(runR inv0 tR4 23 [ptr 0 0,.inl (.inl (.inl (.int .i64 5))),xi .i64 up] (rvSt [k0,k1,k2,k3,k4,k5,k6,k7,k8] [u0,u1,u2,u3,u4,u5,u6,u7,u8] q rc R) K)=((up<0→K (Sum.inl (Sum.inl (rslC ⟨1,(3:Nat) + (1:Nat),0,0,0⟩))) ⟨[rvB [k0,k1,k2,k3,k4,k5,k6,k7,k8] [u0,u1,u2,u3,u4,u5,u6,u7,u8] (rslC ⟨0,5,0,q,rc⟩)],[],0,[some ⟨(84:TypeId),.o (.rows [.n .i64,.n .i64,.n .i64,.n .i64,.n .i64] R),[],rc,false⟩,some (liB U.nilL 0)],0⟩)∧(¬up<0→(255<up→K (Sum.inl (Sum.inl (rslC ⟨1,(3:Nat) + (1:Nat),0,0,0⟩))) ⟨[rvB [k0,k1,k2,k3,k4,k5,k6,k7,k8] [u0,u1,u2,u3,u4,u5,u6,u7,u8] (rslC ⟨0,5,0,q,rc⟩)],[],0,[some ⟨(84:TypeId),.o (.rows [.n .i64,.n .i64,.n .i64,.n .i64,.n .i64] R),[],rc,false⟩,some (liB U.nilL 0)],0⟩)∧(¬255<up→∃ (y0:VLP),(rc=rc∧R=U.vlvs y0∧q=U.vllen y0∧q≤100000∧U.ubI [u0,u1,u2,u3,u4,up,u6,u7,u8])∧∀ (G1:Rws) (gq2 gc3 hq4 hc5:Nat),G1=U.lks (U.gone (U.fBrkR [k0,k1,k2,k3,k4,true,k6,k7,k8] [u0,u1,u2,u3,u4,up,u6,u7,u8]) y0)→gq2=U.vllen (U.gone (U.fBrkR [k0,k1,k2,k3,k4,true,k6,k7,k8] [u0,u1,u2,u3,u4,up,u6,u7,u8]) y0)→gq2≤gc3→hq4=U.vllen (U.rest (U.fBrkR [k0,k1,k2,k3,k4,true,k6,k7,k8] [u0,u1,u2,u3,u4,up,u6,u7,u8]) y0)→hq4≤hc5→K (Sum.inl (Sum.inl (rslC ⟨1,4,0,gq2,gc3⟩))) ⟨[rvB [k0,k1,k2,k3,k4,true,k6,k7,k8] [u0,u1,u2,u3,u4,up,u6,u7,u8] (rslC ⟨2,5,0,hq4,hc5⟩)],[],0,[some ⟨(84:TypeId),.o (.rows [.n .i64,.n .i64,.n .i64,.n .i64,.n .i64] R),[],rc,false⟩,some (liB G1 gc3),some ⟨(84:TypeId),.o (.rows [.n .i64,.n .i64,.n .i64,.n .i64,.n .i64] (U.vlvs (U.rest (U.fBrkR [k0,k1,k2,k3,k4,true,k6,k7,k8] [u0,u1,u2,u3,u4,up,u6,u7,u8]) y0))),[],hc5,false⟩],0⟩))) := by kernel_rfl
theorem rDrop5_vc (K:AV→St→Prop) (k0 k1 k2 k3 k4 k5 k6 k7 k8:Bool) (u0 u1 u2 u3 u4 u5 u6 u7 u8:Int) (q rc:Nat) (R:Rws):(runR inv0 tR4 25 [ptr 0 0,.inl (.inl (.inl (.int .i64 5)))] (rvSt [k0,k1,k2,k3,k4,k5,k6,k7,k8] [u0,u1,u2,u3,u4,u5,u6,u7,u8] q rc R) K)=(∃ (y0:VLP),(rc=rc∧R=U.vlvs y0∧q=U.vllen y0∧q≤100000)∧∀ (G1:Rws) (gq2 gc3 hq4 hc5:Nat),G1=U.lks (U.gone (U.fSw (5:Int)) y0)→gq2=U.vllen (U.gone (U.fSw (5:Int)) y0)→gq2≤gc3→hq4=U.vllen (U.rest (U.fSw (5:Int)) y0)→hq4≤hc5→K (Sum.inl (Sum.inl (rslC ⟨1,4,0,gq2,gc3⟩))) ⟨[some ⟨nat_lit 30,[Sum.inl (Value.bool k0),Sum.inl (Value.bool k1),Sum.inl (Value.bool k2),Sum.inl (Value.bool k3),Sum.inl (Value.bool k4),Sum.inl (Value.bool false),Sum.inl (Value.bool k6),Sum.inl (Value.bool k7),Sum.inl (Value.bool k8),xintC .i64 u0,xintC .i64 u1,xintC .i64 u2,xintC .i64 u3,xintC .i64 u4,xintC .i64 (0:Int),xintC .i64 u6,xintC .i64 u7,xintC .i64 u8,rslC ⟨2,5,0,hq4,hc5⟩],none,19,false⟩],[],0,[some ⟨(84:TypeId),.o (.rows [.n .i64,.n .i64,.n .i64,.n .i64,.n .i64] R),[],rc,false⟩,some (liB G1 gc3),some ⟨(84:TypeId),.o (.rows [.n .i64,.n .i64,.n .i64,.n .i64,.n .i64] (U.vlvs (U.rest (U.fSw (5:Int)) y0))),[],hc5,false⟩],0⟩) := by kernel_rfl
theorem rPorts6_vc (K:AV→St→Prop) (k0 k1 k2 k3 k4 k5 k6 k7 k8:Bool) (u0 u1 u2 u3 u4 u5 u6 u7 u8:Int) (q rc:Nat) (R:Rws) (up:Int):(runR inv0 tR4 23 [ptr 0 0,.inl (.inl (.inl (.int .i64 6))),xi .i64 up] (rvSt [k0,k1,k2,k3,k4,k5,k6,k7,k8] [u0,u1,u2,u3,u4,u5,u6,u7,u8] q rc R) K)=((up<0→K (Sum.inl (Sum.inl (rslC ⟨1,(3:Nat) + (1:Nat),0,0,0⟩))) ⟨[rvB [k0,k1,k2,k3,k4,k5,k6,k7,k8] [u0,u1,u2,u3,u4,u5,u6,u7,u8] (rslC ⟨0,5,0,q,rc⟩)],[],0,[some ⟨(84:TypeId),.o (.rows [.n .i64,.n .i64,.n .i64,.n .i64,.n .i64] R),[],rc,false⟩,some (liB U.nilL 0)],0⟩)∧(¬up<0→(255<up→K (Sum.inl (Sum.inl (rslC ⟨1,(3:Nat) + (1:Nat),0,0,0⟩))) ⟨[rvB [k0,k1,k2,k3,k4,k5,k6,k7,k8] [u0,u1,u2,u3,u4,u5,u6,u7,u8] (rslC ⟨0,5,0,q,rc⟩)],[],0,[some ⟨(84:TypeId),.o (.rows [.n .i64,.n .i64,.n .i64,.n .i64,.n .i64] R),[],rc,false⟩,some (liB U.nilL 0)],0⟩)∧(¬255<up→∃ (y0:VLP),(rc=rc∧R=U.vlvs y0∧q=U.vllen y0∧q≤100000∧U.ubI [u0,u1,u2,u3,u4,u5,up,u7,u8])∧∀ (G1:Rws) (gq2 gc3 hq4 hc5:Nat),G1=U.lks (U.gone (U.fBrkR [k0,k1,k2,k3,k4,k5,true,k7,k8] [u0,u1,u2,u3,u4,u5,up,u7,u8]) y0)→gq2=U.vllen (U.gone (U.fBrkR [k0,k1,k2,k3,k4,k5,true,k7,k8] [u0,u1,u2,u3,u4,u5,up,u7,u8]) y0)→gq2≤gc3→hq4=U.vllen (U.rest (U.fBrkR [k0,k1,k2,k3,k4,k5,true,k7,k8] [u0,u1,u2,u3,u4,u5,up,u7,u8]) y0)→hq4≤hc5→K (Sum.inl (Sum.inl (rslC ⟨1,4,0,gq2,gc3⟩))) ⟨[rvB [k0,k1,k2,k3,k4,k5,true,k7,k8] [u0,u1,u2,u3,u4,u5,up,u7,u8] (rslC ⟨2,5,0,hq4,hc5⟩)],[],0,[some ⟨(84:TypeId),.o (.rows [.n .i64,.n .i64,.n .i64,.n .i64,.n .i64] R),[],rc,false⟩,some (liB G1 gc3),some ⟨(84:TypeId),.o (.rows [.n .i64,.n .i64,.n .i64,.n .i64,.n .i64] (U.vlvs (U.rest (U.fBrkR [k0,k1,k2,k3,k4,k5,true,k7,k8] [u0,u1,u2,u3,u4,u5,up,u7,u8]) y0))),[],hc5,false⟩],0⟩))) := by kernel_rfl
theorem rDrop6_vc (K:AV→St→Prop) (k0 k1 k2 k3 k4 k5 k6 k7 k8:Bool) (u0 u1 u2 u3 u4 u5 u6 u7 u8:Int) (q rc:Nat) (R:Rws):(runR inv0 tR4 25 [ptr 0 0,.inl (.inl (.inl (.int .i64 6)))] (rvSt [k0,k1,k2,k3,k4,k5,k6,k7,k8] [u0,u1,u2,u3,u4,u5,u6,u7,u8] q rc R) K)=(∃ (y0:VLP),(rc=rc∧R=U.vlvs y0∧q=U.vllen y0∧q≤100000)∧∀ (G1:Rws) (gq2 gc3 hq4 hc5:Nat),G1=U.lks (U.gone (U.fSw (6:Int)) y0)→gq2=U.vllen (U.gone (U.fSw (6:Int)) y0)→gq2≤gc3→hq4=U.vllen (U.rest (U.fSw (6:Int)) y0)→hq4≤hc5→K (Sum.inl (Sum.inl (rslC ⟨1,4,0,gq2,gc3⟩))) ⟨[some ⟨nat_lit 30,[Sum.inl (Value.bool k0),Sum.inl (Value.bool k1),Sum.inl (Value.bool k2),Sum.inl (Value.bool k3),Sum.inl (Value.bool k4),Sum.inl (Value.bool k5),Sum.inl (Value.bool false),Sum.inl (Value.bool k7),Sum.inl (Value.bool k8),xintC .i64 u0,xintC .i64 u1,xintC .i64 u2,xintC .i64 u3,xintC .i64 u4,xintC .i64 u5,xintC .i64 (0:Int),xintC .i64 u7,xintC .i64 u8,rslC ⟨2,5,0,hq4,hc5⟩],none,19,false⟩],[],0,[some ⟨(84:TypeId),.o (.rows [.n .i64,.n .i64,.n .i64,.n .i64,.n .i64] R),[],rc,false⟩,some (liB G1 gc3),some ⟨(84:TypeId),.o (.rows [.n .i64,.n .i64,.n .i64,.n .i64,.n .i64] (U.vlvs (U.rest (U.fSw (6:Int)) y0))),[],hc5,false⟩],0⟩) := by kernel_rfl
theorem rPorts7_vc (K:AV→St→Prop) (k0 k1 k2 k3 k4 k5 k6 k7 k8:Bool) (u0 u1 u2 u3 u4 u5 u6 u7 u8:Int) (q rc:Nat) (R:Rws) (up:Int):(runR inv0 tR4 23 [ptr 0 0,.inl (.inl (.inl (.int .i64 7))),xi .i64 up] (rvSt [k0,k1,k2,k3,k4,k5,k6,k7,k8] [u0,u1,u2,u3,u4,u5,u6,u7,u8] q rc R) K)=((up<0→K (Sum.inl (Sum.inl (rslC ⟨1,(3:Nat) + (1:Nat),0,0,0⟩))) ⟨[rvB [k0,k1,k2,k3,k4,k5,k6,k7,k8] [u0,u1,u2,u3,u4,u5,u6,u7,u8] (rslC ⟨0,5,0,q,rc⟩)],[],0,[some ⟨(84:TypeId),.o (.rows [.n .i64,.n .i64,.n .i64,.n .i64,.n .i64] R),[],rc,false⟩,some (liB U.nilL 0)],0⟩)∧(¬up<0→(255<up→K (Sum.inl (Sum.inl (rslC ⟨1,(3:Nat) + (1:Nat),0,0,0⟩))) ⟨[rvB [k0,k1,k2,k3,k4,k5,k6,k7,k8] [u0,u1,u2,u3,u4,u5,u6,u7,u8] (rslC ⟨0,5,0,q,rc⟩)],[],0,[some ⟨(84:TypeId),.o (.rows [.n .i64,.n .i64,.n .i64,.n .i64,.n .i64] R),[],rc,false⟩,some (liB U.nilL 0)],0⟩)∧(¬255<up→∃ (y0:VLP),(rc=rc∧R=U.vlvs y0∧q=U.vllen y0∧q≤100000∧U.ubI [u0,u1,u2,u3,u4,u5,u6,up,u8])∧∀ (G1:Rws) (gq2 gc3 hq4 hc5:Nat),G1=U.lks (U.gone (U.fBrkR [k0,k1,k2,k3,k4,k5,k6,true,k8] [u0,u1,u2,u3,u4,u5,u6,up,u8]) y0)→gq2=U.vllen (U.gone (U.fBrkR [k0,k1,k2,k3,k4,k5,k6,true,k8] [u0,u1,u2,u3,u4,u5,u6,up,u8]) y0)→gq2≤gc3→hq4=U.vllen (U.rest (U.fBrkR [k0,k1,k2,k3,k4,k5,k6,true,k8] [u0,u1,u2,u3,u4,u5,u6,up,u8]) y0)→hq4≤hc5→K (Sum.inl (Sum.inl (rslC ⟨1,4,0,gq2,gc3⟩))) ⟨[rvB [k0,k1,k2,k3,k4,k5,k6,true,k8] [u0,u1,u2,u3,u4,u5,u6,up,u8] (rslC ⟨2,5,0,hq4,hc5⟩)],[],0,[some ⟨(84:TypeId),.o (.rows [.n .i64,.n .i64,.n .i64,.n .i64,.n .i64] R),[],rc,false⟩,some (liB G1 gc3),some ⟨(84:TypeId),.o (.rows [.n .i64,.n .i64,.n .i64,.n .i64,.n .i64] (U.vlvs (U.rest (U.fBrkR [k0,k1,k2,k3,k4,k5,k6,true,k8] [u0,u1,u2,u3,u4,u5,u6,up,u8]) y0))),[],hc5,false⟩],0⟩))) := by kernel_rfl
theorem rDrop7_vc (K:AV→St→Prop) (k0 k1 k2 k3 k4 k5 k6 k7 k8:Bool) (u0 u1 u2 u3 u4 u5 u6 u7 u8:Int) (q rc:Nat) (R:Rws):(runR inv0 tR4 25 [ptr 0 0,.inl (.inl (.inl (.int .i64 7)))] (rvSt [k0,k1,k2,k3,k4,k5,k6,k7,k8] [u0,u1,u2,u3,u4,u5,u6,u7,u8] q rc R) K)=(∃ (y0:VLP),(rc=rc∧R=U.vlvs y0∧q=U.vllen y0∧q≤100000)∧∀ (G1:Rws) (gq2 gc3 hq4 hc5:Nat),G1=U.lks (U.gone (U.fSw (7:Int)) y0)→gq2=U.vllen (U.gone (U.fSw (7:Int)) y0)→gq2≤gc3→hq4=U.vllen (U.rest (U.fSw (7:Int)) y0)→hq4≤hc5→K (Sum.inl (Sum.inl (rslC ⟨1,4,0,gq2,gc3⟩))) ⟨[some ⟨nat_lit 30,[Sum.inl (Value.bool k0),Sum.inl (Value.bool k1),Sum.inl (Value.bool k2),Sum.inl (Value.bool k3),Sum.inl (Value.bool k4),Sum.inl (Value.bool k5),Sum.inl (Value.bool k6),Sum.inl (Value.bool false),Sum.inl (Value.bool k8),xintC .i64 u0,xintC .i64 u1,xintC .i64 u2,xintC .i64 u3,xintC .i64 u4,xintC .i64 u5,xintC .i64 u6,xintC .i64 (0:Int),xintC .i64 u8,rslC ⟨2,5,0,hq4,hc5⟩],none,19,false⟩],[],0,[some ⟨(84:TypeId),.o (.rows [.n .i64,.n .i64,.n .i64,.n .i64,.n .i64] R),[],rc,false⟩,some (liB G1 gc3),some ⟨(84:TypeId),.o (.rows [.n .i64,.n .i64,.n .i64,.n .i64,.n .i64] (U.vlvs (U.rest (U.fSw (7:Int)) y0))),[],hc5,false⟩],0⟩) := by kernel_rfl
theorem rPorts8_vc (K:AV→St→Prop) (k0 k1 k2 k3 k4 k5 k6 k7 k8:Bool) (u0 u1 u2 u3 u4 u5 u6 u7 u8:Int) (q rc:Nat) (R:Rws) (up:Int):(runR inv0 tR4 23 [ptr 0 0,.inl (.inl (.inl (.int .i64 8))),xi .i64 up] (rvSt [k0,k1,k2,k3,k4,k5,k6,k7,k8] [u0,u1,u2,u3,u4,u5,u6,u7,u8] q rc R) K)=((up<0→K (Sum.inl (Sum.inl (rslC ⟨1,(3:Nat) + (1:Nat),0,0,0⟩))) ⟨[rvB [k0,k1,k2,k3,k4,k5,k6,k7,k8] [u0,u1,u2,u3,u4,u5,u6,u7,u8] (rslC ⟨0,5,0,q,rc⟩)],[],0,[some ⟨(84:TypeId),.o (.rows [.n .i64,.n .i64,.n .i64,.n .i64,.n .i64] R),[],rc,false⟩,some (liB U.nilL 0)],0⟩)∧(¬up<0→(255<up→K (Sum.inl (Sum.inl (rslC ⟨1,(3:Nat) + (1:Nat),0,0,0⟩))) ⟨[rvB [k0,k1,k2,k3,k4,k5,k6,k7,k8] [u0,u1,u2,u3,u4,u5,u6,u7,u8] (rslC ⟨0,5,0,q,rc⟩)],[],0,[some ⟨(84:TypeId),.o (.rows [.n .i64,.n .i64,.n .i64,.n .i64,.n .i64] R),[],rc,false⟩,some (liB U.nilL 0)],0⟩)∧(¬255<up→∃ (y0:VLP),(rc=rc∧R=U.vlvs y0∧q=U.vllen y0∧q≤100000∧U.ubI [u0,u1,u2,u3,u4,u5,u6,u7,up])∧∀ (G1:Rws) (gq2 gc3 hq4 hc5:Nat),G1=U.lks (U.gone (U.fBrkR [k0,k1,k2,k3,k4,k5,k6,k7,true] [u0,u1,u2,u3,u4,u5,u6,u7,up]) y0)→gq2=U.vllen (U.gone (U.fBrkR [k0,k1,k2,k3,k4,k5,k6,k7,true] [u0,u1,u2,u3,u4,u5,u6,u7,up]) y0)→gq2≤gc3→hq4=U.vllen (U.rest (U.fBrkR [k0,k1,k2,k3,k4,k5,k6,k7,true] [u0,u1,u2,u3,u4,u5,u6,u7,up]) y0)→hq4≤hc5→K (Sum.inl (Sum.inl (rslC ⟨1,4,0,gq2,gc3⟩))) ⟨[rvB [k0,k1,k2,k3,k4,k5,k6,k7,true] [u0,u1,u2,u3,u4,u5,u6,u7,up] (rslC ⟨2,5,0,hq4,hc5⟩)],[],0,[some ⟨(84:TypeId),.o (.rows [.n .i64,.n .i64,.n .i64,.n .i64,.n .i64] R),[],rc,false⟩,some (liB G1 gc3),some ⟨(84:TypeId),.o (.rows [.n .i64,.n .i64,.n .i64,.n .i64,.n .i64] (U.vlvs (U.rest (U.fBrkR [k0,k1,k2,k3,k4,k5,k6,k7,true] [u0,u1,u2,u3,u4,u5,u6,u7,up]) y0))),[],hc5,false⟩],0⟩))) := by kernel_rfl
theorem rDrop8_vc (K:AV→St→Prop) (k0 k1 k2 k3 k4 k5 k6 k7 k8:Bool) (u0 u1 u2 u3 u4 u5 u6 u7 u8:Int) (q rc:Nat) (R:Rws):(runR inv0 tR4 25 [ptr 0 0,.inl (.inl (.inl (.int .i64 8)))] (rvSt [k0,k1,k2,k3,k4,k5,k6,k7,k8] [u0,u1,u2,u3,u4,u5,u6,u7,u8] q rc R) K)=(∃ (y0:VLP),(rc=rc∧R=U.vlvs y0∧q=U.vllen y0∧q≤100000)∧∀ (G1:Rws) (gq2 gc3 hq4 hc5:Nat),G1=U.lks (U.gone (U.fSw (8:Int)) y0)→gq2=U.vllen (U.gone (U.fSw (8:Int)) y0)→gq2≤gc3→hq4=U.vllen (U.rest (U.fSw (8:Int)) y0)→hq4≤hc5→K (Sum.inl (Sum.inl (rslC ⟨1,4,0,gq2,gc3⟩))) ⟨[some ⟨nat_lit 30,[Sum.inl (Value.bool k0),Sum.inl (Value.bool k1),Sum.inl (Value.bool k2),Sum.inl (Value.bool k3),Sum.inl (Value.bool k4),Sum.inl (Value.bool k5),Sum.inl (Value.bool k6),Sum.inl (Value.bool k7),Sum.inl (Value.bool false),xintC .i64 u0,xintC .i64 u1,xintC .i64 u2,xintC .i64 u3,xintC .i64 u4,xintC .i64 u5,xintC .i64 u6,xintC .i64 u7,xintC .i64 (0:Int),rslC ⟨2,5,0,hq4,hc5⟩],none,19,false⟩],[],0,[some ⟨(84:TypeId),.o (.rows [.n .i64,.n .i64,.n .i64,.n .i64,.n .i64] R),[],rc,false⟩,some (liB G1 gc3),some ⟨(84:TypeId),.o (.rows [.n .i64,.n .i64,.n .i64,.n .i64,.n .i64] (U.vlvs (U.rest (U.fSw (8:Int)) y0))),[],hc5,false⟩],0⟩) := by kernel_rfl
end Go.Proofs.Ytfhgnngdbbgogaa
end
section
set_option linter.unusedVariables false
set_option linter.unusedSimpArgs false
set_option maxRecDepth 10000
namespace Go.Proofs.Ytfhgnngdbbgogaa
open Go Reck Ost
theorem pLess_ok : PatOk 13 pLess := by
  intro tm σ C h K hK w0 e w hk vs hvs
  unfold pLess at h
  split at h
  · split at h
    · rename_i a b a' b' hp hq
      simp only [Option.some.injEq] at h; subst h
      obtain ⟨x, y, rfl, q1, q2⟩ := twos hvs
      exact knownC noOv names (conOk_ofR tbl0_ok) (show runR inv0 tbl0 13 [plA a b, plA a' b'] emptySt K by
        rw [less_vc]
        exact ⟨fun g => hK.1 ⟨.inl g⟩, fun g => ⟨fun g2 => ⟨fun g3 => hK.1 ⟨.inr ⟨g2, g3⟩⟩, fun g3 => hK.2 fun h => h.out.elim g fun h => g3 h.2⟩, fun g2 => hK.2 fun h => h.out.elim g fun h => g2 h.1⟩⟩) w0 e w hk _ (map2 (aPl_av hp q1) (aPl_av hq q2))
    · cases h
  · cases h
def liC (a : Option ABlk) : Option (Rws × Nat) := match a with
  | some ⟨42, .o (.rows [.n .i64, .n .i64, .n .i64, .n .i64] R), [], c, false⟩ => some (R, c)
  | _ => none
theorem liC_eq {a : Option ABlk} {R : Rws} {c : Nat} (h : liC a = some (R, c)) : a = some (liB R c) := by
  unfold liC at h
  split at h
  · simp only [Option.some.injEq, Prod.mk.injEq] at h
    obtain ⟨rfl, rfl⟩ := h; rfl
  · cases h
theorem rSame_run (K : AV → St → Prop) (P : VLP) (n c q d : Nat) (hn : n = P.length) (hq : q = P.length) (hs : n ≤ 100000) (hK : K (lit (.bool true)) ⟨[], [], 0, [some (liB (U.lks P) c), some (liB (U.lks P) d)], 0⟩) : runR (invR5 [] 0 0) tbl0 22 [cell (rslC ⟨0, 4, 0, n, c⟩), cell (rslC ⟨1, 4, 0, q, d⟩)] ⟨[], [], 0, [some (liB (U.lks P) c), some (liB (U.lks P) d)], 0⟩ K := by
  rw [rSame_vc]
  have hl := lks_len P
  intro z0 h0 z1 h1
  refine ⟨fun g => absurd (by omega) g, fun _ z2 h2 => ⟨?_, ?_⟩⟩
  · refine ⟨0, ?_⟩
    repeat' (first | exact rfl | with_reducible apply And.intro)
    exact ⟨by omega, by omega⟩
  · rintro i ⟨i1, i2⟩
    refine ⟨fun hi => ⟨⟨by omega, by omega⟩, fun j hj => ⟨by omega, ?_⟩⟩, fun hi => hK⟩
    rintro _ rfl _ rfl _ rfl _ rfl
    refine ⟨⟨by omega, by omega⟩, fun j2 hj2 => ⟨by omega, ?_⟩⟩
    obtain rfl : j2 = j := by omega
    rintro _ rfl _ rfl _ rfl _ rfl
    refine ⟨fun g => absurd ⟨⟨rfl, rfl, trivial⟩, ⟨rfl, rfl, trivial⟩, trivial⟩ g, fun _ z h => ?_⟩
    have e := iw h (by omega)
    refine ⟨z, ?_⟩
    repeat' (first | exact rfl | exact ⟨by omega, by omega⟩ | with_reducible apply And.intro)
    omega
def prSame : Pat := fun args σ => match args, σ with
  | [l, r], ⟨[], [], 0, [a, b], 0⟩ => match rslX l, rslX r, liC a, liC b with
    | some ⟨0, 4, 0, n, cl⟩, some ⟨1, 4, 0, q, dl⟩, some (A, c), some (B, d) => some fun K => ∃ P : VLP, (cl = c ∧ dl = d ∧ A = U.lks P ∧ B = U.lks P ∧ n = U.vllen P ∧ q = U.vllen P ∧ n ≤ 100000) ∧ K (lit (.bool true)) ⟨[], [], 0, [some (liB A c), some (liB B d)], 0⟩
    | _, _, _, _ => none
  | _, _ => none
theorem prSame_ok : PatOk 22 prSame := by
  intro tm σ C h K hK w0 e w hk vs hvs
  unfold prSame at h
  split at h
  · split at h
    · rename_i hl hr ha hb
      simp only [Option.some.injEq] at h; subst h
      obtain ⟨P, ⟨rfl, rfl, rfl, rfl, h1, h2, h3⟩, h4⟩ := hK
      obtain rfl := liC_eq ha
      obtain rfl := liC_eq hb
      obtain rfl := rslX_eq hl
      obtain rfl := rslX_eq hr
      exact knownC noOv names (conOk_ofR tbl0_ok) (rSame_run K P _ _ _ _ h1 h2 h3 h4) w0 e w hk _ hvs
    · cases h
  · cases h
def rvO (kn : List Bool) (us : List Int) (q rc : Nat) (R : Rws) (O : Rws) (c : Nat) : St := ⟨[rvB kn us (rslC ⟨0, 5, 0, q, rc⟩)], [], 0, [some (snB R rc), some (liB O c)], 0⟩
theorem rLinks_run (K : AV → St → Prop) (P : VLP) (k0 k1 k2 k3 k4 k5 k6 k7 k8 : Bool) (u0 u1 u2 u3 u4 u5 u6 u7 u8 : Int) (q rc : Nat) (hq : q = P.length) (hs : q ≤ 100000) (hK : ∀ (O : Rws) (r c : Nat), O = U.lks P → r = q → r ≤ c → K (cell (rslC ⟨1, 4, 0, r, c⟩)) (rvO [k0, k1, k2, k3, k4, k5, k6, k7, k8] [u0, u1, u2, u3, u4, u5, u6, u7, u8] q rc (U.vlvs P) O c)) : runR (invR5 P 0 0) tR4 29 [ptr 0 0] (rvSt [k0, k1, k2, k3, k4, k5, k6, k7, k8] [u0, u1, u2, u3, u4, u5, u6, u7, u8] q rc (U.vlvs P)) K := by
  rw [rLinks_vc]
  have hvl : (U.vlvs P).length = P.length := by simp [U.vlvs]
  intro z0 h0
  constructor
  · refine ⟨(0, ([], (0, 0))), ?_⟩
    repeat' (first | exact rfl | with_reducible apply And.intro)
    exact ⟨by dsimp only; omega, by dsimp only; omega, rfl, rfl, rfl, Nat.le_refl _⟩
  rintro ⟨i, O, r, qc⟩ hI
  obtain ⟨i1, i2, i3, i4, i5, i6⟩ := hI.out
  dsimp only at i1 i2 i3 i4 i5 i6 ⊢
  refine ⟨fun hi => ⟨⟨by omega, by omega⟩, fun j hj => ⟨by omega, ?_⟩⟩, fun hi => ?_⟩
  · obtain ⟨p, hp⟩ : ∃ p, P[j]? = some p := ⟨_, List.getElem?_eq_getElem (show j < P.length by omega)⟩
    obtain ⟨f0, f1, f2, f3, f4⟩ := vl_fi hp
    rintro _ rfl _ rfl _ rfl _ rfl _ rfl
    refine ⟨⟨by omega, by omega⟩, trivial, by omega, by decide, fun L9 n10 c11 e9 e10 e11 z12 h12 => ?_⟩
    have e := iw h12 (by omega)
    refine ⟨(z12, (L9, (n10, c11))), ?_⟩
    repeat' (first | exact rfl | with_reducible apply And.intro)
    · rw [List.drop_zero, i4, List.take_length] at e9
      refine ⟨by dsimp only; omega, by dsimp only; omega, ?_, ?_, by dsimp only; omega, e11⟩
      · dsimp only
        rw [e9, e, show (i + 1).toNat = j + 1 by omega, List.take_add_one, hp, i3, show i.toNat = j by omega, f0, f1, f2, f3]
        unfold U.lks
        rw [List.map_append]; rfl
      · rw [e9, List.length_append, e10, i4]; rfl
    · dsimp only; omega
  · exact hK O r qc (by rw [i3, List.take_of_length_le (by omega)]) (by omega) i6
structure U.rEdg (kn : List Bool) (us : List Int) (P : VLP) (a b : Int) : Prop where
  up : U.rUp kn us a b
  no : ∀ p ∈ P, ¬ U.End p.2.v0 p.2.v1 p.2.v2 p.2.v3 a b
theorem rEdge_run (K : AV → St → Prop) (P : VLP) (k0 k1 k2 k3 k4 k5 k6 k7 k8 : Bool) (u0 u1 u2 u3 u4 u5 u6 u7 u8 : Int) (q rc : Nat) (a b : Int) (hq : q = P.length) (hs : q ≤ 100000) (hb : U.ubI [u0, u1, u2, u3, u4, u5, u6, u7, u8]) (h1 : U.rEdg [k0, k1, k2, k3, k4, k5, k6, k7, k8] [u0, u1, u2, u3, u4, u5, u6, u7, u8] P a b → K (lit (.bool true)) (rvSt [k0, k1, k2, k3, k4, k5, k6, k7, k8] [u0, u1, u2, u3, u4, u5, u6, u7, u8] q rc (U.vlvs P))) (h2 : ¬ U.rEdg [k0, k1, k2, k3, k4, k5, k6, k7, k8] [u0, u1, u2, u3, u4, u5, u6, u7, u8] P a b → K (lit (.bool false)) (rvSt [k0, k1, k2, k3, k4, k5, k6, k7, k8] [u0, u1, u2, u3, u4, u5, u6, u7, u8] q rc (U.vlvs P))) : runR (invR5 P a b) tR4 28 [ptr 0 0, plA a b] (rvSt [k0, k1, k2, k3, k4, k5, k6, k7, k8] [u0, u1, u2, u3, u4, u5, u6, u7, u8] q rc (U.vlvs P)) K := by
  rw [rEdge_vc]
  have hvl : (U.vlvs P).length = P.length := by simp [U.vlvs]
  intro z0 h0
  constructor
  · refine ⟨0, ?_⟩
    repeat' (first | exact rfl | with_reducible apply And.intro)
    exact ⟨by omega, by omega, fun m hm => by omega⟩
  rintro i hI
  obtain ⟨i1, i2, i3⟩ := hI.out
  refine ⟨fun hi => ⟨⟨by omega, by omega⟩, fun j hj => ⟨by omega, ?_⟩⟩, fun hi => ⟨⟨rfl, hb⟩, fun hu => h1 ⟨hu, fun p hp he => ?_⟩, fun hu => h2 fun h => hu h.up⟩⟩
  · obtain ⟨p, hp⟩ : ∃ p, P[j]? = some p := ⟨_, List.getElem?_eq_getElem (show j < P.length by omega)⟩
    obtain ⟨f0, f1, f2, f3, f4⟩ := vl_fi hp
    rw [f0, f1, f2, f3, f4]
    rintro _ rfl _ rfl _ rfl _ rfl _ rfl
    refine ⟨fun g => h2 fun h => h.no p (List.mem_of_getElem? hp) ⟨.inl ⟨g.1.symm, g.2.1.symm⟩⟩, fun g => ⟨fun g2 => h2 fun h => h.no p (List.mem_of_getElem? hp) ⟨.inr ⟨g2.1.symm, g2.2.1.symm⟩⟩, fun g2 z14 h14 => ?_⟩⟩
    have e14 := iw h14 (by omega)
    have hne : ¬ U.End p.2.v0 p.2.v1 p.2.v2 p.2.v3 a b := fun h => h.out.elim (fun h => g ⟨h.1.symm, h.2.symm, trivial⟩) fun h => g2 ⟨h.1.symm, h.2.symm, trivial⟩
    refine ⟨z14, ?_⟩
    repeat' (first | exact rfl | with_reducible apply And.intro)
    · refine ⟨by omega, by omega, fun m hm p' hpm => ?_⟩
      by_cases em : m = j
      · subst em
        rw [hp] at hpm
        cases hpm; exact hne
      · exact i3 m (by omega) p' hpm
    · omega
  · obtain ⟨m, hm⟩ := List.getElem?_of_mem hp
    have hml := (List.getElem?_eq_some_iff.1 hm).1
    exact i3 m (by omega) p hm he
structure U.poE (kn kn' : List Bool) (us us' : List Int) (sw up : Int) : Prop where
  k : kn' = kn.set sw.toNat true
  u : us' = us.set sw.toNat up
structure U.drE (kn kn' : List Bool) (us us' : List Int) (sw : Int) : Prop where
  out : ((1 ≤ sw ∧ sw ≤ 8) ∧ kn' = kn.set sw.toNat false ∧ us' = us.set sw.toNat 0) ∨ (¬ (1 ≤ sw ∧ sw ≤ 8) ∧ kn' = kn ∧ us' = us)
theorem ub_set {us : List Int} (h : U.ubI us) {k : Nat} {x : Int} (hx : 0 ≤ x ∧ x ≤ 255) : U.ubI (us.set k x) := ⟨fun u hu => by
  rcases List.mem_or_eq_of_mem_set hu with h1 | h1
  · exact h.out u h1
  · subst h1; exact hx⟩
def prLinks : Pat := fun args σ => match args with
  | [.inl (.inl (.inr (.inl (0, 0))))] => match rvC σ with
    | some (kn, us, q, rc, R) => some fun K => ∃ P : VLP, (rvD σ ∧ R = U.vlvs P ∧ q = U.vllen P ∧ q ≤ 100000) ∧ ∀ (O : Rws) (r c : Nat), O = U.lks P → r = q → r ≤ c → K (cell (rslC ⟨1, 4, 0, r, c⟩)) (rvO kn us q rc R O c)
    | _ => none
  | _ => none
theorem prLinks_ok : PatOk 29 prLinks := by
  intro tm σ C h K hK w0 e w hk vs hvs
  unfold prLinks at h
  split at h
  · split at h
    · rename_i kn us q rc R hσ
      simp only [Option.some.injEq] at h; subst h
      obtain ⟨P, ⟨hd, rfl, h1, h2⟩, hK⟩ := hK
      obtain ⟨rfl, l1, l2⟩ := rvC_eq hσ hd
      obtain ⟨k0, k1, k2, k3, k4, k5, k6, k7, k8, rfl⟩ := nine l1
      obtain ⟨u0, u1, u2, u3, u4, u5, u6, u7, u8, rfl⟩ := nine l2
      exact knownC noOv names (conOk_ofR tR4_ok) (rLinks_run K P k0 k1 k2 k3 k4 k5 k6 k7 k8 u0 u1 u2 u3 u4 u5 u6 u7 u8 q rc h1 h2 hK) w0 e w hk _ hvs
    · cases h
  · cases h
def prEdge : Pat := fun args σ => match args with
  | [.inl (.inl (.inr (.inl (0, 0)))), p] => match aPl p, rvC σ with
    | some (a, b), some (kn, us, q, rc, R) => some fun K => ∃ P : VLP, (rvD σ ∧ R = U.vlvs P ∧ q = U.vllen P ∧ q ≤ 100000 ∧ U.ubI us) ∧ (U.rEdg kn us P a b → K (lit (.bool true)) (rvSt kn us q rc R)) ∧ (¬ U.rEdg kn us P a b → K (lit (.bool false)) (rvSt kn us q rc R))
    | _, _ => none
  | _ => none
theorem prEdge_ok : PatOk 28 prEdge := by
  intro tm σ C h K hK w0 e w hk vs hvs
  unfold prEdge at h
  split at h
  · split at h
    · rename_i a b kn us q rc R hp hσ
      simp only [Option.some.injEq] at h; subst h
      obtain ⟨P, ⟨hd, rfl, h1, h2, h3⟩, hT, hF⟩ := hK
      obtain ⟨rfl, l1, l2⟩ := rvC_eq hσ hd
      obtain ⟨k0, k1, k2, k3, k4, k5, k6, k7, k8, rfl⟩ := nine l1
      obtain ⟨u0, u1, u2, u3, u4, u5, u6, u7, u8, rfl⟩ := nine l2
      obtain ⟨x, y, rfl, q1, q2⟩ := twos hvs
      exact knownC noOv names (conOk_ofR tR4_ok) (rEdge_run K P k0 k1 k2 k3 k4 k5 k6 k7 k8 u0 u1 u2 u3 u4 u5 u6 u7 u8 q rc a b h1 h2 h3 hT hF) w0 e w hk _ (map2 q1 (aPl_av hp q2))
    · cases h
  · cases h
def prAge : Pat := fun args σ => match args with
  | [.inl (.inl (.inr (.inl (0, 0)))), x, y] => match aInt x, aInt y, rvC σ with
    | some now, some most, some (kn, us, q, rc, R) => some fun K => ∃ P : VLP, (rvD σ ∧ R = U.vlvs P ∧ q = U.vllen P ∧ q ≤ 100000) ∧ ∀ (G : Rws) (gq gc hq hc : Nat), G = U.lks (U.gone (U.fAge now most) P) → gq = U.vllen (U.gone (U.fAge now most) P) → gq ≤ gc → hq = U.vllen (U.rest (U.fAge now most) P) → hq ≤ hc → K (cell (rslC ⟨1, 4, 0, gq, gc⟩)) (rvN kn us R rc G gc hq (U.vlvs (U.rest (U.fAge now most) P)) hc)
    | _, _, _ => none
  | _ => none
theorem prAge_ok : PatOk 26 prAge := by
  intro tm σ C h K hK w0 e w hk vs hvs
  unfold prAge at h
  split at h
  · split at h
    · rename_i now most kn us q rc R hx hy hσ
      simp only [Option.some.injEq] at h; subst h
      obtain ⟨P, ⟨hd, rfl, h1, h2⟩, hK⟩ := hK
      obtain ⟨rfl, l1, l2⟩ := rvC_eq hσ hd
      obtain ⟨k0, k1, k2, k3, k4, k5, k6, k7, k8, rfl⟩ := nine l1
      obtain ⟨u0, u1, u2, u3, u4, u5, u6, u7, u8, rfl⟩ := nine l2
      obtain ⟨x, y, z, rfl, q1, q2, q3⟩ := threes hvs
      exact knownC noOv names (conOk_ofR tR4_ok) (show runR inv0 tR4 26 [ptr 0 0, xi .i64 now, xi .i64 most] (rvSt [k0, k1, k2, k3, k4, k5, k6, k7, k8] [u0, u1, u2, u3, u4, u5, u6, u7, u8] q rc (U.vlvs P)) K by
        rw [rAge_vc]
        refine ⟨P, ?_, ?_⟩
        · repeat' (first | exact rfl | exact h1 | exact h2 | with_reducible apply And.intro)
        · exact hK) w0 e w hk _ (map3 q1 (as_aInt hx q2) (as_aInt hy q3))
    · cases h
  · cases h
def prPorts : Pat := fun args σ => match args with
  | [.inl (.inl (.inr (.inl (0, 0)))), x, y] => match aInt x, aInt y, rvC σ with
    | some sw, some up, some (kn, us, q, rc, R) => some fun K => ∃ P : VLP, (rvD σ ∧ R = U.vlvs P ∧ q = U.vllen P ∧ q ≤ 100000 ∧ U.ubI us) ∧ (U.badP sw up → K (cell (rslC ⟨1, 4, 0, 0, 0⟩)) (rvO kn us q rc R [] 0)) ∧ (¬ U.badP sw up → ∀ (x0 x1 x2 x3 x4 x5 x6 x7 x8 : Bool) (y0 y1 y2 y3 y4 y5 y6 y7 y8 : Int), U.poE kn [x0, x1, x2, x3, x4, x5, x6, x7, x8] us [y0, y1, y2, y3, y4, y5, y6, y7, y8] sw up → ∀ (G : Rws) (gq gc hq hc : Nat), G = U.lks (U.gone (U.fBrkR [x0, x1, x2, x3, x4, x5, x6, x7, x8] [y0, y1, y2, y3, y4, y5, y6, y7, y8]) P) → gq = U.vllen (U.gone (U.fBrkR [x0, x1, x2, x3, x4, x5, x6, x7, x8] [y0, y1, y2, y3, y4, y5, y6, y7, y8]) P) → gq ≤ gc → hq = U.vllen (U.rest (U.fBrkR [x0, x1, x2, x3, x4, x5, x6, x7, x8] [y0, y1, y2, y3, y4, y5, y6, y7, y8]) P) → hq ≤ hc → K (cell (rslC ⟨1, 4, 0, gq, gc⟩)) (rvN [x0, x1, x2, x3, x4, x5, x6, x7, x8] [y0, y1, y2, y3, y4, y5, y6, y7, y8] R rc G gc hq (U.vlvs (U.rest (U.fBrkR [x0, x1, x2, x3, x4, x5, x6, x7, x8] [y0, y1, y2, y3, y4, y5, y6, y7, y8]) P)) hc))
    | _, _, _ => none
  | _ => none
theorem prPorts_ok : PatOk 23 prPorts := by
  intro tm σ C h K hK w0 e w hk vs hvs
  unfold prPorts at h
  split at h
  · split at h
    · rename_i sw up kn us q rc R hx hy hσ
      simp only [Option.some.injEq] at h; subst h
      obtain ⟨P, ⟨hd, rfl, h1, h2, h3⟩, hA, hB⟩ := hK
      obtain ⟨rfl, l1, l2⟩ := rvC_eq hσ hd
      obtain ⟨k0, k1, k2, k3, k4, k5, k6, k7, k8, rfl⟩ := nine l1
      obtain ⟨u0, u1, u2, u3, u4, u5, u6, u7, u8, rfl⟩ := nine l2
      obtain ⟨x, y, z, rfl, q1, q2, q3⟩ := threes hvs
      have hv3 := map3 q1 (as_aInt hx q2) (as_aInt hy q3)
      by_cases hb : U.badP sw up
      · have hA := hA hb
        have hb' := hb.out
        exact knownC noOv names (conOk_ofR tR4_ok) (show runR inv0 tR4 23 [ptr 0 0, xi .i64 sw, xi .i64 up] (rvSt [k0, k1, k2, k3, k4, k5, k6, k7, k8] [u0, u1, u2, u3, u4, u5, u6, u7, u8] q rc (U.vlvs P)) K by
          rw [rPortsB_vc]
          exact ⟨fun _ => hA, fun g1 => ⟨fun _ => hA, fun g2 => ⟨fun _ => hA, fun g3 => ⟨fun _ => hA, fun g4 => absurd hb' (by omega)⟩⟩⟩⟩) w0 e w hk _ hv3
      · have hB := hB hb
        have hr : 1 ≤ sw ∧ sw ≤ 8 ∧ 0 ≤ up ∧ up ≤ 255 := ⟨Int.not_lt.1 fun g => hb ⟨.inl g⟩, Int.not_lt.1 fun g => hb ⟨.inr (.inl g)⟩, Int.not_lt.1 fun g => hb ⟨.inr (.inr (.inl g))⟩, Int.not_lt.1 fun g => hb ⟨.inr (.inr (.inr g))⟩⟩
        by_cases e1 : sw = 1
        · subst e1
          exact knownC noOv names (conOk_ofR tR4_ok) (show runR inv0 tR4 23 [ptr 0 0, .inl (.inl (.inl (.int .i64 1))), xi .i64 up] (rvSt [k0, k1, k2, k3, k4, k5, k6, k7, k8] [u0, u1, u2, u3, u4, u5, u6, u7, u8] q rc (U.vlvs P)) K by
            rw [rPorts1_vc]
            refine ⟨fun g => absurd hr (by omega), fun _ => ⟨fun g => absurd hr (by omega), fun _ => ?_⟩⟩
            repeat (refine ⟨rfl, ?_⟩)
            refine ⟨P, ?_, ?_⟩
            · repeat' (first | exact rfl | exact h1 | exact h2 | exact ub_set h3 (k := 1) hr.2.2 | with_reducible apply And.intro)
            · exact hB k0 true k2 k3 k4 k5 k6 k7 k8 u0 up u2 u3 u4 u5 u6 u7 u8 ⟨rfl, rfl⟩) w0 e w hk _ hv3
        by_cases e2 : sw = 2
        · subst e2
          exact knownC noOv names (conOk_ofR tR4_ok) (show runR inv0 tR4 23 [ptr 0 0, .inl (.inl (.inl (.int .i64 2))), xi .i64 up] (rvSt [k0, k1, k2, k3, k4, k5, k6, k7, k8] [u0, u1, u2, u3, u4, u5, u6, u7, u8] q rc (U.vlvs P)) K by
            rw [rPorts2_vc]
            refine ⟨fun g => absurd hr (by omega), fun _ => ⟨fun g => absurd hr (by omega), fun _ => ?_⟩⟩
            repeat (refine ⟨rfl, ?_⟩)
            refine ⟨P, ?_, ?_⟩
            · repeat' (first | exact rfl | exact h1 | exact h2 | exact ub_set h3 (k := 2) hr.2.2 | with_reducible apply And.intro)
            · exact hB k0 k1 true k3 k4 k5 k6 k7 k8 u0 u1 up u3 u4 u5 u6 u7 u8 ⟨rfl, rfl⟩) w0 e w hk _ hv3
        by_cases e3 : sw = 3
        · subst e3
          exact knownC noOv names (conOk_ofR tR4_ok) (show runR inv0 tR4 23 [ptr 0 0, .inl (.inl (.inl (.int .i64 3))), xi .i64 up] (rvSt [k0, k1, k2, k3, k4, k5, k6, k7, k8] [u0, u1, u2, u3, u4, u5, u6, u7, u8] q rc (U.vlvs P)) K by
            rw [rPorts3_vc]
            refine ⟨fun g => absurd hr (by omega), fun _ => ⟨fun g => absurd hr (by omega), fun _ => ?_⟩⟩
            repeat (refine ⟨rfl, ?_⟩)
            refine ⟨P, ?_, ?_⟩
            · repeat' (first | exact rfl | exact h1 | exact h2 | exact ub_set h3 (k := 3) hr.2.2 | with_reducible apply And.intro)
            · exact hB k0 k1 k2 true k4 k5 k6 k7 k8 u0 u1 u2 up u4 u5 u6 u7 u8 ⟨rfl, rfl⟩) w0 e w hk _ hv3
        by_cases e4 : sw = 4
        · subst e4
          exact knownC noOv names (conOk_ofR tR4_ok) (show runR inv0 tR4 23 [ptr 0 0, .inl (.inl (.inl (.int .i64 4))), xi .i64 up] (rvSt [k0, k1, k2, k3, k4, k5, k6, k7, k8] [u0, u1, u2, u3, u4, u5, u6, u7, u8] q rc (U.vlvs P)) K by
            rw [rPorts4_vc]
            refine ⟨fun g => absurd hr (by omega), fun _ => ⟨fun g => absurd hr (by omega), fun _ => ?_⟩⟩
            repeat (refine ⟨rfl, ?_⟩)
            refine ⟨P, ?_, ?_⟩
            · repeat' (first | exact rfl | exact h1 | exact h2 | exact ub_set h3 (k := 4) hr.2.2 | with_reducible apply And.intro)
            · exact hB k0 k1 k2 k3 true k5 k6 k7 k8 u0 u1 u2 u3 up u5 u6 u7 u8 ⟨rfl, rfl⟩) w0 e w hk _ hv3
        by_cases e5 : sw = 5
        · subst e5
          exact knownC noOv names (conOk_ofR tR4_ok) (show runR inv0 tR4 23 [ptr 0 0, .inl (.inl (.inl (.int .i64 5))), xi .i64 up] (rvSt [k0, k1, k2, k3, k4, k5, k6, k7, k8] [u0, u1, u2, u3, u4, u5, u6, u7, u8] q rc (U.vlvs P)) K by
            rw [rPorts5_vc]
            refine ⟨fun g => absurd hr (by omega), fun _ => ⟨fun g => absurd hr (by omega), fun _ => ?_⟩⟩
            repeat (refine ⟨rfl, ?_⟩)
            refine ⟨P, ?_, ?_⟩
            · repeat' (first | exact rfl | exact h1 | exact h2 | exact ub_set h3 (k := 5) hr.2.2 | with_reducible apply And.intro)
            · exact hB k0 k1 k2 k3 k4 true k6 k7 k8 u0 u1 u2 u3 u4 up u6 u7 u8 ⟨rfl, rfl⟩) w0 e w hk _ hv3
        by_cases e6 : sw = 6
        · subst e6
          exact knownC noOv names (conOk_ofR tR4_ok) (show runR inv0 tR4 23 [ptr 0 0, .inl (.inl (.inl (.int .i64 6))), xi .i64 up] (rvSt [k0, k1, k2, k3, k4, k5, k6, k7, k8] [u0, u1, u2, u3, u4, u5, u6, u7, u8] q rc (U.vlvs P)) K by
            rw [rPorts6_vc]
            refine ⟨fun g => absurd hr (by omega), fun _ => ⟨fun g => absurd hr (by omega), fun _ => ?_⟩⟩
            repeat (refine ⟨rfl, ?_⟩)
            refine ⟨P, ?_, ?_⟩
            · repeat' (first | exact rfl | exact h1 | exact h2 | exact ub_set h3 (k := 6) hr.2.2 | with_reducible apply And.intro)
            · exact hB k0 k1 k2 k3 k4 k5 true k7 k8 u0 u1 u2 u3 u4 u5 up u7 u8 ⟨rfl, rfl⟩) w0 e w hk _ hv3
        by_cases e7 : sw = 7
        · subst e7
          exact knownC noOv names (conOk_ofR tR4_ok) (show runR inv0 tR4 23 [ptr 0 0, .inl (.inl (.inl (.int .i64 7))), xi .i64 up] (rvSt [k0, k1, k2, k3, k4, k5, k6, k7, k8] [u0, u1, u2, u3, u4, u5, u6, u7, u8] q rc (U.vlvs P)) K by
            rw [rPorts7_vc]
            refine ⟨fun g => absurd hr (by omega), fun _ => ⟨fun g => absurd hr (by omega), fun _ => ?_⟩⟩
            repeat (refine ⟨rfl, ?_⟩)
            refine ⟨P, ?_, ?_⟩
            · repeat' (first | exact rfl | exact h1 | exact h2 | exact ub_set h3 (k := 7) hr.2.2 | with_reducible apply And.intro)
            · exact hB k0 k1 k2 k3 k4 k5 k6 true k8 u0 u1 u2 u3 u4 u5 u6 up u8 ⟨rfl, rfl⟩) w0 e w hk _ hv3
        by_cases e8 : sw = 8
        · subst e8
          exact knownC noOv names (conOk_ofR tR4_ok) (show runR inv0 tR4 23 [ptr 0 0, .inl (.inl (.inl (.int .i64 8))), xi .i64 up] (rvSt [k0, k1, k2, k3, k4, k5, k6, k7, k8] [u0, u1, u2, u3, u4, u5, u6, u7, u8] q rc (U.vlvs P)) K by
            rw [rPorts8_vc]
            refine ⟨fun g => absurd hr (by omega), fun _ => ⟨fun g => absurd hr (by omega), fun _ => ?_⟩⟩
            repeat (refine ⟨rfl, ?_⟩)
            refine ⟨P, ?_, ?_⟩
            · repeat' (first | exact rfl | exact h1 | exact h2 | exact ub_set h3 (k := 8) hr.2.2 | with_reducible apply And.intro)
            · exact hB k0 k1 k2 k3 k4 k5 k6 k7 true u0 u1 u2 u3 u4 u5 u6 u7 up ⟨rfl, rfl⟩) w0 e w hk _ hv3
        omega
    · cases h
  · cases h
def prDrop : Pat := fun args σ => match args with
  | [.inl (.inl (.inr (.inl (0, 0)))), x] => match aInt x, rvC σ with
    | some sw, some (kn, us, q, rc, R) => some fun K => ∃ P : VLP, (rvD σ ∧ R = U.vlvs P ∧ q = U.vllen P ∧ q ≤ 100000) ∧ ∀ (x0 x1 x2 x3 x4 x5 x6 x7 x8 : Bool) (y0 y1 y2 y3 y4 y5 y6 y7 y8 : Int), U.drE kn [x0, x1, x2, x3, x4, x5, x6, x7, x8] us [y0, y1, y2, y3, y4, y5, y6, y7, y8] sw → ∀ (G : Rws) (gq gc hq hc : Nat), G = U.lks (U.gone (U.fSw sw) P) → gq = U.vllen (U.gone (U.fSw sw) P) → gq ≤ gc → hq = U.vllen (U.rest (U.fSw sw) P) → hq ≤ hc → K (cell (rslC ⟨1, 4, 0, gq, gc⟩)) (rvN [x0, x1, x2, x3, x4, x5, x6, x7, x8] [y0, y1, y2, y3, y4, y5, y6, y7, y8] R rc G gc hq (U.vlvs (U.rest (U.fSw sw) P)) hc)
    | _, _ => none
  | _ => none
theorem prDrop_ok : PatOk 25 prDrop := by
  intro tm σ C h K hK w0 e w hk vs hvs
  unfold prDrop at h
  split at h
  · split at h
    · rename_i sw kn us q rc R hx hσ
      simp only [Option.some.injEq] at h; subst h
      obtain ⟨P, ⟨hd, rfl, h1, h2⟩, hB⟩ := hK
      obtain ⟨rfl, l1, l2⟩ := rvC_eq hσ hd
      obtain ⟨k0, k1, k2, k3, k4, k5, k6, k7, k8, rfl⟩ := nine l1
      obtain ⟨u0, u1, u2, u3, u4, u5, u6, u7, u8, rfl⟩ := nine l2
      obtain ⟨x, y, rfl, q1, q2⟩ := twos hvs
      have hv3 := map2 q1 (as_aInt hx q2)
      by_cases hr : 1 ≤ sw ∧ sw ≤ 8
      · clear hd hσ
        by_cases e1 : sw = 1
        · subst e1
          exact knownC noOv names (conOk_ofR tR4_ok) (show runR inv0 tR4 25 [ptr 0 0, .inl (.inl (.inl (.int .i64 1)))] (rvSt [k0, k1, k2, k3, k4, k5, k6, k7, k8] [u0, u1, u2, u3, u4, u5, u6, u7, u8] q rc (U.vlvs P)) K by
            rw [rDrop1_vc]
            repeat (refine ⟨rfl, ?_⟩)
            refine ⟨P, ?_, ?_⟩
            · repeat' (first | exact rfl | exact h1 | exact h2 | with_reducible apply And.intro)
            · exact hB k0 false k2 k3 k4 k5 k6 k7 k8 u0 0 u2 u3 u4 u5 u6 u7 u8 ⟨.inl ⟨hr, rfl, rfl⟩⟩) w0 e w hk _ hv3
        by_cases e2 : sw = 2
        · subst e2
          exact knownC noOv names (conOk_ofR tR4_ok) (show runR inv0 tR4 25 [ptr 0 0, .inl (.inl (.inl (.int .i64 2)))] (rvSt [k0, k1, k2, k3, k4, k5, k6, k7, k8] [u0, u1, u2, u3, u4, u5, u6, u7, u8] q rc (U.vlvs P)) K by
            rw [rDrop2_vc]
            repeat (refine ⟨rfl, ?_⟩)
            refine ⟨P, ?_, ?_⟩
            · repeat' (first | exact rfl | exact h1 | exact h2 | with_reducible apply And.intro)
            · exact hB k0 k1 false k3 k4 k5 k6 k7 k8 u0 u1 0 u3 u4 u5 u6 u7 u8 ⟨.inl ⟨hr, rfl, rfl⟩⟩) w0 e w hk _ hv3
        by_cases e3 : sw = 3
        · subst e3
          exact knownC noOv names (conOk_ofR tR4_ok) (show runR inv0 tR4 25 [ptr 0 0, .inl (.inl (.inl (.int .i64 3)))] (rvSt [k0, k1, k2, k3, k4, k5, k6, k7, k8] [u0, u1, u2, u3, u4, u5, u6, u7, u8] q rc (U.vlvs P)) K by
            rw [rDrop3_vc]
            repeat (refine ⟨rfl, ?_⟩)
            refine ⟨P, ?_, ?_⟩
            · repeat' (first | exact rfl | exact h1 | exact h2 | with_reducible apply And.intro)
            · exact hB k0 k1 k2 false k4 k5 k6 k7 k8 u0 u1 u2 0 u4 u5 u6 u7 u8 ⟨.inl ⟨hr, rfl, rfl⟩⟩) w0 e w hk _ hv3
        by_cases e4 : sw = 4
        · subst e4
          exact knownC noOv names (conOk_ofR tR4_ok) (show runR inv0 tR4 25 [ptr 0 0, .inl (.inl (.inl (.int .i64 4)))] (rvSt [k0, k1, k2, k3, k4, k5, k6, k7, k8] [u0, u1, u2, u3, u4, u5, u6, u7, u8] q rc (U.vlvs P)) K by
            rw [rDrop4_vc]
            repeat (refine ⟨rfl, ?_⟩)
            refine ⟨P, ?_, ?_⟩
            · repeat' (first | exact rfl | exact h1 | exact h2 | with_reducible apply And.intro)
            · exact hB k0 k1 k2 k3 false k5 k6 k7 k8 u0 u1 u2 u3 0 u5 u6 u7 u8 ⟨.inl ⟨hr, rfl, rfl⟩⟩) w0 e w hk _ hv3
        by_cases e5 : sw = 5
        · subst e5
          exact knownC noOv names (conOk_ofR tR4_ok) (show runR inv0 tR4 25 [ptr 0 0, .inl (.inl (.inl (.int .i64 5)))] (rvSt [k0, k1, k2, k3, k4, k5, k6, k7, k8] [u0, u1, u2, u3, u4, u5, u6, u7, u8] q rc (U.vlvs P)) K by
            rw [rDrop5_vc]
            repeat (refine ⟨rfl, ?_⟩)
            refine ⟨P, ?_, ?_⟩
            · repeat' (first | exact rfl | exact h1 | exact h2 | with_reducible apply And.intro)
            · exact hB k0 k1 k2 k3 k4 false k6 k7 k8 u0 u1 u2 u3 u4 0 u6 u7 u8 ⟨.inl ⟨hr, rfl, rfl⟩⟩) w0 e w hk _ hv3
        by_cases e6 : sw = 6
        · subst e6
          exact knownC noOv names (conOk_ofR tR4_ok) (show runR inv0 tR4 25 [ptr 0 0, .inl (.inl (.inl (.int .i64 6)))] (rvSt [k0, k1, k2, k3, k4, k5, k6, k7, k8] [u0, u1, u2, u3, u4, u5, u6, u7, u8] q rc (U.vlvs P)) K by
            rw [rDrop6_vc]
            repeat (refine ⟨rfl, ?_⟩)
            refine ⟨P, ?_, ?_⟩
            · repeat' (first | exact rfl | exact h1 | exact h2 | with_reducible apply And.intro)
            · exact hB k0 k1 k2 k3 k4 k5 false k7 k8 u0 u1 u2 u3 u4 u5 0 u7 u8 ⟨.inl ⟨hr, rfl, rfl⟩⟩) w0 e w hk _ hv3
        by_cases e7 : sw = 7
        · subst e7
          exact knownC noOv names (conOk_ofR tR4_ok) (show runR inv0 tR4 25 [ptr 0 0, .inl (.inl (.inl (.int .i64 7)))] (rvSt [k0, k1, k2, k3, k4, k5, k6, k7, k8] [u0, u1, u2, u3, u4, u5, u6, u7, u8] q rc (U.vlvs P)) K by
            rw [rDrop7_vc]
            repeat (refine ⟨rfl, ?_⟩)
            refine ⟨P, ?_, ?_⟩
            · repeat' (first | exact rfl | exact h1 | exact h2 | with_reducible apply And.intro)
            · exact hB k0 k1 k2 k3 k4 k5 k6 false k8 u0 u1 u2 u3 u4 u5 u6 0 u8 ⟨.inl ⟨hr, rfl, rfl⟩⟩) w0 e w hk _ hv3
        by_cases e8 : sw = 8
        · subst e8
          exact knownC noOv names (conOk_ofR tR4_ok) (show runR inv0 tR4 25 [ptr 0 0, .inl (.inl (.inl (.int .i64 8)))] (rvSt [k0, k1, k2, k3, k4, k5, k6, k7, k8] [u0, u1, u2, u3, u4, u5, u6, u7, u8] q rc (U.vlvs P)) K by
            rw [rDrop8_vc]
            repeat (refine ⟨rfl, ?_⟩)
            refine ⟨P, ?_, ?_⟩
            · repeat' (first | exact rfl | exact h1 | exact h2 | with_reducible apply And.intro)
            · exact hB k0 k1 k2 k3 k4 k5 k6 k7 false u0 u1 u2 u3 u4 u5 u6 u7 0 ⟨.inl ⟨hr, rfl, rfl⟩⟩) w0 e w hk _ hv3
        omega
      · have hB := hB k0 k1 k2 k3 k4 k5 k6 k7 k8 u0 u1 u2 u3 u4 u5 u6 u7 u8 ⟨.inr ⟨hr, rfl, rfl⟩⟩
        exact knownC noOv names (conOk_ofR tR4_ok) (show runR inv0 tR4 25 [ptr 0 0, xi .i64 sw] (rvSt [k0, k1, k2, k3, k4, k5, k6, k7, k8] [u0, u1, u2, u3, u4, u5, u6, u7, u8] q rc (U.vlvs P)) K by
          rw [rDropB_vc]
          refine ⟨fun g1 => ⟨fun g2 => absurd ⟨g1, g2⟩ hr, fun g2 => ?_⟩, fun g1 => ?_⟩
          all_goals
            repeat (refine ⟨rfl, ?_⟩)
            refine ⟨P, ?_, ?_⟩
            · repeat' (first | exact rfl | exact h1 | exact h2 | with_reducible apply And.intro)
            · exact hB) w0 e w hk _ hv3
    · cases h
  · cases h
def tR6 : Tbl := tblOr (tblIf 13 pLess) (tblOr (tblIf 22 prSame) (tblOr (tblIf 29 prLinks) (tblOr (tblIf 28 prEdge) (tblOr (tblIf 26 prAge) (tblOr (tblIf 23 prPorts) (tblOr (tblIf 25 prDrop) tR4))))))
theorem tR6_ok : TblOk Try.prog tR6 := tblOr_ok (tblIf_ok pLess_ok) (tblOr_ok (tblIf_ok prSame_ok) (tblOr_ok (tblIf_ok prLinks_ok) (tblOr_ok (tblIf_ok prEdge_ok) (tblOr_ok (tblIf_ok prAge_ok) (tblOr_ok (tblIf_ok prPorts_ok) (tblOr_ok (tblIf_ok prDrop_ok) tR4_ok))))))
end Go.Proofs.Ytfhgnngdbbgogaa
end
section
namespace Go.Proofs.Ytfhgnngdbbgogaa
open Go Reck Ost
set_option linter.unusedVariables false
set_option maxRecDepth 100000
def boxPl (σ : St) (tm : List AV) (t : Nat) : Int × Int := match tm.getD t (lit undef) with
  | .inl (.inl (.inr (.inl (b, _)))) => (match getBlk σ b with
    | some ⟨_, [x, y], _, _, _⟩ => (match cInt x, cInt y with
      | some x, some y => (x, y)
      | _, _ => (0, 0))
    | _ => (0, 0))
  | _ => (0, 0)
structure U.lsI (P : VLP) (x y x' y' i : Int) : Prop where
  out : 0 ≤ i ∧ i ≤ P.length ∧ ∀ m : Nat, (m : Int) < i → ∀ p, P[m]? = some p → ¬ ((p.2.v0 = x ∧ p.2.v1 = y) ∧ p.2.v2 = x' ∧ p.2.v3 = y')
def lsInv (P : VLP) (tm : List AV) (σ : St) : Inv where
  X := Int
  tags := [0]
  tag _ _ := 0
  J := [1,2,4,5,6,7,8,9,12,13,14,15,16,17,18,19,20,21,22,23,24,25,26,27,28,29,30,31,32,33,34,35,36,37,38,39,40,41,42,43,47,48,49,50,51,52,53,54,55,56,57,58,59,60,61,62,63,64,65,66,67,68,69,70,71,72,73,74,75,76,77,78,79,80,81,82,83,84,85,86,87,88,89,90,91,92,93,94,95,96,97,98,99,100,101,102,103,104,105,106,107,108,109,110,111,112,113,114,115,116]
  val _ x := [(46, xi .i64 x)]
  st _ _ σ' := σ'
  I _ x := U.lsI P (boxPl σ tm 10).1 (boxPl σ tm 10).2 (boxPl σ tm 11).1 (boxPl σ tm 11).2 x
  m _ x := ((slotR tm 44).n : Int).toNat - x.toNat
  ren := noRen
structure U.inI (Q : VLP) (x y x' y' now : Int) (t : Nat) (i : Int) (O : Rws) (q c : Nat) : Prop where
  out : (0 ≤ i ∧ i ≤ Q.length) ∧ q = O.length ∧ q ≤ c ∧ (q : Int) ≤ i + 1
  no : t = 0 → O = U.vlvs (Q.take i.toNat) ∧ ∀ m : Nat, (m : Int) < i → ∀ p, Q[m]? = some p → ¬ U.Lss x y p.2.v0 p.2.v1
  yes : t = 1 → ∃ z : Nat, (z : Int) < i ∧ (∀ m : Nat, m < z → ∀ p, Q[m]? = some p → ¬ U.Lss x y p.2.v0 p.2.v1) ∧ (∀ p, Q[z]? = some p → U.Lss x y p.2.v0 p.2.v1) ∧ O = U.vlvs (Q.take z ++ [(0, ⟨x, y, x', y', now⟩)] ++ (Q.take i.toNat).drop z)
def inInv (Q : VLP) (now : Int) (tm : List AV) (σ : St) : Inv where
  X := Int × XP
  tags := [0, 1]
  tag := boolAt 16
  J := [1,2,4,5,6,7,8,9,12,13,17,18,19,20,21,22,23,24,25,26,27,28,29,30,31,32,33,34,35,36,37,38,39,40,41,42,43,44,45,46,47,48,49,50,51,52,53,54,55,56,57,58,59,60,61,62,63,64,65,66,67,68,69,70,71,72,73,74,75,76,80,81,82,83,84,85,86,87,88,89,90,91,92,93,94,95,96,97,98,99,100,101,102,103,104,105,106,107,108,109,110,111,112,113,114,115,116]
  val t x := [(79, xi .i64 x.1), (16, tagB t), (15, cell (rslC ⟨σ.arrs.length, 5, 0, x.2.2.1, x.2.2.2⟩))]
  st _ x σ' := ⟨σ'.heap, σ'.ints, σ'.opqs, σ'.arrs.dropLast ++ [some (snB x.2.1 x.2.2.2)], σ'.junks⟩
  I t x := U.inI Q (boxPl σ tm 10).1 (boxPl σ tm 10).2 (boxPl σ tm 11).1 (boxPl σ tm 11).2 now t x.1 x.2.1 x.2.2.1 x.2.2.2
  m _ x := ((slotR tm 77).n : Int).toNat - x.1.toNat
  ren tm' σ' := ([], [(slotR tm' 15).a])
def invR7 (P Q : VLP) (now : Int) : InvF := fun c tm σ => match tm.length, firstReg c with
  | 117, some 7 => some (lsInv P tm σ)
  | 117, some 17 => some (inInv Q now tm σ)
  | _, _ => none
def isSeq : Code → Bool
  | .seq _ _ => true
  | _ => false
structure U.or2 (a b a' b' x y x' y' : Int) : Prop where
  out : (U.Lss a' b' a b ∧ x = a' ∧ y = b' ∧ x' = a ∧ y' = b) ∨ (¬ U.Lss a' b' a b ∧ x = a ∧ y = b ∧ x' = a' ∧ y' = b')
def plBlk (σ : St) (tm : List AV) (t : Nat) (x y : Int) (H : List (Option Blk)) : List (Option Blk) := match tm.getD t (lit undef) with
  | .inl (.inl (.inr (.inl (b, _)))) => H.set b (some ⟨32, [xintC .i64 x, xintC .i64 y], none, 2, false⟩)
  | _ => H
def orInv (tm : List AV) (σ : St) : Inv where
  X := (Int × Int) × (Int × Int)
  tags := [0]
  tag _ _ := 0
  J := [1,2,4,7,8,9,12,13,14,15,16,17,18,19,20,21,22,23,24,25,26,27,28,29,30,31,32,33,34,35,36,37,38,39,40,41,42,43,44,45,46,47,48,49,50,51,52,53,54,55,56,57,58,59,60,61,62,63,64,65,66,67,68,69,70,71,72,73,74,75,76,77,78,79,80,81,82,83,84,85,86,87,88,89,90,91,92,93,94,95,96,97,98,99,100,101,102,103,104,105,106,107,108,109,110,111,112,113,114,115,116]
  val _ _ := []
  st _ x σ' := ⟨plBlk σ' tm 10 x.1.1 x.1.2 (plBlk σ' tm 11 x.2.1 x.2.2 σ'.heap), σ'.ints, σ'.opqs, σ'.arrs, σ'.junks⟩
  I _ x := U.or2 (boxPl σ tm 5).1 (boxPl σ tm 5).2 (boxPl σ tm 6).1 (boxPl σ tm 6).2 x.1.1 x.1.2 x.2.1 x.2.2
  m _ _ := 0
  ren := noRen
def meetR7 : InvF := fun c tm σ => match tm.length, firstReg c, isSeq c with
  | 117, some 4, true => some (orInv tm σ)
  | _, _, _ => none
abbrev runM (inv mt : InvF) (tbl : Tbl) (f : Nat) (args : List AV) (σ : St) (K : AV → St → Prop) : Prop := goT Try.prog [] (orcR inv mt tbl) (opMem Try.prog) 3000 (.inr (.inr (.inr (.inr f)))) args σ (retC σ K)
theorem rLearn_vc (K:AV→St→Prop) (P Q:VLP) (k0 k1 k2 k3 k4 k5 k6 k7 k8:Bool) (u0 u1 u2 u3 u4 u5 u6 u7 u8:Int) (q rc:Nat) (R:Rws) (a b a' b' now:Int):(runM (invR7 P Q now) meetR7 tR6 24 [ptr 0 0,plA a b,plA a' b',xi .i64 now] (rvSt [k0,k1,k2,k3,k4,k5,k6,k7,k8] [u0,u1,u2,u3,u4,u5,u6,u7,u8] q rc R) K)=((a=a'∧b=b'∧True→K (Sum.inr [Sum.inl (rslC ⟨1,(3:Nat) + (1:Nat),0,0,0⟩),Sum.inl (Sum.inl (Value.bool false))]) ⟨[rvB [k0,k1,k2,k3,k4,k5,k6,k7,k8] [u0,u1,u2,u3,u4,u5,u6,u7,u8] (rslC ⟨0,5,0,q,rc⟩)],[],0,[some (snB R rc),some (liB U.nilL 0)],0⟩)∧(¬(a=a'∧b=b'∧True)→(rc=rc∧U.ubI [u0,u1,u2,u3,u4,u5,u6,u7,u8])∧(U.rUp [k0,k1,k2,k3,k4,k5,k6,k7,k8] [u0,u1,u2,u3,u4,u5,u6,u7,u8] a b→(rc=rc∧U.ubI [u0,u1,u2,u3,u4,u5,u6,u7,u8])∧(U.rUp [k0,k1,k2,k3,k4,k5,k6,k7,k8] [u0,u1,u2,u3,u4,u5,u6,u7,u8] a' b'→(a'=a'∧b'=b'∧a=a∧b=b∧a'=a'∧b'=b'∧a=a∧b=b∧a'=a'∧b'=b'∧((U.Lss a' b' a b→a=a∧b=b∧∃ (y0:(Int × Int) × Int × Int),now=now∧k0=k0∧k1=k1∧k2=k2∧k3=k3∧k4=k4∧k5=k5∧k6=k6∧k7=k7∧k8=k8∧u0=u0∧u1=u1∧u2=u2∧u3=u3∧u4=u4∧u5=u5∧u6=u6∧u7=u7∧u8=u8∧((0:Nat)=0∧q=q∧rc=rc)∧a=a∧b=b∧a'=a'∧b'=b'∧a'=y0.1.1∧b'=y0.1.2∧a=y0.2.1∧b=y0.2.2∧(R=R∧rc=rc∧false=false)∧(U.nilL=U.nilL∧(0:Nat)=0∧false=false)∧U.or2 a b a' b' y0.1.1 y0.1.2 y0.2.1 y0.2.2)∧(¬U.Lss a' b' a b→∃ (y1:(Int × Int) × Int × Int),now=now∧k0=k0∧k1=k1∧k2=k2∧k3=k3∧k4=k4∧k5=k5∧k6=k6∧k7=k7∧k8=k8∧u0=u0∧u1=u1∧u2=u2∧u3=u3∧u4=u4∧u5=u5∧u6=u6∧u7=u7∧u8=u8∧((0:Nat)=0∧q=q∧rc=rc)∧a=a∧b=b∧a'=a'∧b'=b'∧a=y1.1.1∧b=y1.1.2∧a'=y1.2.1∧b'=y1.2.2∧(R=R∧rc=rc∧false=false)∧(U.nilL=U.nilL∧(0:Nat)=0∧false=false)∧U.or2 a b a' b' y1.1.1 y1.1.2 y1.2.1 y1.2.2))∧∀ (x2:(Int × Int) × Int × Int),U.or2 a b a' b' x2.1.1 x2.1.2 x2.2.1 x2.2.2→∀ (z3:Int),z3=(↑q:Int)→(∃ (y4:Int),now=now∧((0:Nat)=0∧q=q∧rc=rc)∧z3=z3∧0=y4∧k0=k0∧k1=k1∧k2=k2∧k3=k3∧k4=k4∧k5=k5∧k6=k6∧k7=k7∧k8=k8∧u0=u0∧u1=u1∧u2=u2∧u3=u3∧u4=u4∧u5=u5∧u6=u6∧u7=u7∧u8=u8∧((0:Nat)=0∧q=q∧rc=rc)∧a=a∧b=b∧a'=a'∧b'=b'∧x2.1.1=x2.1.1∧x2.1.2=x2.1.2∧x2.2.1=x2.2.1∧x2.2.2=x2.2.2∧(R=R∧rc=rc∧false=false)∧(U.nilL=U.nilL∧(0:Nat)=0∧false=false)∧U.lsI P x2.1.1 x2.1.2 x2.2.1 x2.2.2 y4)∧∀ (x5:Int),U.lsI P x2.1.1 x2.1.2 x2.2.1 x2.2.2 x5→(x5<z3→(0≤x5∧x5<(↑q:Int))∧∀ (j6:Nat),(↑j6:Int)=(↑((0:Nat)):Int) + x5→j6<List.length R∧∀ (z7:Int),z7=U.fi R j6 ((0:Nat))→∀ (z8:Int),z8=U.fi R j6 ((0:Nat) + (1:Nat))→∀ (z9:Int),z9=U.fi R j6 ((0:Nat) + (1:Nat) + (1:Nat))→∀ (z10:Int),z10=U.fi R j6 ((0:Nat) + (1:Nat) + (1:Nat) + (1:Nat))→∀ (z11:Int),z11=U.fi R j6 ((0:Nat) + (1:Nat) + (1:Nat) + (1:Nat) + (1:Nat))→(z7=x2.1.1∧z8=x2.1.2∧True→(z9=x2.2.1∧z10=x2.2.2∧True→(0≤x5∧x5<(↑q:Int))∧∀ (j12:Nat),(↑j12:Int)=(↑((0:Nat)):Int) + x5→j12<List.length R∧∀ (L'13:List (List CV)),L'13=U.put R j12 ((0:Nat) + (4:Nat)) [CV.i now]→K (Sum.inr [Sum.inl (rslC ⟨1,(3:Nat) + (1:Nat),0,0,0⟩),Sum.inl (Sum.inl (Value.bool false))]) ⟨[rvB [k0,k1,k2,k3,k4,k5,k6,k7,k8] [u0,u1,u2,u3,u4,u5,u6,u7,u8] (rslC ⟨0,5,0,q,rc⟩)],[],0,[some ⟨nat_lit 84,.o (.rows [.n .i64,.n .i64,.n .i64,.n .i64,.n .i64] L'13),[],rc,false⟩,some (liB U.nilL 0)],0⟩)∧(¬(z9=x2.2.1∧z10=x2.2.2∧True)→∀ (z14:Int),z14=IntKind.wrap .i64 (x5 + (1:Int))→∃ (y15:Int),now=now∧((0:Nat)=0∧q=q∧rc=rc)∧z3=z3∧z14=y15∧k0=k0∧k1=k1∧k2=k2∧k3=k3∧k4=k4∧k5=k5∧k6=k6∧k7=k7∧k8=k8∧u0=u0∧u1=u1∧u2=u2∧u3=u3∧u4=u4∧u5=u5∧u6=u6∧u7=u7∧u8=u8∧((0:Nat)=0∧q=q∧rc=rc)∧a=a∧b=b∧a'=a'∧b'=b'∧x2.1.1=x2.1.1∧x2.1.2=x2.1.2∧x2.2.1=x2.2.1∧x2.2.2=x2.2.2∧(R=R∧rc=rc∧false=false)∧(U.nilL=U.nilL∧(0:Nat)=0∧false=false)∧U.lsI P x2.1.1 x2.1.2 x2.2.1 x2.2.2 y15∧Int.toNat (↑q:Int) - Int.toNat y15<Int.toNat (↑q:Int) - Int.toNat x5))∧(¬(z7=x2.1.1∧z8=x2.1.2∧True)→∀ (z16:Int),z16=IntKind.wrap .i64 (x5 + (1:Int))→∃ (y17:Int),now=now∧((0:Nat)=0∧q=q∧rc=rc)∧z3=z3∧z16=y17∧k0=k0∧k1=k1∧k2=k2∧k3=k3∧k4=k4∧k5=k5∧k6=k6∧k7=k7∧k8=k8∧u0=u0∧u1=u1∧u2=u2∧u3=u3∧u4=u4∧u5=u5∧u6=u6∧u7=u7∧u8=u8∧((0:Nat)=0∧q=q∧rc=rc)∧a=a∧b=b∧a'=a'∧b'=b'∧x2.1.1=x2.1.1∧x2.1.2=x2.1.2∧x2.2.1=x2.2.1∧x2.2.2=x2.2.2∧(R=R∧rc=rc∧false=false)∧(U.nilL=U.nilL∧(0:Nat)=0∧false=false)∧U.lsI P x2.1.1 x2.1.2 x2.2.1 x2.2.2 y17∧Int.toNat (↑q:Int) - Int.toNat y17<Int.toNat (↑q:Int) - Int.toNat x5))∧(¬x5<z3→∃ (y18:VLP),(rc=rc∧R=U.vlvs y18∧q=U.vllen y18∧q≤100000)∧∀ (G19:Rws) (gq20 gc21 hq22 hc23:Nat),G19=U.lks (U.gone (U.fEnd x2.1.1 x2.1.2 x2.2.1 x2.2.2) y18)→gq20=U.vllen (U.gone (U.fEnd x2.1.1 x2.1.2 x2.2.1 x2.2.2) y18)→gq20≤gc21→hq22=U.vllen (U.rest (U.fEnd x2.1.1 x2.1.2 x2.2.1 x2.2.2) y18)→hq22≤hc23→∀ (z24:Int),z24=(↑hq22:Int)→(∃ (y25:Int × XP),now=now∧((0:Nat)=0∧gq20=gq20∧gc21=gc21)∧((0:Nat)=0∧0=y25.2.2.1∧0=y25.2.2.2)∧false=false∧((0:Nat)=0∧hq22=hq22∧hc23=hc23)∧z24=z24∧0=y25.1∧k0=k0∧k1=k1∧k2=k2∧k3=k3∧k4=k4∧k5=k5∧k6=k6∧k7=k7∧k8=k8∧u0=u0∧u1=u1∧u2=u2∧u3=u3∧u4=u4∧u5=u5∧u6=u6∧u7=u7∧u8=u8∧((0:Nat)=0∧hq22=hq22∧hc23=hc23)∧a=a∧b=b∧a'=a'∧b'=b'∧x2.1.1=x2.1.1∧x2.1.2=x2.1.2∧x2.2.1=x2.2.1∧x2.2.2=x2.2.2∧(R=R∧rc=rc∧false=false)∧(U.nilL=U.nilL∧(0:Nat)=0∧false=false)∧(G19=G19∧gc21=gc21∧false=false)∧(U.vlvs (U.rest (U.fEnd x2.1.1 x2.1.2 x2.2.1 x2.2.2) y18)=U.vlvs (U.rest (U.fEnd x2.1.1 x2.1.2 x2.2.1 x2.2.2) y18)∧hc23=hc23∧false=false)∧(U.nilL=y25.2.1∧0=y25.2.2.2∧false=false)∧U.inI Q x2.1.1 x2.1.2 x2.2.1 x2.2.2 now ((0:Nat)) y25.1 y25.2.1 y25.2.2.1 y25.2.2.2)∧(∀ (x26:Int × XP),U.inI Q x2.1.1 x2.1.2 x2.2.1 x2.2.2 now (0:Nat) x26.1 x26.2.1 x26.2.2.1 x26.2.2.2→(x26.1<z24→(0≤x26.1∧x26.1<(↑hq22:Int))∧∀ (j27:Nat),(↑j27:Int)=(↑((0:Nat)):Int) + x26.1→j27<List.length (U.vlvs (U.rest (U.fEnd x2.1.1 x2.1.2 x2.2.1 x2.2.2) y18))∧∀ (z28:Int),z28=U.fi (U.vlvs (U.rest (U.fEnd x2.1.1 x2.1.2 x2.2.1 x2.2.2) y18)) j27 ((0:Nat))→∀ (z29:Int),z29=U.fi (U.vlvs (U.rest (U.fEnd x2.1.1 x2.1.2 x2.2.1 x2.2.2) y18)) j27 ((0:Nat) + (1:Nat))→∀ (z30:Int),z30=U.fi (U.vlvs (U.rest (U.fEnd x2.1.1 x2.1.2 x2.2.1 x2.2.2) y18)) j27 ((0:Nat) + (1:Nat) + (1:Nat))→∀ (z31:Int),z31=U.fi (U.vlvs (U.rest (U.fEnd x2.1.1 x2.1.2 x2.2.1 x2.2.2) y18)) j27 ((0:Nat) + (1:Nat) + (1:Nat) + (1:Nat))→∀ (z32:Int),z32=U.fi (U.vlvs (U.rest (U.fEnd x2.1.1 x2.1.2 x2.2.1 x2.2.2) y18)) j27 ((0:Nat) + (1:Nat) + (1:Nat) + (1:Nat) + (1:Nat))→(U.Lss x2.1.1 x2.1.2 z28 z29→((0:Nat) + x26.2.2.1≤List.length x26.2.1∧(0:Nat) + x26.2.2.2≤x26.2.2.2)∧True∧x26.2.2.1≤16777216∧(1:Nat)≤16777216∧∀ (L'33:List (List CV)) (n'34 c'35:Nat),L'33=List.take x26.2.2.1 (List.drop ((0:Nat)) x26.2.1) ++ [CV.i x2.1.1,CV.i x2.1.2,CV.i x2.2.1,CV.i x2.2.2,CV.i now] :: U.nilL→n'34=x26.2.2.1 + (1:Nat)→n'34≤c'35→((0:Nat) + n'34≤List.length L'33∧(0:Nat) + c'35≤c'35)∧True∧n'34≤16777216∧(1:Nat)≤16777216∧∀ (L'36:List (List CV)) (n'37 c'38:Nat),L'36=List.take n'34 (List.drop ((0:Nat)) L'33) ++ [CV.i z28,CV.i z29,CV.i z30,CV.i z31,CV.i z32] :: U.nilL→n'37=n'34 + (1:Nat)→n'37≤c'38→∀ (z39:Int),z39=IntKind.wrap .i64 (x26.1 + (1:Int))→∃ (y40:Int × XP),now=now∧((0:Nat)=0∧gq20=gq20∧gc21=gc21)∧((0:Nat)=0∧n'37=y40.2.2.1∧c'38=y40.2.2.2)∧true=true∧((0:Nat)=0∧hq22=hq22∧hc23=hc23)∧z24=z24∧z39=y40.1∧k0=k0∧k1=k1∧k2=k2∧k3=k3∧k4=k4∧k5=k5∧k6=k6∧k7=k7∧k8=k8∧u0=u0∧u1=u1∧u2=u2∧u3=u3∧u4=u4∧u5=u5∧u6=u6∧u7=u7∧u8=u8∧((0:Nat)=0∧hq22=hq22∧hc23=hc23)∧a=a∧b=b∧a'=a'∧b'=b'∧x2.1.1=x2.1.1∧x2.1.2=x2.1.2∧x2.2.1=x2.2.1∧x2.2.2=x2.2.2∧(R=R∧rc=rc∧false=false)∧(U.nilL=U.nilL∧(0:Nat)=0∧false=false)∧(G19=G19∧gc21=gc21∧false=false)∧(U.vlvs (U.rest (U.fEnd x2.1.1 x2.1.2 x2.2.1 x2.2.2) y18)=U.vlvs (U.rest (U.fEnd x2.1.1 x2.1.2 x2.2.1 x2.2.2) y18)∧hc23=hc23∧false=false)∧(L'36=y40.2.1∧c'38=y40.2.2.2∧false=false)∧U.inI Q x2.1.1 x2.1.2 x2.2.1 x2.2.2 now ((1:Nat)) y40.1 y40.2.1 y40.2.2.1 y40.2.2.2∧Int.toNat (↑hq22:Int) - Int.toNat y40.1<Int.toNat (↑hq22:Int) - Int.toNat x26.1)∧(¬U.Lss x2.1.1 x2.1.2 z28 z29→((0:Nat) + x26.2.2.1≤List.length x26.2.1∧(0:Nat) + x26.2.2.2≤x26.2.2.2)∧True∧x26.2.2.1≤16777216∧(1:Nat)≤16777216∧∀ (L'41:List (List CV)) (n'42 c'43:Nat),L'41=List.take x26.2.2.1 (List.drop ((0:Nat)) x26.2.1) ++ [CV.i z28,CV.i z29,CV.i z30,CV.i z31,CV.i z32] :: U.nilL→n'42=x26.2.2.1 + (1:Nat)→n'42≤c'43→∀ (z44:Int),z44=IntKind.wrap .i64 (x26.1 + (1:Int))→∃ (y45:Int × XP),now=now∧((0:Nat)=0∧gq20=gq20∧gc21=gc21)∧((0:Nat)=0∧n'42=y45.2.2.1∧c'43=y45.2.2.2)∧false=false∧((0:Nat)=0∧hq22=hq22∧hc23=hc23)∧z24=z24∧z44=y45.1∧k0=k0∧k1=k1∧k2=k2∧k3=k3∧k4=k4∧k5=k5∧k6=k6∧k7=k7∧k8=k8∧u0=u0∧u1=u1∧u2=u2∧u3=u3∧u4=u4∧u5=u5∧u6=u6∧u7=u7∧u8=u8∧((0:Nat)=0∧hq22=hq22∧hc23=hc23)∧a=a∧b=b∧a'=a'∧b'=b'∧x2.1.1=x2.1.1∧x2.1.2=x2.1.2∧x2.2.1=x2.2.1∧x2.2.2=x2.2.2∧(R=R∧rc=rc∧false=false)∧(U.nilL=U.nilL∧(0:Nat)=0∧false=false)∧(G19=G19∧gc21=gc21∧false=false)∧(U.vlvs (U.rest (U.fEnd x2.1.1 x2.1.2 x2.2.1 x2.2.2) y18)=U.vlvs (U.rest (U.fEnd x2.1.1 x2.1.2 x2.2.1 x2.2.2) y18)∧hc23=hc23∧false=false)∧(L'41=y45.2.1∧c'43=y45.2.2.2∧false=false)∧U.inI Q x2.1.1 x2.1.2 x2.2.1 x2.2.2 now ((0:Nat)) y45.1 y45.2.1 y45.2.2.1 y45.2.2.2∧Int.toNat (↑hq22:Int) - Int.toNat y45.1<Int.toNat (↑hq22:Int) - Int.toNat x26.1))∧(¬x26.1<z24→((0:Nat) + x26.2.2.1≤List.length x26.2.1∧(0:Nat) + x26.2.2.2≤x26.2.2.2)∧True∧x26.2.2.1≤16777216∧(1:Nat)≤16777216∧∀ (L'46:List (List CV)) (n'47 c'48:Nat),L'46=List.take x26.2.2.1 (List.drop ((0:Nat)) x26.2.1) ++ [CV.i x2.1.1,CV.i x2.1.2,CV.i x2.2.1,CV.i x2.2.2,CV.i now] :: U.nilL→n'47=x26.2.2.1 + (1:Nat)→n'47≤c'48→K (Sum.inr [Sum.inl (rslC ⟨1,4,0,gq20,gc21⟩),Sum.inl (Sum.inl (Value.bool true))]) ⟨[rvB [k0,k1,k2,k3,k4,k5,k6,k7,k8] [u0,u1,u2,u3,u4,u5,u6,u7,u8] (rslC ⟨2,5,0,n'47,c'48⟩)],[],0,[some ⟨(84:TypeId),.o (.rows [.n .i64,.n .i64,.n .i64,.n .i64,.n .i64] R),[],rc,false⟩,some (liB G19 gc21),some (snB L'46 c'48)],0⟩))∧∀ (x49:Int × XP),U.inI Q x2.1.1 x2.1.2 x2.2.1 x2.2.2 now (1:Nat) x49.1 x49.2.1 x49.2.2.1 x49.2.2.2→(x49.1<z24→(0≤x49.1∧x49.1<(↑hq22:Int))∧∀ (j50:Nat),(↑j50:Int)=(↑((0:Nat)):Int) + x49.1→j50<List.length (U.vlvs (U.rest (U.fEnd x2.1.1 x2.1.2 x2.2.1 x2.2.2) y18))∧∀ (z51:Int),z51=U.fi (U.vlvs (U.rest (U.fEnd x2.1.1 x2.1.2 x2.2.1 x2.2.2) y18)) j50 ((0:Nat))→∀ (z52:Int),z52=U.fi (U.vlvs (U.rest (U.fEnd x2.1.1 x2.1.2 x2.2.1 x2.2.2) y18)) j50 ((0:Nat) + (1:Nat))→∀ (z53:Int),z53=U.fi (U.vlvs (U.rest (U.fEnd x2.1.1 x2.1.2 x2.2.1 x2.2.2) y18)) j50 ((0:Nat) + (1:Nat) + (1:Nat))→∀ (z54:Int),z54=U.fi (U.vlvs (U.rest (U.fEnd x2.1.1 x2.1.2 x2.2.1 x2.2.2) y18)) j50 ((0:Nat) + (1:Nat) + (1:Nat) + (1:Nat))→∀ (z55:Int),z55=U.fi (U.vlvs (U.rest (U.fEnd x2.1.1 x2.1.2 x2.2.1 x2.2.2) y18)) j50 ((0:Nat) + (1:Nat) + (1:Nat) + (1:Nat) + (1:Nat))→((0:Nat) + x49.2.2.1≤List.length x49.2.1∧(0:Nat) + x49.2.2.2≤x49.2.2.2)∧True∧x49.2.2.1≤16777216∧(1:Nat)≤16777216∧∀ (L'56:List (List CV)) (n'57 c'58:Nat),L'56=List.take x49.2.2.1 (List.drop ((0:Nat)) x49.2.1) ++ [CV.i z51,CV.i z52,CV.i z53,CV.i z54,CV.i z55] :: U.nilL→n'57=x49.2.2.1 + (1:Nat)→n'57≤c'58→∀ (z59:Int),z59=IntKind.wrap .i64 (x49.1 + (1:Int))→∃ (y60:Int × XP),now=now∧((0:Nat)=0∧gq20=gq20∧gc21=gc21)∧((0:Nat)=0∧n'57=y60.2.2.1∧c'58=y60.2.2.2)∧true=true∧((0:Nat)=0∧hq22=hq22∧hc23=hc23)∧z24=z24∧z59=y60.1∧k0=k0∧k1=k1∧k2=k2∧k3=k3∧k4=k4∧k5=k5∧k6=k6∧k7=k7∧k8=k8∧u0=u0∧u1=u1∧u2=u2∧u3=u3∧u4=u4∧u5=u5∧u6=u6∧u7=u7∧u8=u8∧((0:Nat)=0∧hq22=hq22∧hc23=hc23)∧a=a∧b=b∧a'=a'∧b'=b'∧x2.1.1=x2.1.1∧x2.1.2=x2.1.2∧x2.2.1=x2.2.1∧x2.2.2=x2.2.2∧(R=R∧rc=rc∧false=false)∧(U.nilL=U.nilL∧(0:Nat)=0∧false=false)∧(G19=G19∧gc21=gc21∧false=false)∧(U.vlvs (U.rest (U.fEnd x2.1.1 x2.1.2 x2.2.1 x2.2.2) y18)=U.vlvs (U.rest (U.fEnd x2.1.1 x2.1.2 x2.2.1 x2.2.2) y18)∧hc23=hc23∧false=false)∧(L'56=y60.2.1∧c'58=y60.2.2.2∧false=false)∧U.inI Q x2.1.1 x2.1.2 x2.2.1 x2.2.2 now ((1:Nat)) y60.1 y60.2.1 y60.2.2.1 y60.2.2.2∧Int.toNat (↑hq22:Int) - Int.toNat y60.1<Int.toNat (↑hq22:Int) - Int.toNat x49.1)∧(¬x49.1<z24→K (Sum.inr [Sum.inl (rslC ⟨1,4,0,gq20,gc21⟩),Sum.inl (Sum.inl (Value.bool true))]) ⟨[rvB [k0,k1,k2,k3,k4,k5,k6,k7,k8] [u0,u1,u2,u3,u4,u5,u6,u7,u8] (rslC ⟨2,5,0,x49.2.2.1,x49.2.2.2⟩)],[],0,[some ⟨(84:TypeId),.o (.rows [.n .i64,.n .i64,.n .i64,.n .i64,.n .i64] R),[],rc,false⟩,some (liB G19 gc21),some ⟨(84:TypeId),.o (.rows [.n .i64,.n .i64,.n .i64,.n .i64,.n .i64] x49.2.1),[],x49.2.2.2,false⟩],0⟩)))∧a'=a'∧b'=b'∧a=a∧b=b∧a'=a'∧b'=b'∧a=a∧b=b∧a'=a'∧b'=b'∧((U.Lss a' b' a b→a=a∧b=b∧∃ (y61:(Int × Int) × Int × Int),now=now∧k0=k0∧k1=k1∧k2=k2∧k3=k3∧k4=k4∧k5=k5∧k6=k6∧k7=k7∧k8=k8∧u0=u0∧u1=u1∧u2=u2∧u3=u3∧u4=u4∧u5=u5∧u6=u6∧u7=u7∧u8=u8∧((0:Nat)=0∧q=q∧rc=rc)∧a=a∧b=b∧a'=a'∧b'=b'∧a=y61.2.1∧b=y61.2.2∧a'=y61.1.1∧b'=y61.1.2∧(R=R∧rc=rc∧false=false)∧(U.nilL=U.nilL∧(0:Nat)=0∧false=false)∧U.or2 a b a' b' y61.1.1 y61.1.2 y61.2.1 y61.2.2)∧(¬U.Lss a' b' a b→∃ (y62:(Int × Int) × Int × Int),now=now∧k0=k0∧k1=k1∧k2=k2∧k3=k3∧k4=k4∧k5=k5∧k6=k6∧k7=k7∧k8=k8∧u0=u0∧u1=u1∧u2=u2∧u3=u3∧u4=u4∧u5=u5∧u6=u6∧u7=u7∧u8=u8∧((0:Nat)=0∧q=q∧rc=rc)∧a=a∧b=b∧a'=a'∧b'=b'∧a'=y62.2.1∧b'=y62.2.2∧a=y62.1.1∧b=y62.1.2∧(R=R∧rc=rc∧false=false)∧(U.nilL=U.nilL∧(0:Nat)=0∧false=false)∧U.or2 a b a' b' y62.1.1 y62.1.2 y62.2.1 y62.2.2))∧∀ (x63:(Int × Int) × Int × Int),U.or2 a b a' b' x63.1.1 x63.1.2 x63.2.1 x63.2.2→∀ (z64:Int),z64=(↑q:Int)→(∃ (y65:Int),now=now∧((0:Nat)=0∧q=q∧rc=rc)∧z64=z64∧0=y65∧k0=k0∧k1=k1∧k2=k2∧k3=k3∧k4=k4∧k5=k5∧k6=k6∧k7=k7∧k8=k8∧u0=u0∧u1=u1∧u2=u2∧u3=u3∧u4=u4∧u5=u5∧u6=u6∧u7=u7∧u8=u8∧((0:Nat)=0∧q=q∧rc=rc)∧a=a∧b=b∧a'=a'∧b'=b'∧x63.2.1=x63.2.1∧x63.2.2=x63.2.2∧x63.1.1=x63.1.1∧x63.1.2=x63.1.2∧(R=R∧rc=rc∧false=false)∧(U.nilL=U.nilL∧(0:Nat)=0∧false=false)∧U.lsI P x63.1.1 x63.1.2 x63.2.1 x63.2.2 y65)∧∀ (x66:Int),U.lsI P x63.1.1 x63.1.2 x63.2.1 x63.2.2 x66→(x66<z64→(0≤x66∧x66<(↑q:Int))∧∀ (j67:Nat),(↑j67:Int)=(↑((0:Nat)):Int) + x66→j67<List.length R∧∀ (z68:Int),z68=U.fi R j67 ((0:Nat))→∀ (z69:Int),z69=U.fi R j67 ((0:Nat) + (1:Nat))→∀ (z70:Int),z70=U.fi R j67 ((0:Nat) + (1:Nat) + (1:Nat))→∀ (z71:Int),z71=U.fi R j67 ((0:Nat) + (1:Nat) + (1:Nat) + (1:Nat))→∀ (z72:Int),z72=U.fi R j67 ((0:Nat) + (1:Nat) + (1:Nat) + (1:Nat) + (1:Nat))→(z68=x63.1.1∧z69=x63.1.2∧True→(z70=x63.2.1∧z71=x63.2.2∧True→(0≤x66∧x66<(↑q:Int))∧∀ (j73:Nat),(↑j73:Int)=(↑((0:Nat)):Int) + x66→j73<List.length R∧∀ (L'74:List (List CV)),L'74=U.put R j73 ((0:Nat) + (4:Nat)) [CV.i now]→K (Sum.inr [Sum.inl (rslC ⟨1,(3:Nat) + (1:Nat),0,0,0⟩),Sum.inl (Sum.inl (Value.bool false))]) ⟨[rvB [k0,k1,k2,k3,k4,k5,k6,k7,k8] [u0,u1,u2,u3,u4,u5,u6,u7,u8] (rslC ⟨0,5,0,q,rc⟩)],[],0,[some ⟨nat_lit 84,.o (.rows [.n .i64,.n .i64,.n .i64,.n .i64,.n .i64] L'74),[],rc,false⟩,some (liB U.nilL 0)],0⟩)∧(¬(z70=x63.2.1∧z71=x63.2.2∧True)→∀ (z75:Int),z75=IntKind.wrap .i64 (x66 + (1:Int))→∃ (y76:Int),now=now∧((0:Nat)=0∧q=q∧rc=rc)∧z64=z64∧z75=y76∧k0=k0∧k1=k1∧k2=k2∧k3=k3∧k4=k4∧k5=k5∧k6=k6∧k7=k7∧k8=k8∧u0=u0∧u1=u1∧u2=u2∧u3=u3∧u4=u4∧u5=u5∧u6=u6∧u7=u7∧u8=u8∧((0:Nat)=0∧q=q∧rc=rc)∧a=a∧b=b∧a'=a'∧b'=b'∧x63.2.1=x63.2.1∧x63.2.2=x63.2.2∧x63.1.1=x63.1.1∧x63.1.2=x63.1.2∧(R=R∧rc=rc∧false=false)∧(U.nilL=U.nilL∧(0:Nat)=0∧false=false)∧U.lsI P x63.1.1 x63.1.2 x63.2.1 x63.2.2 y76∧Int.toNat (↑q:Int) - Int.toNat y76<Int.toNat (↑q:Int) - Int.toNat x66))∧(¬(z68=x63.1.1∧z69=x63.1.2∧True)→∀ (z77:Int),z77=IntKind.wrap .i64 (x66 + (1:Int))→∃ (y78:Int),now=now∧((0:Nat)=0∧q=q∧rc=rc)∧z64=z64∧z77=y78∧k0=k0∧k1=k1∧k2=k2∧k3=k3∧k4=k4∧k5=k5∧k6=k6∧k7=k7∧k8=k8∧u0=u0∧u1=u1∧u2=u2∧u3=u3∧u4=u4∧u5=u5∧u6=u6∧u7=u7∧u8=u8∧((0:Nat)=0∧q=q∧rc=rc)∧a=a∧b=b∧a'=a'∧b'=b'∧x63.2.1=x63.2.1∧x63.2.2=x63.2.2∧x63.1.1=x63.1.1∧x63.1.2=x63.1.2∧(R=R∧rc=rc∧false=false)∧(U.nilL=U.nilL∧(0:Nat)=0∧false=false)∧U.lsI P x63.1.1 x63.1.2 x63.2.1 x63.2.2 y78∧Int.toNat (↑q:Int) - Int.toNat y78<Int.toNat (↑q:Int) - Int.toNat x66))∧(¬x66<z64→∃ (y79:VLP),(rc=rc∧R=U.vlvs y79∧q=U.vllen y79∧q≤100000)∧∀ (G80:Rws) (gq81 gc82 hq83 hc84:Nat),G80=U.lks (U.gone (U.fEnd x63.1.1 x63.1.2 x63.2.1 x63.2.2) y79)→gq81=U.vllen (U.gone (U.fEnd x63.1.1 x63.1.2 x63.2.1 x63.2.2) y79)→gq81≤gc82→hq83=U.vllen (U.rest (U.fEnd x63.1.1 x63.1.2 x63.2.1 x63.2.2) y79)→hq83≤hc84→∀ (z85:Int),z85=(↑hq83:Int)→(∃ (y86:Int × XP),now=now∧((0:Nat)=0∧gq81=gq81∧gc82=gc82)∧((0:Nat)=0∧0=y86.2.2.1∧0=y86.2.2.2)∧false=false∧((0:Nat)=0∧hq83=hq83∧hc84=hc84)∧z85=z85∧0=y86.1∧k0=k0∧k1=k1∧k2=k2∧k3=k3∧k4=k4∧k5=k5∧k6=k6∧k7=k7∧k8=k8∧u0=u0∧u1=u1∧u2=u2∧u3=u3∧u4=u4∧u5=u5∧u6=u6∧u7=u7∧u8=u8∧((0:Nat)=0∧hq83=hq83∧hc84=hc84)∧a=a∧b=b∧a'=a'∧b'=b'∧x63.2.1=x63.2.1∧x63.2.2=x63.2.2∧x63.1.1=x63.1.1∧x63.1.2=x63.1.2∧(R=R∧rc=rc∧false=false)∧(U.nilL=U.nilL∧(0:Nat)=0∧false=false)∧(G80=G80∧gc82=gc82∧false=false)∧(U.vlvs (U.rest (U.fEnd x63.1.1 x63.1.2 x63.2.1 x63.2.2) y79)=U.vlvs (U.rest (U.fEnd x63.1.1 x63.1.2 x63.2.1 x63.2.2) y79)∧hc84=hc84∧false=false)∧(U.nilL=y86.2.1∧0=y86.2.2.2∧false=false)∧U.inI Q x63.1.1 x63.1.2 x63.2.1 x63.2.2 now ((0:Nat)) y86.1 y86.2.1 y86.2.2.1 y86.2.2.2)∧(∀ (x87:Int × XP),U.inI Q x63.1.1 x63.1.2 x63.2.1 x63.2.2 now (0:Nat) x87.1 x87.2.1 x87.2.2.1 x87.2.2.2→(x87.1<z85→(0≤x87.1∧x87.1<(↑hq83:Int))∧∀ (j88:Nat),(↑j88:Int)=(↑((0:Nat)):Int) + x87.1→j88<List.length (U.vlvs (U.rest (U.fEnd x63.1.1 x63.1.2 x63.2.1 x63.2.2) y79))∧∀ (z89:Int),z89=U.fi (U.vlvs (U.rest (U.fEnd x63.1.1 x63.1.2 x63.2.1 x63.2.2) y79)) j88 ((0:Nat))→∀ (z90:Int),z90=U.fi (U.vlvs (U.rest (U.fEnd x63.1.1 x63.1.2 x63.2.1 x63.2.2) y79)) j88 ((0:Nat) + (1:Nat))→∀ (z91:Int),z91=U.fi (U.vlvs (U.rest (U.fEnd x63.1.1 x63.1.2 x63.2.1 x63.2.2) y79)) j88 ((0:Nat) + (1:Nat) + (1:Nat))→∀ (z92:Int),z92=U.fi (U.vlvs (U.rest (U.fEnd x63.1.1 x63.1.2 x63.2.1 x63.2.2) y79)) j88 ((0:Nat) + (1:Nat) + (1:Nat) + (1:Nat))→∀ (z93:Int),z93=U.fi (U.vlvs (U.rest (U.fEnd x63.1.1 x63.1.2 x63.2.1 x63.2.2) y79)) j88 ((0:Nat) + (1:Nat) + (1:Nat) + (1:Nat) + (1:Nat))→(U.Lss x63.1.1 x63.1.2 z89 z90→((0:Nat) + x87.2.2.1≤List.length x87.2.1∧(0:Nat) + x87.2.2.2≤x87.2.2.2)∧True∧x87.2.2.1≤16777216∧(1:Nat)≤16777216∧∀ (L'94:List (List CV)) (n'95 c'96:Nat),L'94=List.take x87.2.2.1 (List.drop ((0:Nat)) x87.2.1) ++ [CV.i x63.1.1,CV.i x63.1.2,CV.i x63.2.1,CV.i x63.2.2,CV.i now] :: U.nilL→n'95=x87.2.2.1 + (1:Nat)→n'95≤c'96→((0:Nat) + n'95≤List.length L'94∧(0:Nat) + c'96≤c'96)∧True∧n'95≤16777216∧(1:Nat)≤16777216∧∀ (L'97:List (List CV)) (n'98 c'99:Nat),L'97=List.take n'95 (List.drop ((0:Nat)) L'94) ++ [CV.i z89,CV.i z90,CV.i z91,CV.i z92,CV.i z93] :: U.nilL→n'98=n'95 + (1:Nat)→n'98≤c'99→∀ (z100:Int),z100=IntKind.wrap .i64 (x87.1 + (1:Int))→∃ (y101:Int × XP),now=now∧((0:Nat)=0∧gq81=gq81∧gc82=gc82)∧((0:Nat)=0∧n'98=y101.2.2.1∧c'99=y101.2.2.2)∧true=true∧((0:Nat)=0∧hq83=hq83∧hc84=hc84)∧z85=z85∧z100=y101.1∧k0=k0∧k1=k1∧k2=k2∧k3=k3∧k4=k4∧k5=k5∧k6=k6∧k7=k7∧k8=k8∧u0=u0∧u1=u1∧u2=u2∧u3=u3∧u4=u4∧u5=u5∧u6=u6∧u7=u7∧u8=u8∧((0:Nat)=0∧hq83=hq83∧hc84=hc84)∧a=a∧b=b∧a'=a'∧b'=b'∧x63.2.1=x63.2.1∧x63.2.2=x63.2.2∧x63.1.1=x63.1.1∧x63.1.2=x63.1.2∧(R=R∧rc=rc∧false=false)∧(U.nilL=U.nilL∧(0:Nat)=0∧false=false)∧(G80=G80∧gc82=gc82∧false=false)∧(U.vlvs (U.rest (U.fEnd x63.1.1 x63.1.2 x63.2.1 x63.2.2) y79)=U.vlvs (U.rest (U.fEnd x63.1.1 x63.1.2 x63.2.1 x63.2.2) y79)∧hc84=hc84∧false=false)∧(L'97=y101.2.1∧c'99=y101.2.2.2∧false=false)∧U.inI Q x63.1.1 x63.1.2 x63.2.1 x63.2.2 now ((1:Nat)) y101.1 y101.2.1 y101.2.2.1 y101.2.2.2∧Int.toNat (↑hq83:Int) - Int.toNat y101.1<Int.toNat (↑hq83:Int) - Int.toNat x87.1)∧(¬U.Lss x63.1.1 x63.1.2 z89 z90→((0:Nat) + x87.2.2.1≤List.length x87.2.1∧(0:Nat) + x87.2.2.2≤x87.2.2.2)∧True∧x87.2.2.1≤16777216∧(1:Nat)≤16777216∧∀ (L'102:List (List CV)) (n'103 c'104:Nat),L'102=List.take x87.2.2.1 (List.drop ((0:Nat)) x87.2.1) ++ [CV.i z89,CV.i z90,CV.i z91,CV.i z92,CV.i z93] :: U.nilL→n'103=x87.2.2.1 + (1:Nat)→n'103≤c'104→∀ (z105:Int),z105=IntKind.wrap .i64 (x87.1 + (1:Int))→∃ (y106:Int × XP),now=now∧((0:Nat)=0∧gq81=gq81∧gc82=gc82)∧((0:Nat)=0∧n'103=y106.2.2.1∧c'104=y106.2.2.2)∧false=false∧((0:Nat)=0∧hq83=hq83∧hc84=hc84)∧z85=z85∧z105=y106.1∧k0=k0∧k1=k1∧k2=k2∧k3=k3∧k4=k4∧k5=k5∧k6=k6∧k7=k7∧k8=k8∧u0=u0∧u1=u1∧u2=u2∧u3=u3∧u4=u4∧u5=u5∧u6=u6∧u7=u7∧u8=u8∧((0:Nat)=0∧hq83=hq83∧hc84=hc84)∧a=a∧b=b∧a'=a'∧b'=b'∧x63.2.1=x63.2.1∧x63.2.2=x63.2.2∧x63.1.1=x63.1.1∧x63.1.2=x63.1.2∧(R=R∧rc=rc∧false=false)∧(U.nilL=U.nilL∧(0:Nat)=0∧false=false)∧(G80=G80∧gc82=gc82∧false=false)∧(U.vlvs (U.rest (U.fEnd x63.1.1 x63.1.2 x63.2.1 x63.2.2) y79)=U.vlvs (U.rest (U.fEnd x63.1.1 x63.1.2 x63.2.1 x63.2.2) y79)∧hc84=hc84∧false=false)∧(L'102=y106.2.1∧c'104=y106.2.2.2∧false=false)∧U.inI Q x63.1.1 x63.1.2 x63.2.1 x63.2.2 now ((0:Nat)) y106.1 y106.2.1 y106.2.2.1 y106.2.2.2∧Int.toNat (↑hq83:Int) - Int.toNat y106.1<Int.toNat (↑hq83:Int) - Int.toNat x87.1))∧(¬x87.1<z85→((0:Nat) + x87.2.2.1≤List.length x87.2.1∧(0:Nat) + x87.2.2.2≤x87.2.2.2)∧True∧x87.2.2.1≤16777216∧(1:Nat)≤16777216∧∀ (L'107:List (List CV)) (n'108 c'109:Nat),L'107=List.take x87.2.2.1 (List.drop ((0:Nat)) x87.2.1) ++ [CV.i x63.1.1,CV.i x63.1.2,CV.i x63.2.1,CV.i x63.2.2,CV.i now] :: U.nilL→n'108=x87.2.2.1 + (1:Nat)→n'108≤c'109→K (Sum.inr [Sum.inl (rslC ⟨1,4,0,gq81,gc82⟩),Sum.inl (Sum.inl (Value.bool true))]) ⟨[rvB [k0,k1,k2,k3,k4,k5,k6,k7,k8] [u0,u1,u2,u3,u4,u5,u6,u7,u8] (rslC ⟨2,5,0,n'108,c'109⟩)],[],0,[some ⟨(84:TypeId),.o (.rows [.n .i64,.n .i64,.n .i64,.n .i64,.n .i64] R),[],rc,false⟩,some (liB G80 gc82),some (snB L'107 c'109)],0⟩))∧∀ (x110:Int × XP),U.inI Q x63.1.1 x63.1.2 x63.2.1 x63.2.2 now (1:Nat) x110.1 x110.2.1 x110.2.2.1 x110.2.2.2→(x110.1<z85→(0≤x110.1∧x110.1<(↑hq83:Int))∧∀ (j111:Nat),(↑j111:Int)=(↑((0:Nat)):Int) + x110.1→j111<List.length (U.vlvs (U.rest (U.fEnd x63.1.1 x63.1.2 x63.2.1 x63.2.2) y79))∧∀ (z112:Int),z112=U.fi (U.vlvs (U.rest (U.fEnd x63.1.1 x63.1.2 x63.2.1 x63.2.2) y79)) j111 ((0:Nat))→∀ (z113:Int),z113=U.fi (U.vlvs (U.rest (U.fEnd x63.1.1 x63.1.2 x63.2.1 x63.2.2) y79)) j111 ((0:Nat) + (1:Nat))→∀ (z114:Int),z114=U.fi (U.vlvs (U.rest (U.fEnd x63.1.1 x63.1.2 x63.2.1 x63.2.2) y79)) j111 ((0:Nat) + (1:Nat) + (1:Nat))→∀ (z115:Int),z115=U.fi (U.vlvs (U.rest (U.fEnd x63.1.1 x63.1.2 x63.2.1 x63.2.2) y79)) j111 ((0:Nat) + (1:Nat) + (1:Nat) + (1:Nat))→∀ (z116:Int),z116=U.fi (U.vlvs (U.rest (U.fEnd x63.1.1 x63.1.2 x63.2.1 x63.2.2) y79)) j111 ((0:Nat) + (1:Nat) + (1:Nat) + (1:Nat) + (1:Nat))→((0:Nat) + x110.2.2.1≤List.length x110.2.1∧(0:Nat) + x110.2.2.2≤x110.2.2.2)∧True∧x110.2.2.1≤16777216∧(1:Nat)≤16777216∧∀ (L'117:List (List CV)) (n'118 c'119:Nat),L'117=List.take x110.2.2.1 (List.drop ((0:Nat)) x110.2.1) ++ [CV.i z112,CV.i z113,CV.i z114,CV.i z115,CV.i z116] :: U.nilL→n'118=x110.2.2.1 + (1:Nat)→n'118≤c'119→∀ (z120:Int),z120=IntKind.wrap .i64 (x110.1 + (1:Int))→∃ (y121:Int × XP),now=now∧((0:Nat)=0∧gq81=gq81∧gc82=gc82)∧((0:Nat)=0∧n'118=y121.2.2.1∧c'119=y121.2.2.2)∧true=true∧((0:Nat)=0∧hq83=hq83∧hc84=hc84)∧z85=z85∧z120=y121.1∧k0=k0∧k1=k1∧k2=k2∧k3=k3∧k4=k4∧k5=k5∧k6=k6∧k7=k7∧k8=k8∧u0=u0∧u1=u1∧u2=u2∧u3=u3∧u4=u4∧u5=u5∧u6=u6∧u7=u7∧u8=u8∧((0:Nat)=0∧hq83=hq83∧hc84=hc84)∧a=a∧b=b∧a'=a'∧b'=b'∧x63.2.1=x63.2.1∧x63.2.2=x63.2.2∧x63.1.1=x63.1.1∧x63.1.2=x63.1.2∧(R=R∧rc=rc∧false=false)∧(U.nilL=U.nilL∧(0:Nat)=0∧false=false)∧(G80=G80∧gc82=gc82∧false=false)∧(U.vlvs (U.rest (U.fEnd x63.1.1 x63.1.2 x63.2.1 x63.2.2) y79)=U.vlvs (U.rest (U.fEnd x63.1.1 x63.1.2 x63.2.1 x63.2.2) y79)∧hc84=hc84∧false=false)∧(L'117=y121.2.1∧c'119=y121.2.2.2∧false=false)∧U.inI Q x63.1.1 x63.1.2 x63.2.1 x63.2.2 now ((1:Nat)) y121.1 y121.2.1 y121.2.2.1 y121.2.2.2∧Int.toNat (↑hq83:Int) - Int.toNat y121.1<Int.toNat (↑hq83:Int) - Int.toNat x110.1)∧(¬x110.1<z85→K (Sum.inr [Sum.inl (rslC ⟨1,4,0,gq81,gc82⟩),Sum.inl (Sum.inl (Value.bool true))]) ⟨[rvB [k0,k1,k2,k3,k4,k5,k6,k7,k8] [u0,u1,u2,u3,u4,u5,u6,u7,u8] (rslC ⟨2,5,0,x110.2.2.1,x110.2.2.2⟩)],[],0,[some ⟨(84:TypeId),.o (.rows [.n .i64,.n .i64,.n .i64,.n .i64,.n .i64] R),[],rc,false⟩,some (liB G80 gc82),some ⟨(84:TypeId),.o (.rows [.n .i64,.n .i64,.n .i64,.n .i64,.n .i64] x110.2.1),[],x110.2.2.2,false⟩],0⟩)))∧(¬U.rUp [k0,k1,k2,k3,k4,k5,k6,k7,k8] [u0,u1,u2,u3,u4,u5,u6,u7,u8] a' b'→K (Sum.inr [Sum.inl (rslC ⟨1,(3:Nat) + (1:Nat),0,0,0⟩),Sum.inl (Sum.inl (Value.bool false))]) ⟨[rvB [k0,k1,k2,k3,k4,k5,k6,k7,k8] [u0,u1,u2,u3,u4,u5,u6,u7,u8] (rslC ⟨0,5,0,q,rc⟩)],[],0,[some (snB R rc),some (liB U.nilL 0)],0⟩))∧(¬U.rUp [k0,k1,k2,k3,k4,k5,k6,k7,k8] [u0,u1,u2,u3,u4,u5,u6,u7,u8] a b→K (Sum.inr [Sum.inl (rslC ⟨1,(3:Nat) + (1:Nat),0,0,0⟩),Sum.inl (Sum.inl (Value.bool false))]) ⟨[rvB [k0,k1,k2,k3,k4,k5,k6,k7,k8] [u0,u1,u2,u3,u4,u5,u6,u7,u8] (rslC ⟨0,5,0,q,rc⟩)],[],0,[some (snB R rc),some (liB U.nilL 0)],0⟩))) := by kernel_rfl
end Go.Proofs.Ytfhgnngdbbgogaa
end
section
set_option linter.unusedVariables false
set_option linter.unusedSimpArgs false
set_option maxRecDepth 10000
namespace Go.Proofs.Ytfhgnngdbbgogaa
open Go Reck Ost
structure U.insH (Q : VLP) (x y x' y' now : Int) (H : Rws) : Prop where
  out : ∃ z : Nat, z ≤ Q.length ∧ (∀ m : Nat, m < z → ∀ p, Q[m]? = some p → ¬ U.Lss x y p.2.v0 p.2.v1) ∧ (∀ p, Q[z]? = some p → U.Lss x y p.2.v0 p.2.v1) ∧ H = U.vlvs (Q.take z ++ [(0, ⟨x, y, x', y', now⟩)] ++ Q.drop z)
structure U.rMay (kn : List Bool) (us : List Int) (a b a' b' : Int) : Prop where
  ne : ¬ (a = a' ∧ b = b')
  u : U.rUp kn us a b
  u' : U.rUp kn us a' b'
theorem fEnd_or {a b a' b' x y x' y' : Int} (h : U.or2 a b a' b' x y x' y') : U.fEnd x y x' y' = U.fEnd a b a' b' := by
  funext p
  unfold U.fEnd
  congr 1
  rcases h.out with ⟨_, rfl, rfl, rfl, rfl⟩ | ⟨_, rfl, rfl, rfl, rfl⟩
  · exact propext ⟨fun h => h.symm, fun h => h.symm⟩
  · rfl
theorem vlvs_app (A B : VLP) : U.vlvs (A ++ B) = U.vlvs A ++ U.vlvs B := by unfold U.vlvs; rw [List.map_append]
section
variable {Q : VLP} {x y x' y' now i i' : Int} {O L' L2 : Rws} {q c n' c' n2 c2 j : Nat} {p : Int × VLv}
theorem in_0 : U.inI Q x y x' y' now 0 0 [] 0 0 := ⟨⟨⟨by omega, by omega⟩, rfl, Nat.le_refl _, by omega⟩, fun _ => ⟨rfl, fun m hm => by omega⟩, fun h => by cases h⟩
theorem in_no (h : U.inI Q x y x' y' now 0 i O q c) (hj : (j : Int) = i) (hp : Q[j]? = some p) (hn : ¬ U.Lss x y p.2.v0 p.2.v1) (hi : i' = i + 1) (e1 : L' = List.take q (List.drop 0 O) ++ p.2.row :: []) (e2 : n' = q + 1) (e3 : n' ≤ c') : U.inI Q x y x' y' now 0 i' L' n' c' := by
  obtain ⟨⟨h1, h2⟩, h3, h4, h5⟩ := h.out
  obtain ⟨g1, g2⟩ := h.no rfl
  have hl := (List.getElem?_eq_some_iff.1 hp).1
  subst hi
  rw [List.drop_zero, h3, List.take_length] at e1
  refine ⟨⟨⟨by omega, by omega⟩, by rw [e1, List.length_append, e2, h3]; rfl, e3, by omega⟩, fun _ => ⟨?_, fun m hm p' hp' => ?_⟩, fun h => by cases h⟩
  · rw [vltake1 h1 hj hp, vlvs_app, e1, g1]; rfl
  · by_cases e : m = j
    · subst e; rw [hp] at hp'; cases hp'; exact hn
    · exact g2 m (by omega) p' hp'
theorem in_new (h : U.inI Q x y x' y' now 0 i O q c) (hj : (j : Int) = i) (hp : Q[j]? = some p) (hn : U.Lss x y p.2.v0 p.2.v1) (hi : i' = i + 1) (e1 : L' = List.take q (List.drop 0 O) ++ [.i x, .i y, .i x', .i y', .i now] :: []) (e2 : n' = q + 1) (e4 : L2 = List.take n' (List.drop 0 L') ++ p.2.row :: []) (e5 : n2 = n' + 1) (e6 : n2 ≤ c2) : U.inI Q x y x' y' now 1 i' L2 n2 c2 := by
  obtain ⟨⟨h1, h2⟩, h3, h4, h5⟩ := h.out
  obtain ⟨g1, g2⟩ := h.no rfl
  have hl := (List.getElem?_eq_some_iff.1 hp).1
  subst hi
  rw [List.drop_zero, h3, List.take_length] at e1
  have l1 : L'.length = n' := by rw [e1, List.length_append, e2, h3]; rfl
  rw [List.drop_zero, ← l1, List.take_length] at e4
  have l2 : L2.length = n2 := by rw [e4, List.length_append, e5, l1]; rfl
  have hq : (q : Int) ≤ i := by
    rw [h3, g1]; unfold U.vlvs; rw [List.length_map, List.length_take]; omega
  refine ⟨⟨⟨by omega, by omega⟩, l2.symm, e6, by omega⟩, fun h => absurd h (by decide), fun _ => ⟨j, by omega, fun m hm => g2 m (by omega), fun p' hp' => by rw [hp] at hp'; cases hp'; exact hn, ?_⟩⟩
  have e7 : (Q.take (i + 1).toNat).drop j = [p] := by
    rw [vltake1 h1 hj hp, List.drop_append_of_le_length (by rw [List.length_take]; omega), List.drop_eq_nil_of_le (by rw [List.length_take]; omega)]; rfl
  rw [e7, vlvs_app, vlvs_app, e4, e1, g1, show i.toNat = j by omega]
  rfl
theorem in_yes (h : U.inI Q x y x' y' now 1 i O q c) (hj : (j : Int) = i) (hp : Q[j]? = some p) (hi : i' = i + 1) (e1 : L' = List.take q (List.drop 0 O) ++ p.2.row :: []) (e2 : n' = q + 1) (e3 : n' ≤ c') : U.inI Q x y x' y' now 1 i' L' n' c' := by
  obtain ⟨⟨h1, h2⟩, h3, h4, h5⟩ := h.out
  obtain ⟨z, z1, z2, z3, z4⟩ := h.yes rfl
  have hl := (List.getElem?_eq_some_iff.1 hp).1
  subst hi
  rw [List.drop_zero, h3, List.take_length] at e1
  refine ⟨⟨⟨by omega, by omega⟩, by rw [e1, List.length_append, e2, h3]; rfl, e3, by omega⟩, fun h => absurd h (by decide), fun _ => ⟨z, by omega, z2, z3, ?_⟩⟩
  rw [vltake1 h1 hj hp, List.drop_append_of_le_length (by rw [List.length_take]; omega), ← List.append_assoc, vlvs_app, e1, z4]; rfl
theorem in_end0 (h : U.inI Q x y x' y' now 0 i O q c) (hi : ¬ i < Q.length) (e1 : L' = List.take q (List.drop 0 O) ++ [.i x, .i y, .i x', .i y', .i now] :: []) (e2 : n' = q + 1) : U.insH Q x y x' y' now L' ∧ n' = L'.length := by
  obtain ⟨⟨h1, h2⟩, h3, h4, h5⟩ := h.out
  obtain ⟨g1, g2⟩ := h.no rfl
  rw [List.drop_zero, h3, List.take_length] at e1
  refine ⟨⟨Q.length, Nat.le_refl _, fun m hm => g2 m (by omega), fun p hp => (by rw [List.getElem?_eq_none (Nat.le_refl _)] at hp; cases hp), ?_⟩, by rw [e1, List.length_append, e2, h3]; rfl⟩
  rw [List.take_of_length_le (by omega)] at g1
  rw [List.take_length, List.drop_length, List.append_nil, vlvs_app, e1, g1]; rfl
theorem in_end1 (h : U.inI Q x y x' y' now 1 i O q c) (hi : ¬ i < Q.length) : U.insH Q x y x' y' now O ∧ q = O.length := by
  obtain ⟨⟨h1, h2⟩, h3, h4, h5⟩ := h.out
  obtain ⟨z, z1, z2, z3, z4⟩ := h.yes rfl
  rw [show Q.take i.toNat = Q from List.take_of_length_le (by omega)] at z4
  exact ⟨⟨z, by omega, z2, z3, z4⟩, h3⟩
end
def lb1 (q qc : Nat) (b : Bool) : AV := .inr [.inl (rslC ⟨1, 4, 0, q, qc⟩), .inl (.inl (.bool b))]
set_option maxHeartbeats 8000000 in
theorem rLearn_run (K : AV → St → Prop) (P : VLP) (k0 k1 k2 k3 k4 k5 k6 k7 k8 : Bool) (u0 u1 u2 u3 u4 u5 u6 u7 u8 : Int) (q rc : Nat) (a b a' b' now : Int) (hq : q = P.length) (hs : q ≤ 100000) (hb : U.ubI [u0, u1, u2, u3, u4, u5, u6, u7, u8])
    (hA : ¬ U.rMay [k0, k1, k2, k3, k4, k5, k6, k7, k8] [u0, u1, u2, u3, u4, u5, u6, u7, u8] a b a' b' → K (lb1 0 0 false) (rvO [k0, k1, k2, k3, k4, k5, k6, k7, k8] [u0, u1, u2, u3, u4, u5, u6, u7, u8] q rc (U.vlvs P) [] 0))
    (hB : U.rMay [k0, k1, k2, k3, k4, k5, k6, k7, k8] [u0, u1, u2, u3, u4, u5, u6, u7, u8] a b a' b' → ∀ x y x' y' : Int, U.or2 a b a' b' x y x' y' → ∀ (j : Nat) (p : Int × VLv), P[j]? = some p → ((p.2.v0 = x ∧ p.2.v1 = y) ∧ p.2.v2 = x' ∧ p.2.v3 = y') → K (lb1 0 0 false) (rvO [k0, k1, k2, k3, k4, k5, k6, k7, k8] [u0, u1, u2, u3, u4, u5, u6, u7, u8] q rc (U.put (U.vlvs P) j 4 [.i now]) [] 0))
    (hC : U.rMay [k0, k1, k2, k3, k4, k5, k6, k7, k8] [u0, u1, u2, u3, u4, u5, u6, u7, u8] a b a' b' → ∀ x y x' y' : Int, U.or2 a b a' b' x y x' y' → (∀ p ∈ P, ¬ ((p.2.v0 = x ∧ p.2.v1 = y) ∧ p.2.v2 = x' ∧ p.2.v3 = y')) → ∀ (G : Rws) (gq gc : Nat) (H : Rws) (hq hc : Nat), G = U.lks (U.gone (U.fEnd a b a' b') P) → gq = U.vllen (U.gone (U.fEnd a b a' b') P) → gq ≤ gc → U.insH (U.rest (U.fEnd a b a' b') P) x y x' y' now H → hq = H.length → hq ≤ hc → K (lb1 gq gc true) (rvN [k0, k1, k2, k3, k4, k5, k6, k7, k8] [u0, u1, u2, u3, u4, u5, u6, u7, u8] (U.vlvs P) rc G gc hq H hc)) :
    runM (invR7 P (U.rest (U.fEnd a b a' b') P) now) meetR7 tR6 24 [ptr 0 0, plA a b, plA a' b', xi .i64 now] (rvSt [k0, k1, k2, k3, k4, k5, k6, k7, k8] [u0, u1, u2, u3, u4, u5, u6, u7, u8] q rc (U.vlvs P)) K := by
  have hvl : (U.vlvs P).length = P.length := by simp [U.vlvs]
  rw [rLearn_vc]
  refine ⟨fun g0 => hA fun hm => hm.ne ⟨g0.1, g0.2.1⟩, fun g0 => ⟨⟨rfl, hb⟩, fun g1 => ⟨⟨rfl, hb⟩, fun g2 => ?_, fun g2 => hA fun hm => g2 hm.u'⟩, fun g1 => hA fun hm => g1 hm.u⟩⟩
  have hm : U.rMay [k0, k1, k2, k3, k4, k5, k6, k7, k8] [u0, u1, u2, u3, u4, u5, u6, u7, u8] a b a' b' := ⟨fun h => g0 ⟨h.1, h.2, trivial⟩, g1, g2⟩
  have hA' := hA
  clear hA
  refine ⟨?_, ?_⟩
  all_goals
    repeat (first | refine ⟨rfl, ?_⟩ | refine ⟨⟨rfl, rfl⟩, ?_⟩)
    refine ⟨⟨fun hls => ?_, fun hls => ?_⟩, ?_⟩
    · repeat (refine ⟨rfl, ?_⟩)
      refine ⟨((a', b'), (a, b)), ?_⟩
      repeat' (first | exact rfl | exact ⟨.inl ⟨hls, rfl, rfl, rfl, rfl⟩⟩ | with_reducible apply And.intro)
    · repeat (refine ⟨rfl, ?_⟩)
      refine ⟨((a, b), (a', b')), ?_⟩
      repeat' (first | exact rfl | exact ⟨.inr ⟨hls, rfl, rfl, rfl, rfl⟩⟩ | with_reducible apply And.intro)
    rintro ⟨⟨x, y⟩, ⟨x', y'⟩⟩ ho
    dsimp only at ho ⊢
    have hfe := fEnd_or ho
    rw [hfe]
    intro z3 h3
    constructor
    · refine ⟨0, ?_⟩
      repeat' (first | exact rfl | with_reducible apply And.intro)
      exact ⟨by omega, by omega, fun m hm => by omega⟩
    rintro i hI
    obtain ⟨i1, i2, i3⟩ := hI.out
    refine ⟨fun hi => ⟨⟨by omega, by omega⟩, fun j hj => ⟨by omega, ?_⟩⟩, fun hi => ?_⟩
    · obtain ⟨p, hp⟩ : ∃ p, P[j]? = some p := ⟨_, List.getElem?_eq_getElem (show j < P.length by omega)⟩
      obtain ⟨f0, f1, f2, f3, f4⟩ := vl_fi hp
      rw [f0, f1, f2, f3, f4]
      rintro _ rfl _ rfl _ rfl _ rfl _ rfl
      have hno : ¬ ((p.2.v0 = x ∧ p.2.v1 = y) ∧ p.2.v2 = x' ∧ p.2.v3 = y') → ∀ z : Int, z = IntKind.wrap .i64 (i + 1) → U.lsI P x y x' y' z ∧ z = i + 1 := fun hn z hz => by
        have e := iw hz (by omega)
        refine ⟨⟨by omega, by omega, fun m hm p' hp' => ?_⟩, e⟩
        by_cases em : m = j
        · subst em; rw [hp] at hp'; cases hp'; exact hn
        · exact i3 m (by omega) p' hp'
      refine ⟨fun g3 => ⟨fun g4 => ⟨⟨by omega, by omega⟩, fun j12 hj12 => ⟨by omega, ?_⟩⟩, fun g4 z14 h14 => ?_⟩, fun g3 z14 h14 => ?_⟩
      · obtain rfl : j12 = j := by omega
        rintro _ rfl
        exact hB hm x y x' y' ho j12 p hp ⟨⟨g3.1, g3.2.1⟩, g4.1, g4.2.1⟩
      · obtain ⟨k1, k2⟩ := hno (fun h => g4 ⟨h.2.1, h.2.2, trivial⟩) _ h14
        refine ⟨z14, ?_⟩
        repeat' (first | exact rfl | exact k1 | with_reducible apply And.intro)
        omega
      · obtain ⟨k1, k2⟩ := hno (fun h => g3 ⟨h.1.1, h.1.2, trivial⟩) _ h14
        refine ⟨z14, ?_⟩
        repeat' (first | exact rfl | exact k1 | with_reducible apply And.intro)
        omega
    · have hnone : ∀ p ∈ P, ¬ ((p.2.v0 = x ∧ p.2.v1 = y) ∧ p.2.v2 = x' ∧ p.2.v3 = y') := fun p hp => by
        obtain ⟨m, hm⟩ := List.getElem?_of_mem hp
        have := (List.getElem?_eq_some_iff.1 hm).1
        exact i3 m (by omega) p hm
      have hQl : (U.rest (U.fEnd a b a' b') P).length ≤ P.length := List.length_filter_le _ _
      have hQv : (U.vlvs (U.rest (U.fEnd a b a' b') P)).length = (U.rest (U.fEnd a b a' b') P).length := by simp [U.vlvs]
      refine ⟨P, ⟨rfl, rfl, hq, hs⟩, fun G gq gc hq2 hc y1 y2 y3 y4 y5 z24 h24 => ?_⟩
      have y4' : hq2 = (U.rest (U.fEnd a b a' b') P).length := y4
      clear y4
      generalize hQ : U.rest (U.fEnd a b a' b') P = Q at y4' hQl hQv ⊢
      refine ⟨?_, ?_, ?_⟩
      · refine ⟨(0, ([], (0, 0))), ?_⟩
        repeat' (first | exact rfl | exact in_0 | with_reducible apply And.intro)
      · rintro ⟨k, O, r, oc⟩ hJ
        obtain ⟨⟨k1, k2⟩, k3, k4, k5⟩ := hJ.out
        dsimp only at k1 k2 k3 k4 k5 hJ ⊢
        refine ⟨fun hk => ⟨⟨by omega, by omega⟩, fun j2 hj2 => ⟨by omega, ?_⟩⟩, fun hk => ⟨⟨by omega, by omega⟩, trivial, by omega, by decide, fun L46 n47 c48 e1 e2 e3 => ?_⟩⟩
        · obtain ⟨p, hp⟩ : ∃ p, Q[j2]? = some p := ⟨_, List.getElem?_eq_getElem (show j2 < Q.length by omega)⟩
          obtain ⟨f0, f1, f2, f3, f4⟩ := vl_fi hp
          rw [f0, f1, f2, f3, f4]
          rintro _ rfl _ rfl _ rfl _ rfl _ rfl
          refine ⟨fun hl => ⟨⟨by omega, by omega⟩, trivial, by omega, by decide, fun L33 n34 c35 e1 e2 e3 => ⟨⟨?_, by omega⟩, trivial, by omega, by decide, fun L36 n37 c38 e4 e5 e6 z39 h39 => ?_⟩⟩, fun hl => ⟨⟨by omega, by omega⟩, trivial, by omega, by decide, fun L41 n42 c43 e1 e2 e3 z44 h44 => ?_⟩⟩
          · rw [e1, List.drop_zero, k3, List.take_length, List.length_append, e2, k3]
            simp
          · have ez := iw h39 (by omega)
            refine ⟨(z39, (L36, (n37, c38))), ?_⟩
            repeat' (first | exact rfl | exact in_new hJ (by omega) hp hl ez e1 e2 e4 e5 e6 | with_reducible apply And.intro)
            dsimp only; omega
          · have ez := iw h44 (by omega)
            refine ⟨(z44, (L41, (n42, c43))), ?_⟩
            repeat' (first | exact rfl | exact in_no hJ (by omega) hp hl ez e1 e2 e3 | with_reducible apply And.intro)
            dsimp only; omega
        · obtain ⟨w1, w2⟩ := in_end0 hJ (by omega) e1 e2
          subst hQ
          exact hC hm x y x' y' ho hnone _ _ _ _ _ _ y1 y2 y3 w1 w2 e3
      · rintro ⟨k, O, r, oc⟩ hJ
        obtain ⟨⟨k1, k2⟩, k3, k4, k5⟩ := hJ.out
        dsimp only at k1 k2 k3 k4 k5 hJ ⊢
        refine ⟨fun hk => ⟨⟨by omega, by omega⟩, fun j2 hj2 => ⟨by omega, ?_⟩⟩, fun hk => ?_⟩
        · obtain ⟨p, hp⟩ : ∃ p, Q[j2]? = some p := ⟨_, List.getElem?_eq_getElem (show j2 < Q.length by omega)⟩
          obtain ⟨f0, f1, f2, f3, f4⟩ := vl_fi hp
          rw [f0, f1, f2, f3, f4]
          rintro _ rfl _ rfl _ rfl _ rfl _ rfl
          refine ⟨⟨by omega, by omega⟩, trivial, by omega, by decide, fun L56 n57 c58 e1 e2 e3 z59 h59 => ?_⟩
          have ez := iw h59 (by omega)
          refine ⟨(z59, (L56, (n57, c58))), ?_⟩
          repeat' (first | exact rfl | exact in_yes hJ (by omega) hp ez e1 e2 e3 | with_reducible apply And.intro)
          dsimp only; omega
        · obtain ⟨w1, w2⟩ := in_end1 hJ (by omega)
          subst hQ
          exact hC hm x y x' y' ho hnone _ _ _ _ _ _ y1 y2 y3 w1 w2 k4
end Go.Proofs.Ytfhgnngdbbgogaa
end
