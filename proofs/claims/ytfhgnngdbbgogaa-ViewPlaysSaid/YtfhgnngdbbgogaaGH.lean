/- Parts of a proof, one behind the other: VR1 VR2 VR3 VR4. No condition. -/
import Derived.Test.YtfhgnngdbbgogaaGF
section
namespace Go.Proofs.Ytfhgnngdbbgogaa
open Go Reck Ost
set_option linter.unusedVariables false
set_option maxRecDepth 100000
def snB (R : Rws) (c : Nat) : ABlk := rowB 84 vlvK R c false
def rvB (kn : List Bool) (us : List Int) (s : Cell) : Option Blk := some ⟨30, kn.map (fun x => (.inl (.bool x) : Cell)) ++ us.map (fun u => xintC .i64 u) ++ [s], none, 19, false⟩
def rvSt (kn : List Bool) (us : List Int) (q rc : Nat) (R : Rws) : St := ⟨[rvB kn us (rslC ⟨0, 5, 0, q, rc⟩)], [], 0, [some (snB R rc)], 0⟩
def pGoodF : Pat := fun args σ => match args, σ with
  | [p], ⟨[], [], 0, [], 0⟩ => match aPl p with
    | some (a, b) => some fun K => ¬ U.Gd a b ∧ K (lit (.bool false)) emptySt
    | _ => none
  | _, _ => none
structure U.upI (v b n k : Int) : Prop where
  out : 1 ≤ k ∧ k ≤ b ∧ n = v / 2 ^ (k - 1).toNat
def upInv (v b : Int) (tm : List AV) (σ : St) : Inv where
  X := Int × Int
  tags := [0]
  tag _ _ := 0
  J := [0,1,2,4,7,8,9,10,11,12,13,14,15,16,17,18,19,20,21,22,23,24,25,26,27,28,29,30,31,32,33,34,35,36,37]
  val _ x := [(5, xi .i64 x.1), (6, xi .i64 x.2)]
  st _ _ σ' := σ'
  I _ x := U.upI v b x.1 x.2
  m _ x := (b - x.2).toNat
  ren := noRen
def invUp (v b : Int) : InvF := fun c tm σ => match tm.length, firstReg c with
  | 38, some 5 => some (upInv v b tm σ)
  | _, _ => none
theorem rUpN_vc (K:AV→St→Prop) (k0 k1 k2 k3 k4 k5 k6 k7 k8:Bool) (u0 u1 u2 u3 u4 u5 u6 u7 u8:Int) (q rc:Nat) (R:Rws) (a b:Int):(runR inv0 (tblIf 49 pGoodF) 27 [ptr 0 0,plA a b] (rvSt [k0,k1,k2,k3,k4,k5,k6,k7,k8] [u0,u1,u2,u3,u4,u5,u6,u7,u8] q rc R) K)=(¬U.Gd a b∧a=a∧b=b∧K (lit (.bool false)) ⟨[rvB [k0,k1,k2,k3,k4,k5,k6,k7,k8] [u0,u1,u2,u3,u4,u5,u6,u7,u8] (rslC ⟨0,5,0,q,rc⟩)],[],0,[some (snB R rc)],0⟩) := by kernel_rfl
theorem rUp1t_vc (K:AV→St→Prop) (k0 k2 k3 k4 k5 k6 k7 k8:Bool) (u0 u1 u2 u3 u4 u5 u6 u7 u8:Int) (q rc:Nat) (R:Rws) (b:Int):(runR (invUp u1 b) (tblIf 49 pGood) 27 [ptr 0 0,.inl (.inr [.inl (.int .i64 1),xintC .i64 b])] (rvSt [k0,true,k2,k3,k4,k5,k6,k7,k8] [u0,u1,u2,u3,u4,u5,u6,u7,u8] q rc R) K)=((U.Gd (1:Int) b→b=b∧(∃ (y0:Int × Int),u1=y0.1∧1=y0.2∧k0=k0∧true=true∧k2=k2∧k3=k3∧k4=k4∧k5=k5∧k6=k6∧k7=k7∧k8=k8∧u0=u0∧u1=u1∧u2=u2∧u3=u3∧u4=u4∧u5=u5∧u6=u6∧u7=u7∧u8=u8∧((0:Nat)=0∧q=q∧rc=rc)∧b=b∧(R=R∧rc=rc∧false=false)∧U.upI u1 b y0.1 y0.2)∧∀ (x1:Int × Int),U.upI u1 b x1.1 x1.2→(x1.2<b→¬(2:Int)=0∧∀ (z2:Int),z2=IntKind.wrap .i64 (Int.tdiv x1.1 (2:Int))→∀ (z3:Int),z3=IntKind.wrap .i64 (x1.2 + (1:Int))→∃ (y4:Int × Int),z2=y4.1∧z3=y4.2∧k0=k0∧true=true∧k2=k2∧k3=k3∧k4=k4∧k5=k5∧k6=k6∧k7=k7∧k8=k8∧u0=u0∧u1=u1∧u2=u2∧u3=u3∧u4=u4∧u5=u5∧u6=u6∧u7=u7∧u8=u8∧((0:Nat)=0∧q=q∧rc=rc)∧b=b∧(R=R∧rc=rc∧false=false)∧U.upI u1 b y4.1 y4.2∧Int.toNat (b - y4.2)<Int.toNat (b - x1.2))∧(¬x1.2<b→¬(2:Int)=0∧∀ (z5:Int),z5=Int.tmod x1.1 (2:Int)→(z5=1→K (lit (.bool true)) ⟨[rvB [k0,true,k2,k3,k4,k5,k6,k7,k8] [u0,u1,u2,u3,u4,u5,u6,u7,u8] (rslC ⟨0,5,0,q,rc⟩)],[],0,[some (snB R rc)],0⟩)∧(¬z5=1→K (lit (.bool false)) ⟨[rvB [k0,true,k2,k3,k4,k5,k6,k7,k8] [u0,u1,u2,u3,u4,u5,u6,u7,u8] (rslC ⟨0,5,0,q,rc⟩)],[],0,[some (snB R rc)],0⟩)))∧(¬U.Gd (1:Int) b→b=b∧K (lit (.bool false)) ⟨[rvB [k0,true,k2,k3,k4,k5,k6,k7,k8] [u0,u1,u2,u3,u4,u5,u6,u7,u8] (rslC ⟨0,5,0,q,rc⟩)],[],0,[some (snB R rc)],0⟩)) := by kernel_rfl
theorem rUp1f_vc (K:AV→St→Prop) (k0 k2 k3 k4 k5 k6 k7 k8:Bool) (u0 u1 u2 u3 u4 u5 u6 u7 u8:Int) (q rc:Nat) (R:Rws) (b:Int):(runR (invUp u1 b) (tblIf 49 pGood) 27 [ptr 0 0,.inl (.inr [.inl (.int .i64 1),xintC .i64 b])] (rvSt [k0,false,k2,k3,k4,k5,k6,k7,k8] [u0,u1,u2,u3,u4,u5,u6,u7,u8] q rc R) K)=((U.Gd (1:Int) b→b=b∧K (lit (.bool false)) ⟨[rvB [k0,false,k2,k3,k4,k5,k6,k7,k8] [u0,u1,u2,u3,u4,u5,u6,u7,u8] (rslC ⟨0,5,0,q,rc⟩)],[],0,[some (snB R rc)],0⟩)∧(¬U.Gd (1:Int) b→b=b∧K (lit (.bool false)) ⟨[rvB [k0,false,k2,k3,k4,k5,k6,k7,k8] [u0,u1,u2,u3,u4,u5,u6,u7,u8] (rslC ⟨0,5,0,q,rc⟩)],[],0,[some (snB R rc)],0⟩)) := by kernel_rfl
theorem rUp2t_vc (K:AV→St→Prop) (k0 k1 k3 k4 k5 k6 k7 k8:Bool) (u0 u1 u2 u3 u4 u5 u6 u7 u8:Int) (q rc:Nat) (R:Rws) (b:Int):(runR (invUp u2 b) (tblIf 49 pGood) 27 [ptr 0 0,.inl (.inr [.inl (.int .i64 2),xintC .i64 b])] (rvSt [k0,k1,true,k3,k4,k5,k6,k7,k8] [u0,u1,u2,u3,u4,u5,u6,u7,u8] q rc R) K)=((U.Gd (2:Int) b→b=b∧(∃ (y0:Int × Int),u2=y0.1∧1=y0.2∧k0=k0∧k1=k1∧true=true∧k3=k3∧k4=k4∧k5=k5∧k6=k6∧k7=k7∧k8=k8∧u0=u0∧u1=u1∧u2=u2∧u3=u3∧u4=u4∧u5=u5∧u6=u6∧u7=u7∧u8=u8∧((0:Nat)=0∧q=q∧rc=rc)∧b=b∧(R=R∧rc=rc∧false=false)∧U.upI u2 b y0.1 y0.2)∧∀ (x1:Int × Int),U.upI u2 b x1.1 x1.2→(x1.2<b→¬(2:Int)=0∧∀ (z2:Int),z2=IntKind.wrap .i64 (Int.tdiv x1.1 (2:Int))→∀ (z3:Int),z3=IntKind.wrap .i64 (x1.2 + (1:Int))→∃ (y4:Int × Int),z2=y4.1∧z3=y4.2∧k0=k0∧k1=k1∧true=true∧k3=k3∧k4=k4∧k5=k5∧k6=k6∧k7=k7∧k8=k8∧u0=u0∧u1=u1∧u2=u2∧u3=u3∧u4=u4∧u5=u5∧u6=u6∧u7=u7∧u8=u8∧((0:Nat)=0∧q=q∧rc=rc)∧b=b∧(R=R∧rc=rc∧false=false)∧U.upI u2 b y4.1 y4.2∧Int.toNat (b - y4.2)<Int.toNat (b - x1.2))∧(¬x1.2<b→¬(2:Int)=0∧∀ (z5:Int),z5=Int.tmod x1.1 (2:Int)→(z5=1→K (lit (.bool true)) ⟨[rvB [k0,k1,true,k3,k4,k5,k6,k7,k8] [u0,u1,u2,u3,u4,u5,u6,u7,u8] (rslC ⟨0,5,0,q,rc⟩)],[],0,[some (snB R rc)],0⟩)∧(¬z5=1→K (lit (.bool false)) ⟨[rvB [k0,k1,true,k3,k4,k5,k6,k7,k8] [u0,u1,u2,u3,u4,u5,u6,u7,u8] (rslC ⟨0,5,0,q,rc⟩)],[],0,[some (snB R rc)],0⟩)))∧(¬U.Gd (2:Int) b→b=b∧K (lit (.bool false)) ⟨[rvB [k0,k1,true,k3,k4,k5,k6,k7,k8] [u0,u1,u2,u3,u4,u5,u6,u7,u8] (rslC ⟨0,5,0,q,rc⟩)],[],0,[some (snB R rc)],0⟩)) := by kernel_rfl
theorem rUp2f_vc (K:AV→St→Prop) (k0 k1 k3 k4 k5 k6 k7 k8:Bool) (u0 u1 u2 u3 u4 u5 u6 u7 u8:Int) (q rc:Nat) (R:Rws) (b:Int):(runR (invUp u2 b) (tblIf 49 pGood) 27 [ptr 0 0,.inl (.inr [.inl (.int .i64 2),xintC .i64 b])] (rvSt [k0,k1,false,k3,k4,k5,k6,k7,k8] [u0,u1,u2,u3,u4,u5,u6,u7,u8] q rc R) K)=((U.Gd (2:Int) b→b=b∧K (lit (.bool false)) ⟨[rvB [k0,k1,false,k3,k4,k5,k6,k7,k8] [u0,u1,u2,u3,u4,u5,u6,u7,u8] (rslC ⟨0,5,0,q,rc⟩)],[],0,[some (snB R rc)],0⟩)∧(¬U.Gd (2:Int) b→b=b∧K (lit (.bool false)) ⟨[rvB [k0,k1,false,k3,k4,k5,k6,k7,k8] [u0,u1,u2,u3,u4,u5,u6,u7,u8] (rslC ⟨0,5,0,q,rc⟩)],[],0,[some (snB R rc)],0⟩)) := by kernel_rfl
theorem rUp3t_vc (K:AV→St→Prop) (k0 k1 k2 k4 k5 k6 k7 k8:Bool) (u0 u1 u2 u3 u4 u5 u6 u7 u8:Int) (q rc:Nat) (R:Rws) (b:Int):(runR (invUp u3 b) (tblIf 49 pGood) 27 [ptr 0 0,.inl (.inr [.inl (.int .i64 3),xintC .i64 b])] (rvSt [k0,k1,k2,true,k4,k5,k6,k7,k8] [u0,u1,u2,u3,u4,u5,u6,u7,u8] q rc R) K)=((U.Gd (3:Int) b→b=b∧(∃ (y0:Int × Int),u3=y0.1∧1=y0.2∧k0=k0∧k1=k1∧k2=k2∧true=true∧k4=k4∧k5=k5∧k6=k6∧k7=k7∧k8=k8∧u0=u0∧u1=u1∧u2=u2∧u3=u3∧u4=u4∧u5=u5∧u6=u6∧u7=u7∧u8=u8∧((0:Nat)=0∧q=q∧rc=rc)∧b=b∧(R=R∧rc=rc∧false=false)∧U.upI u3 b y0.1 y0.2)∧∀ (x1:Int × Int),U.upI u3 b x1.1 x1.2→(x1.2<b→¬(2:Int)=0∧∀ (z2:Int),z2=IntKind.wrap .i64 (Int.tdiv x1.1 (2:Int))→∀ (z3:Int),z3=IntKind.wrap .i64 (x1.2 + (1:Int))→∃ (y4:Int × Int),z2=y4.1∧z3=y4.2∧k0=k0∧k1=k1∧k2=k2∧true=true∧k4=k4∧k5=k5∧k6=k6∧k7=k7∧k8=k8∧u0=u0∧u1=u1∧u2=u2∧u3=u3∧u4=u4∧u5=u5∧u6=u6∧u7=u7∧u8=u8∧((0:Nat)=0∧q=q∧rc=rc)∧b=b∧(R=R∧rc=rc∧false=false)∧U.upI u3 b y4.1 y4.2∧Int.toNat (b - y4.2)<Int.toNat (b - x1.2))∧(¬x1.2<b→¬(2:Int)=0∧∀ (z5:Int),z5=Int.tmod x1.1 (2:Int)→(z5=1→K (lit (.bool true)) ⟨[rvB [k0,k1,k2,true,k4,k5,k6,k7,k8] [u0,u1,u2,u3,u4,u5,u6,u7,u8] (rslC ⟨0,5,0,q,rc⟩)],[],0,[some (snB R rc)],0⟩)∧(¬z5=1→K (lit (.bool false)) ⟨[rvB [k0,k1,k2,true,k4,k5,k6,k7,k8] [u0,u1,u2,u3,u4,u5,u6,u7,u8] (rslC ⟨0,5,0,q,rc⟩)],[],0,[some (snB R rc)],0⟩)))∧(¬U.Gd (3:Int) b→b=b∧K (lit (.bool false)) ⟨[rvB [k0,k1,k2,true,k4,k5,k6,k7,k8] [u0,u1,u2,u3,u4,u5,u6,u7,u8] (rslC ⟨0,5,0,q,rc⟩)],[],0,[some (snB R rc)],0⟩)) := by kernel_rfl
theorem rUp3f_vc (K:AV→St→Prop) (k0 k1 k2 k4 k5 k6 k7 k8:Bool) (u0 u1 u2 u3 u4 u5 u6 u7 u8:Int) (q rc:Nat) (R:Rws) (b:Int):(runR (invUp u3 b) (tblIf 49 pGood) 27 [ptr 0 0,.inl (.inr [.inl (.int .i64 3),xintC .i64 b])] (rvSt [k0,k1,k2,false,k4,k5,k6,k7,k8] [u0,u1,u2,u3,u4,u5,u6,u7,u8] q rc R) K)=((U.Gd (3:Int) b→b=b∧K (lit (.bool false)) ⟨[rvB [k0,k1,k2,false,k4,k5,k6,k7,k8] [u0,u1,u2,u3,u4,u5,u6,u7,u8] (rslC ⟨0,5,0,q,rc⟩)],[],0,[some (snB R rc)],0⟩)∧(¬U.Gd (3:Int) b→b=b∧K (lit (.bool false)) ⟨[rvB [k0,k1,k2,false,k4,k5,k6,k7,k8] [u0,u1,u2,u3,u4,u5,u6,u7,u8] (rslC ⟨0,5,0,q,rc⟩)],[],0,[some (snB R rc)],0⟩)) := by kernel_rfl
theorem rUp4t_vc (K:AV→St→Prop) (k0 k1 k2 k3 k5 k6 k7 k8:Bool) (u0 u1 u2 u3 u4 u5 u6 u7 u8:Int) (q rc:Nat) (R:Rws) (b:Int):(runR (invUp u4 b) (tblIf 49 pGood) 27 [ptr 0 0,.inl (.inr [.inl (.int .i64 4),xintC .i64 b])] (rvSt [k0,k1,k2,k3,true,k5,k6,k7,k8] [u0,u1,u2,u3,u4,u5,u6,u7,u8] q rc R) K)=((U.Gd (4:Int) b→b=b∧(∃ (y0:Int × Int),u4=y0.1∧1=y0.2∧k0=k0∧k1=k1∧k2=k2∧k3=k3∧true=true∧k5=k5∧k6=k6∧k7=k7∧k8=k8∧u0=u0∧u1=u1∧u2=u2∧u3=u3∧u4=u4∧u5=u5∧u6=u6∧u7=u7∧u8=u8∧((0:Nat)=0∧q=q∧rc=rc)∧b=b∧(R=R∧rc=rc∧false=false)∧U.upI u4 b y0.1 y0.2)∧∀ (x1:Int × Int),U.upI u4 b x1.1 x1.2→(x1.2<b→¬(2:Int)=0∧∀ (z2:Int),z2=IntKind.wrap .i64 (Int.tdiv x1.1 (2:Int))→∀ (z3:Int),z3=IntKind.wrap .i64 (x1.2 + (1:Int))→∃ (y4:Int × Int),z2=y4.1∧z3=y4.2∧k0=k0∧k1=k1∧k2=k2∧k3=k3∧true=true∧k5=k5∧k6=k6∧k7=k7∧k8=k8∧u0=u0∧u1=u1∧u2=u2∧u3=u3∧u4=u4∧u5=u5∧u6=u6∧u7=u7∧u8=u8∧((0:Nat)=0∧q=q∧rc=rc)∧b=b∧(R=R∧rc=rc∧false=false)∧U.upI u4 b y4.1 y4.2∧Int.toNat (b - y4.2)<Int.toNat (b - x1.2))∧(¬x1.2<b→¬(2:Int)=0∧∀ (z5:Int),z5=Int.tmod x1.1 (2:Int)→(z5=1→K (lit (.bool true)) ⟨[rvB [k0,k1,k2,k3,true,k5,k6,k7,k8] [u0,u1,u2,u3,u4,u5,u6,u7,u8] (rslC ⟨0,5,0,q,rc⟩)],[],0,[some (snB R rc)],0⟩)∧(¬z5=1→K (lit (.bool false)) ⟨[rvB [k0,k1,k2,k3,true,k5,k6,k7,k8] [u0,u1,u2,u3,u4,u5,u6,u7,u8] (rslC ⟨0,5,0,q,rc⟩)],[],0,[some (snB R rc)],0⟩)))∧(¬U.Gd (4:Int) b→b=b∧K (lit (.bool false)) ⟨[rvB [k0,k1,k2,k3,true,k5,k6,k7,k8] [u0,u1,u2,u3,u4,u5,u6,u7,u8] (rslC ⟨0,5,0,q,rc⟩)],[],0,[some (snB R rc)],0⟩)) := by kernel_rfl
theorem rUp4f_vc (K:AV→St→Prop) (k0 k1 k2 k3 k5 k6 k7 k8:Bool) (u0 u1 u2 u3 u4 u5 u6 u7 u8:Int) (q rc:Nat) (R:Rws) (b:Int):(runR (invUp u4 b) (tblIf 49 pGood) 27 [ptr 0 0,.inl (.inr [.inl (.int .i64 4),xintC .i64 b])] (rvSt [k0,k1,k2,k3,false,k5,k6,k7,k8] [u0,u1,u2,u3,u4,u5,u6,u7,u8] q rc R) K)=((U.Gd (4:Int) b→b=b∧K (lit (.bool false)) ⟨[rvB [k0,k1,k2,k3,false,k5,k6,k7,k8] [u0,u1,u2,u3,u4,u5,u6,u7,u8] (rslC ⟨0,5,0,q,rc⟩)],[],0,[some (snB R rc)],0⟩)∧(¬U.Gd (4:Int) b→b=b∧K (lit (.bool false)) ⟨[rvB [k0,k1,k2,k3,false,k5,k6,k7,k8] [u0,u1,u2,u3,u4,u5,u6,u7,u8] (rslC ⟨0,5,0,q,rc⟩)],[],0,[some (snB R rc)],0⟩)) := by kernel_rfl
theorem rUp5t_vc (K:AV→St→Prop) (k0 k1 k2 k3 k4 k6 k7 k8:Bool) (u0 u1 u2 u3 u4 u5 u6 u7 u8:Int) (q rc:Nat) (R:Rws) (b:Int):(runR (invUp u5 b) (tblIf 49 pGood) 27 [ptr 0 0,.inl (.inr [.inl (.int .i64 5),xintC .i64 b])] (rvSt [k0,k1,k2,k3,k4,true,k6,k7,k8] [u0,u1,u2,u3,u4,u5,u6,u7,u8] q rc R) K)=((U.Gd (5:Int) b→b=b∧(∃ (y0:Int × Int),u5=y0.1∧1=y0.2∧k0=k0∧k1=k1∧k2=k2∧k3=k3∧k4=k4∧true=true∧k6=k6∧k7=k7∧k8=k8∧u0=u0∧u1=u1∧u2=u2∧u3=u3∧u4=u4∧u5=u5∧u6=u6∧u7=u7∧u8=u8∧((0:Nat)=0∧q=q∧rc=rc)∧b=b∧(R=R∧rc=rc∧false=false)∧U.upI u5 b y0.1 y0.2)∧∀ (x1:Int × Int),U.upI u5 b x1.1 x1.2→(x1.2<b→¬(2:Int)=0∧∀ (z2:Int),z2=IntKind.wrap .i64 (Int.tdiv x1.1 (2:Int))→∀ (z3:Int),z3=IntKind.wrap .i64 (x1.2 + (1:Int))→∃ (y4:Int × Int),z2=y4.1∧z3=y4.2∧k0=k0∧k1=k1∧k2=k2∧k3=k3∧k4=k4∧true=true∧k6=k6∧k7=k7∧k8=k8∧u0=u0∧u1=u1∧u2=u2∧u3=u3∧u4=u4∧u5=u5∧u6=u6∧u7=u7∧u8=u8∧((0:Nat)=0∧q=q∧rc=rc)∧b=b∧(R=R∧rc=rc∧false=false)∧U.upI u5 b y4.1 y4.2∧Int.toNat (b - y4.2)<Int.toNat (b - x1.2))∧(¬x1.2<b→¬(2:Int)=0∧∀ (z5:Int),z5=Int.tmod x1.1 (2:Int)→(z5=1→K (lit (.bool true)) ⟨[rvB [k0,k1,k2,k3,k4,true,k6,k7,k8] [u0,u1,u2,u3,u4,u5,u6,u7,u8] (rslC ⟨0,5,0,q,rc⟩)],[],0,[some (snB R rc)],0⟩)∧(¬z5=1→K (lit (.bool false)) ⟨[rvB [k0,k1,k2,k3,k4,true,k6,k7,k8] [u0,u1,u2,u3,u4,u5,u6,u7,u8] (rslC ⟨0,5,0,q,rc⟩)],[],0,[some (snB R rc)],0⟩)))∧(¬U.Gd (5:Int) b→b=b∧K (lit (.bool false)) ⟨[rvB [k0,k1,k2,k3,k4,true,k6,k7,k8] [u0,u1,u2,u3,u4,u5,u6,u7,u8] (rslC ⟨0,5,0,q,rc⟩)],[],0,[some (snB R rc)],0⟩)) := by kernel_rfl
theorem rUp5f_vc (K:AV→St→Prop) (k0 k1 k2 k3 k4 k6 k7 k8:Bool) (u0 u1 u2 u3 u4 u5 u6 u7 u8:Int) (q rc:Nat) (R:Rws) (b:Int):(runR (invUp u5 b) (tblIf 49 pGood) 27 [ptr 0 0,.inl (.inr [.inl (.int .i64 5),xintC .i64 b])] (rvSt [k0,k1,k2,k3,k4,false,k6,k7,k8] [u0,u1,u2,u3,u4,u5,u6,u7,u8] q rc R) K)=((U.Gd (5:Int) b→b=b∧K (lit (.bool false)) ⟨[rvB [k0,k1,k2,k3,k4,false,k6,k7,k8] [u0,u1,u2,u3,u4,u5,u6,u7,u8] (rslC ⟨0,5,0,q,rc⟩)],[],0,[some (snB R rc)],0⟩)∧(¬U.Gd (5:Int) b→b=b∧K (lit (.bool false)) ⟨[rvB [k0,k1,k2,k3,k4,false,k6,k7,k8] [u0,u1,u2,u3,u4,u5,u6,u7,u8] (rslC ⟨0,5,0,q,rc⟩)],[],0,[some (snB R rc)],0⟩)) := by kernel_rfl
theorem rUp6t_vc (K:AV→St→Prop) (k0 k1 k2 k3 k4 k5 k7 k8:Bool) (u0 u1 u2 u3 u4 u5 u6 u7 u8:Int) (q rc:Nat) (R:Rws) (b:Int):(runR (invUp u6 b) (tblIf 49 pGood) 27 [ptr 0 0,.inl (.inr [.inl (.int .i64 6),xintC .i64 b])] (rvSt [k0,k1,k2,k3,k4,k5,true,k7,k8] [u0,u1,u2,u3,u4,u5,u6,u7,u8] q rc R) K)=((U.Gd (6:Int) b→b=b∧(∃ (y0:Int × Int),u6=y0.1∧1=y0.2∧k0=k0∧k1=k1∧k2=k2∧k3=k3∧k4=k4∧k5=k5∧true=true∧k7=k7∧k8=k8∧u0=u0∧u1=u1∧u2=u2∧u3=u3∧u4=u4∧u5=u5∧u6=u6∧u7=u7∧u8=u8∧((0:Nat)=0∧q=q∧rc=rc)∧b=b∧(R=R∧rc=rc∧false=false)∧U.upI u6 b y0.1 y0.2)∧∀ (x1:Int × Int),U.upI u6 b x1.1 x1.2→(x1.2<b→¬(2:Int)=0∧∀ (z2:Int),z2=IntKind.wrap .i64 (Int.tdiv x1.1 (2:Int))→∀ (z3:Int),z3=IntKind.wrap .i64 (x1.2 + (1:Int))→∃ (y4:Int × Int),z2=y4.1∧z3=y4.2∧k0=k0∧k1=k1∧k2=k2∧k3=k3∧k4=k4∧k5=k5∧true=true∧k7=k7∧k8=k8∧u0=u0∧u1=u1∧u2=u2∧u3=u3∧u4=u4∧u5=u5∧u6=u6∧u7=u7∧u8=u8∧((0:Nat)=0∧q=q∧rc=rc)∧b=b∧(R=R∧rc=rc∧false=false)∧U.upI u6 b y4.1 y4.2∧Int.toNat (b - y4.2)<Int.toNat (b - x1.2))∧(¬x1.2<b→¬(2:Int)=0∧∀ (z5:Int),z5=Int.tmod x1.1 (2:Int)→(z5=1→K (lit (.bool true)) ⟨[rvB [k0,k1,k2,k3,k4,k5,true,k7,k8] [u0,u1,u2,u3,u4,u5,u6,u7,u8] (rslC ⟨0,5,0,q,rc⟩)],[],0,[some (snB R rc)],0⟩)∧(¬z5=1→K (lit (.bool false)) ⟨[rvB [k0,k1,k2,k3,k4,k5,true,k7,k8] [u0,u1,u2,u3,u4,u5,u6,u7,u8] (rslC ⟨0,5,0,q,rc⟩)],[],0,[some (snB R rc)],0⟩)))∧(¬U.Gd (6:Int) b→b=b∧K (lit (.bool false)) ⟨[rvB [k0,k1,k2,k3,k4,k5,true,k7,k8] [u0,u1,u2,u3,u4,u5,u6,u7,u8] (rslC ⟨0,5,0,q,rc⟩)],[],0,[some (snB R rc)],0⟩)) := by kernel_rfl
theorem rUp6f_vc (K:AV→St→Prop) (k0 k1 k2 k3 k4 k5 k7 k8:Bool) (u0 u1 u2 u3 u4 u5 u6 u7 u8:Int) (q rc:Nat) (R:Rws) (b:Int):(runR (invUp u6 b) (tblIf 49 pGood) 27 [ptr 0 0,.inl (.inr [.inl (.int .i64 6),xintC .i64 b])] (rvSt [k0,k1,k2,k3,k4,k5,false,k7,k8] [u0,u1,u2,u3,u4,u5,u6,u7,u8] q rc R) K)=((U.Gd (6:Int) b→b=b∧K (lit (.bool false)) ⟨[rvB [k0,k1,k2,k3,k4,k5,false,k7,k8] [u0,u1,u2,u3,u4,u5,u6,u7,u8] (rslC ⟨0,5,0,q,rc⟩)],[],0,[some (snB R rc)],0⟩)∧(¬U.Gd (6:Int) b→b=b∧K (lit (.bool false)) ⟨[rvB [k0,k1,k2,k3,k4,k5,false,k7,k8] [u0,u1,u2,u3,u4,u5,u6,u7,u8] (rslC ⟨0,5,0,q,rc⟩)],[],0,[some (snB R rc)],0⟩)) := by kernel_rfl
theorem rUp7t_vc (K:AV→St→Prop) (k0 k1 k2 k3 k4 k5 k6 k8:Bool) (u0 u1 u2 u3 u4 u5 u6 u7 u8:Int) (q rc:Nat) (R:Rws) (b:Int):(runR (invUp u7 b) (tblIf 49 pGood) 27 [ptr 0 0,.inl (.inr [.inl (.int .i64 7),xintC .i64 b])] (rvSt [k0,k1,k2,k3,k4,k5,k6,true,k8] [u0,u1,u2,u3,u4,u5,u6,u7,u8] q rc R) K)=((U.Gd (7:Int) b→b=b∧(∃ (y0:Int × Int),u7=y0.1∧1=y0.2∧k0=k0∧k1=k1∧k2=k2∧k3=k3∧k4=k4∧k5=k5∧k6=k6∧true=true∧k8=k8∧u0=u0∧u1=u1∧u2=u2∧u3=u3∧u4=u4∧u5=u5∧u6=u6∧u7=u7∧u8=u8∧((0:Nat)=0∧q=q∧rc=rc)∧b=b∧(R=R∧rc=rc∧false=false)∧U.upI u7 b y0.1 y0.2)∧∀ (x1:Int × Int),U.upI u7 b x1.1 x1.2→(x1.2<b→¬(2:Int)=0∧∀ (z2:Int),z2=IntKind.wrap .i64 (Int.tdiv x1.1 (2:Int))→∀ (z3:Int),z3=IntKind.wrap .i64 (x1.2 + (1:Int))→∃ (y4:Int × Int),z2=y4.1∧z3=y4.2∧k0=k0∧k1=k1∧k2=k2∧k3=k3∧k4=k4∧k5=k5∧k6=k6∧true=true∧k8=k8∧u0=u0∧u1=u1∧u2=u2∧u3=u3∧u4=u4∧u5=u5∧u6=u6∧u7=u7∧u8=u8∧((0:Nat)=0∧q=q∧rc=rc)∧b=b∧(R=R∧rc=rc∧false=false)∧U.upI u7 b y4.1 y4.2∧Int.toNat (b - y4.2)<Int.toNat (b - x1.2))∧(¬x1.2<b→¬(2:Int)=0∧∀ (z5:Int),z5=Int.tmod x1.1 (2:Int)→(z5=1→K (lit (.bool true)) ⟨[rvB [k0,k1,k2,k3,k4,k5,k6,true,k8] [u0,u1,u2,u3,u4,u5,u6,u7,u8] (rslC ⟨0,5,0,q,rc⟩)],[],0,[some (snB R rc)],0⟩)∧(¬z5=1→K (lit (.bool false)) ⟨[rvB [k0,k1,k2,k3,k4,k5,k6,true,k8] [u0,u1,u2,u3,u4,u5,u6,u7,u8] (rslC ⟨0,5,0,q,rc⟩)],[],0,[some (snB R rc)],0⟩)))∧(¬U.Gd (7:Int) b→b=b∧K (lit (.bool false)) ⟨[rvB [k0,k1,k2,k3,k4,k5,k6,true,k8] [u0,u1,u2,u3,u4,u5,u6,u7,u8] (rslC ⟨0,5,0,q,rc⟩)],[],0,[some (snB R rc)],0⟩)) := by kernel_rfl
theorem rUp7f_vc (K:AV→St→Prop) (k0 k1 k2 k3 k4 k5 k6 k8:Bool) (u0 u1 u2 u3 u4 u5 u6 u7 u8:Int) (q rc:Nat) (R:Rws) (b:Int):(runR (invUp u7 b) (tblIf 49 pGood) 27 [ptr 0 0,.inl (.inr [.inl (.int .i64 7),xintC .i64 b])] (rvSt [k0,k1,k2,k3,k4,k5,k6,false,k8] [u0,u1,u2,u3,u4,u5,u6,u7,u8] q rc R) K)=((U.Gd (7:Int) b→b=b∧K (lit (.bool false)) ⟨[rvB [k0,k1,k2,k3,k4,k5,k6,false,k8] [u0,u1,u2,u3,u4,u5,u6,u7,u8] (rslC ⟨0,5,0,q,rc⟩)],[],0,[some (snB R rc)],0⟩)∧(¬U.Gd (7:Int) b→b=b∧K (lit (.bool false)) ⟨[rvB [k0,k1,k2,k3,k4,k5,k6,false,k8] [u0,u1,u2,u3,u4,u5,u6,u7,u8] (rslC ⟨0,5,0,q,rc⟩)],[],0,[some (snB R rc)],0⟩)) := by kernel_rfl
theorem rUp8t_vc (K:AV→St→Prop) (k0 k1 k2 k3 k4 k5 k6 k7:Bool) (u0 u1 u2 u3 u4 u5 u6 u7 u8:Int) (q rc:Nat) (R:Rws) (b:Int):(runR (invUp u8 b) (tblIf 49 pGood) 27 [ptr 0 0,.inl (.inr [.inl (.int .i64 8),xintC .i64 b])] (rvSt [k0,k1,k2,k3,k4,k5,k6,k7,true] [u0,u1,u2,u3,u4,u5,u6,u7,u8] q rc R) K)=((U.Gd (8:Int) b→b=b∧(∃ (y0:Int × Int),u8=y0.1∧1=y0.2∧k0=k0∧k1=k1∧k2=k2∧k3=k3∧k4=k4∧k5=k5∧k6=k6∧k7=k7∧true=true∧u0=u0∧u1=u1∧u2=u2∧u3=u3∧u4=u4∧u5=u5∧u6=u6∧u7=u7∧u8=u8∧((0:Nat)=0∧q=q∧rc=rc)∧b=b∧(R=R∧rc=rc∧false=false)∧U.upI u8 b y0.1 y0.2)∧∀ (x1:Int × Int),U.upI u8 b x1.1 x1.2→(x1.2<b→¬(2:Int)=0∧∀ (z2:Int),z2=IntKind.wrap .i64 (Int.tdiv x1.1 (2:Int))→∀ (z3:Int),z3=IntKind.wrap .i64 (x1.2 + (1:Int))→∃ (y4:Int × Int),z2=y4.1∧z3=y4.2∧k0=k0∧k1=k1∧k2=k2∧k3=k3∧k4=k4∧k5=k5∧k6=k6∧k7=k7∧true=true∧u0=u0∧u1=u1∧u2=u2∧u3=u3∧u4=u4∧u5=u5∧u6=u6∧u7=u7∧u8=u8∧((0:Nat)=0∧q=q∧rc=rc)∧b=b∧(R=R∧rc=rc∧false=false)∧U.upI u8 b y4.1 y4.2∧Int.toNat (b - y4.2)<Int.toNat (b - x1.2))∧(¬x1.2<b→¬(2:Int)=0∧∀ (z5:Int),z5=Int.tmod x1.1 (2:Int)→(z5=1→K (lit (.bool true)) ⟨[rvB [k0,k1,k2,k3,k4,k5,k6,k7,true] [u0,u1,u2,u3,u4,u5,u6,u7,u8] (rslC ⟨0,5,0,q,rc⟩)],[],0,[some (snB R rc)],0⟩)∧(¬z5=1→K (lit (.bool false)) ⟨[rvB [k0,k1,k2,k3,k4,k5,k6,k7,true] [u0,u1,u2,u3,u4,u5,u6,u7,u8] (rslC ⟨0,5,0,q,rc⟩)],[],0,[some (snB R rc)],0⟩)))∧(¬U.Gd (8:Int) b→b=b∧K (lit (.bool false)) ⟨[rvB [k0,k1,k2,k3,k4,k5,k6,k7,true] [u0,u1,u2,u3,u4,u5,u6,u7,u8] (rslC ⟨0,5,0,q,rc⟩)],[],0,[some (snB R rc)],0⟩)) := by kernel_rfl
theorem rUp8f_vc (K:AV→St→Prop) (k0 k1 k2 k3 k4 k5 k6 k7:Bool) (u0 u1 u2 u3 u4 u5 u6 u7 u8:Int) (q rc:Nat) (R:Rws) (b:Int):(runR (invUp u8 b) (tblIf 49 pGood) 27 [ptr 0 0,.inl (.inr [.inl (.int .i64 8),xintC .i64 b])] (rvSt [k0,k1,k2,k3,k4,k5,k6,k7,false] [u0,u1,u2,u3,u4,u5,u6,u7,u8] q rc R) K)=((U.Gd (8:Int) b→b=b∧K (lit (.bool false)) ⟨[rvB [k0,k1,k2,k3,k4,k5,k6,k7,false] [u0,u1,u2,u3,u4,u5,u6,u7,u8] (rslC ⟨0,5,0,q,rc⟩)],[],0,[some (snB R rc)],0⟩)∧(¬U.Gd (8:Int) b→b=b∧K (lit (.bool false)) ⟨[rvB [k0,k1,k2,k3,k4,k5,k6,k7,false] [u0,u1,u2,u3,u4,u5,u6,u7,u8] (rslC ⟨0,5,0,q,rc⟩)],[],0,[some (snB R rc)],0⟩)) := by kernel_rfl
end Go.Proofs.Ytfhgnngdbbgogaa
end
section
set_option linter.unusedVariables false
set_option linter.unusedSimpArgs false
set_option maxRecDepth 10000
namespace Go.Proofs.Ytfhgnngdbbgogaa
open Go Reck Ost
theorem up_0 {a b v : Int} (g : U.Gd a b) : U.upI v b v 1 := ⟨by omega, g.out.2.1, by simp⟩
theorem up_s {a b v n k z2 z3 : Int} (g : U.Gd a b) (hv : 0 ≤ v ∧ v ≤ 255) (h : U.upI v b n k) (hk : k < b) (e2 : z2 = IntKind.wrap .i64 (Int.tdiv n 2)) (e3 : z3 = IntKind.wrap .i64 (k + 1)) : U.upI v b z2 z3 ∧ (b - z3).toNat < (b - k).toNat := by
  obtain ⟨h1, h2, h3⟩ := h.out
  have gb := g.out.2
  have hp : (0 : Int) < 2 ^ (k - 1).toNat := Int.pow_pos (by decide)
  have hn : 0 ≤ n := by rw [h3]; exact Int.ediv_nonneg hv.1 (Int.le_of_lt hp)
  have hn2 : n ≤ v := by rw [h3]; exact Int.ediv_le_self _ hv.1
  rw [Int.tdiv_eq_ediv_of_nonneg hn] at e2
  have e2 := iw e2 (by omega)
  have e3 := iw e3 (by omega)
  refine ⟨⟨by omega, by omega, ?_⟩, by omega⟩
  rw [e2, h3, e3, Int.ediv_ediv_of_nonneg (Int.le_of_lt hp), show (k + 1 - 1).toNat = (k - 1).toNat + 1 by omega, Int.pow_succ]
theorem up_e {a b v n k z : Int} (g : U.Gd a b) (hv : 0 ≤ v ∧ v ≤ 255) (h : U.upI v b n k) (hk : ¬ k < b) (e : z = Int.tmod n 2) : z = U.bit v b := by
  obtain ⟨h1, h2, h3⟩ := h.out
  have hp : (0 : Int) < 2 ^ (k - 1).toNat := Int.pow_pos (by decide)
  have hn : 0 ≤ n := by rw [h3]; exact Int.ediv_nonneg hv.1 (Int.le_of_lt hp)
  rw [Int.tmod_eq_emod_of_nonneg hn] at e
  rw [e, h3, show k = b by omega]
  rfl
theorem rUp1t_run (K : AV → St → Prop) (k0 k2 k3 k4 k5 k6 k7 k8 : Bool) (u0 u1 u2 u3 u4 u5 u6 u7 u8 : Int) (q rc : Nat) (R : Rws) (b : Int) (hv : 0 ≤ u1 ∧ u1 ≤ 255) (h1 : U.Gd 1 b → U.bit u1 b = 1 → K (lit (.bool true)) (rvSt [k0, true, k2, k3, k4, k5, k6, k7, k8] [u0, u1, u2, u3, u4, u5, u6, u7, u8] q rc R)) (h2 : ¬ (U.Gd 1 b ∧ U.bit u1 b = 1) → K (lit (.bool false)) (rvSt [k0, true, k2, k3, k4, k5, k6, k7, k8] [u0, u1, u2, u3, u4, u5, u6, u7, u8] q rc R)) : runR (invUp u1 b) (tblIf 49 pGood) 27 [ptr 0 0, .inl (.inr [.inl (.int .i64 1), xintC .i64 b])] (rvSt [k0, true, k2, k3, k4, k5, k6, k7, k8] [u0, u1, u2, u3, u4, u5, u6, u7, u8] q rc R) K := by
  rw [rUp1t_vc]
  refine ⟨fun hg => ⟨rfl, ?_, ?_⟩, fun hg => ⟨rfl, h2 fun h => hg h.1⟩⟩
  · refine ⟨(u1, 1), ?_⟩
    repeat' (first | exact rfl | with_reducible apply And.intro)
    exact up_0 hg
  · rintro ⟨n, k⟩ hI
    refine ⟨fun hk => ⟨by decide, fun z2 e2 z3 e3 => ?_⟩, fun hk => ⟨by decide, fun z5 e5 => ⟨fun hz => h1 hg ((up_e hg hv hI hk e5).symm.trans hz), fun hz => h2 fun h => hz ((up_e hg hv hI hk e5).trans h.2)⟩⟩⟩
    have := up_s hg hv hI hk e2 e3
    refine ⟨(z2, z3), ?_⟩
    repeat' (first | exact rfl | exact this.1 | exact this.2 | with_reducible apply And.intro)
theorem rUp1f_run (K : AV → St → Prop) (k0 k2 k3 k4 k5 k6 k7 k8 : Bool) (u0 u1 u2 u3 u4 u5 u6 u7 u8 : Int) (q rc : Nat) (R : Rws) (b : Int) (h2 : K (lit (.bool false)) (rvSt [k0, false, k2, k3, k4, k5, k6, k7, k8] [u0, u1, u2, u3, u4, u5, u6, u7, u8] q rc R)) : runR (invUp u1 b) (tblIf 49 pGood) 27 [ptr 0 0, .inl (.inr [.inl (.int .i64 1), xintC .i64 b])] (rvSt [k0, false, k2, k3, k4, k5, k6, k7, k8] [u0, u1, u2, u3, u4, u5, u6, u7, u8] q rc R) K := by
  rw [rUp1f_vc]
  exact ⟨fun hg => ⟨rfl, h2⟩, fun hg => ⟨rfl, h2⟩⟩
theorem rUp2t_run (K : AV → St → Prop) (k0 k1 k3 k4 k5 k6 k7 k8 : Bool) (u0 u1 u2 u3 u4 u5 u6 u7 u8 : Int) (q rc : Nat) (R : Rws) (b : Int) (hv : 0 ≤ u2 ∧ u2 ≤ 255) (h1 : U.Gd 2 b → U.bit u2 b = 1 → K (lit (.bool true)) (rvSt [k0, k1, true, k3, k4, k5, k6, k7, k8] [u0, u1, u2, u3, u4, u5, u6, u7, u8] q rc R)) (h2 : ¬ (U.Gd 2 b ∧ U.bit u2 b = 1) → K (lit (.bool false)) (rvSt [k0, k1, true, k3, k4, k5, k6, k7, k8] [u0, u1, u2, u3, u4, u5, u6, u7, u8] q rc R)) : runR (invUp u2 b) (tblIf 49 pGood) 27 [ptr 0 0, .inl (.inr [.inl (.int .i64 2), xintC .i64 b])] (rvSt [k0, k1, true, k3, k4, k5, k6, k7, k8] [u0, u1, u2, u3, u4, u5, u6, u7, u8] q rc R) K := by
  rw [rUp2t_vc]
  refine ⟨fun hg => ⟨rfl, ?_, ?_⟩, fun hg => ⟨rfl, h2 fun h => hg h.1⟩⟩
  · refine ⟨(u2, 1), ?_⟩
    repeat' (first | exact rfl | with_reducible apply And.intro)
    exact up_0 hg
  · rintro ⟨n, k⟩ hI
    refine ⟨fun hk => ⟨by decide, fun z2 e2 z3 e3 => ?_⟩, fun hk => ⟨by decide, fun z5 e5 => ⟨fun hz => h1 hg ((up_e hg hv hI hk e5).symm.trans hz), fun hz => h2 fun h => hz ((up_e hg hv hI hk e5).trans h.2)⟩⟩⟩
    have := up_s hg hv hI hk e2 e3
    refine ⟨(z2, z3), ?_⟩
    repeat' (first | exact rfl | exact this.1 | exact this.2 | with_reducible apply And.intro)
theorem rUp2f_run (K : AV → St → Prop) (k0 k1 k3 k4 k5 k6 k7 k8 : Bool) (u0 u1 u2 u3 u4 u5 u6 u7 u8 : Int) (q rc : Nat) (R : Rws) (b : Int) (h2 : K (lit (.bool false)) (rvSt [k0, k1, false, k3, k4, k5, k6, k7, k8] [u0, u1, u2, u3, u4, u5, u6, u7, u8] q rc R)) : runR (invUp u2 b) (tblIf 49 pGood) 27 [ptr 0 0, .inl (.inr [.inl (.int .i64 2), xintC .i64 b])] (rvSt [k0, k1, false, k3, k4, k5, k6, k7, k8] [u0, u1, u2, u3, u4, u5, u6, u7, u8] q rc R) K := by
  rw [rUp2f_vc]
  exact ⟨fun hg => ⟨rfl, h2⟩, fun hg => ⟨rfl, h2⟩⟩
theorem rUp3t_run (K : AV → St → Prop) (k0 k1 k2 k4 k5 k6 k7 k8 : Bool) (u0 u1 u2 u3 u4 u5 u6 u7 u8 : Int) (q rc : Nat) (R : Rws) (b : Int) (hv : 0 ≤ u3 ∧ u3 ≤ 255) (h1 : U.Gd 3 b → U.bit u3 b = 1 → K (lit (.bool true)) (rvSt [k0, k1, k2, true, k4, k5, k6, k7, k8] [u0, u1, u2, u3, u4, u5, u6, u7, u8] q rc R)) (h2 : ¬ (U.Gd 3 b ∧ U.bit u3 b = 1) → K (lit (.bool false)) (rvSt [k0, k1, k2, true, k4, k5, k6, k7, k8] [u0, u1, u2, u3, u4, u5, u6, u7, u8] q rc R)) : runR (invUp u3 b) (tblIf 49 pGood) 27 [ptr 0 0, .inl (.inr [.inl (.int .i64 3), xintC .i64 b])] (rvSt [k0, k1, k2, true, k4, k5, k6, k7, k8] [u0, u1, u2, u3, u4, u5, u6, u7, u8] q rc R) K := by
  rw [rUp3t_vc]
  refine ⟨fun hg => ⟨rfl, ?_, ?_⟩, fun hg => ⟨rfl, h2 fun h => hg h.1⟩⟩
  · refine ⟨(u3, 1), ?_⟩
    repeat' (first | exact rfl | with_reducible apply And.intro)
    exact up_0 hg
  · rintro ⟨n, k⟩ hI
    refine ⟨fun hk => ⟨by decide, fun z2 e2 z3 e3 => ?_⟩, fun hk => ⟨by decide, fun z5 e5 => ⟨fun hz => h1 hg ((up_e hg hv hI hk e5).symm.trans hz), fun hz => h2 fun h => hz ((up_e hg hv hI hk e5).trans h.2)⟩⟩⟩
    have := up_s hg hv hI hk e2 e3
    refine ⟨(z2, z3), ?_⟩
    repeat' (first | exact rfl | exact this.1 | exact this.2 | with_reducible apply And.intro)
theorem rUp3f_run (K : AV → St → Prop) (k0 k1 k2 k4 k5 k6 k7 k8 : Bool) (u0 u1 u2 u3 u4 u5 u6 u7 u8 : Int) (q rc : Nat) (R : Rws) (b : Int) (h2 : K (lit (.bool false)) (rvSt [k0, k1, k2, false, k4, k5, k6, k7, k8] [u0, u1, u2, u3, u4, u5, u6, u7, u8] q rc R)) : runR (invUp u3 b) (tblIf 49 pGood) 27 [ptr 0 0, .inl (.inr [.inl (.int .i64 3), xintC .i64 b])] (rvSt [k0, k1, k2, false, k4, k5, k6, k7, k8] [u0, u1, u2, u3, u4, u5, u6, u7, u8] q rc R) K := by
  rw [rUp3f_vc]
  exact ⟨fun hg => ⟨rfl, h2⟩, fun hg => ⟨rfl, h2⟩⟩
theorem rUp4t_run (K : AV → St → Prop) (k0 k1 k2 k3 k5 k6 k7 k8 : Bool) (u0 u1 u2 u3 u4 u5 u6 u7 u8 : Int) (q rc : Nat) (R : Rws) (b : Int) (hv : 0 ≤ u4 ∧ u4 ≤ 255) (h1 : U.Gd 4 b → U.bit u4 b = 1 → K (lit (.bool true)) (rvSt [k0, k1, k2, k3, true, k5, k6, k7, k8] [u0, u1, u2, u3, u4, u5, u6, u7, u8] q rc R)) (h2 : ¬ (U.Gd 4 b ∧ U.bit u4 b = 1) → K (lit (.bool false)) (rvSt [k0, k1, k2, k3, true, k5, k6, k7, k8] [u0, u1, u2, u3, u4, u5, u6, u7, u8] q rc R)) : runR (invUp u4 b) (tblIf 49 pGood) 27 [ptr 0 0, .inl (.inr [.inl (.int .i64 4), xintC .i64 b])] (rvSt [k0, k1, k2, k3, true, k5, k6, k7, k8] [u0, u1, u2, u3, u4, u5, u6, u7, u8] q rc R) K := by
  rw [rUp4t_vc]
  refine ⟨fun hg => ⟨rfl, ?_, ?_⟩, fun hg => ⟨rfl, h2 fun h => hg h.1⟩⟩
  · refine ⟨(u4, 1), ?_⟩
    repeat' (first | exact rfl | with_reducible apply And.intro)
    exact up_0 hg
  · rintro ⟨n, k⟩ hI
    refine ⟨fun hk => ⟨by decide, fun z2 e2 z3 e3 => ?_⟩, fun hk => ⟨by decide, fun z5 e5 => ⟨fun hz => h1 hg ((up_e hg hv hI hk e5).symm.trans hz), fun hz => h2 fun h => hz ((up_e hg hv hI hk e5).trans h.2)⟩⟩⟩
    have := up_s hg hv hI hk e2 e3
    refine ⟨(z2, z3), ?_⟩
    repeat' (first | exact rfl | exact this.1 | exact this.2 | with_reducible apply And.intro)
theorem rUp4f_run (K : AV → St → Prop) (k0 k1 k2 k3 k5 k6 k7 k8 : Bool) (u0 u1 u2 u3 u4 u5 u6 u7 u8 : Int) (q rc : Nat) (R : Rws) (b : Int) (h2 : K (lit (.bool false)) (rvSt [k0, k1, k2, k3, false, k5, k6, k7, k8] [u0, u1, u2, u3, u4, u5, u6, u7, u8] q rc R)) : runR (invUp u4 b) (tblIf 49 pGood) 27 [ptr 0 0, .inl (.inr [.inl (.int .i64 4), xintC .i64 b])] (rvSt [k0, k1, k2, k3, false, k5, k6, k7, k8] [u0, u1, u2, u3, u4, u5, u6, u7, u8] q rc R) K := by
  rw [rUp4f_vc]
  exact ⟨fun hg => ⟨rfl, h2⟩, fun hg => ⟨rfl, h2⟩⟩
theorem rUp5t_run (K : AV → St → Prop) (k0 k1 k2 k3 k4 k6 k7 k8 : Bool) (u0 u1 u2 u3 u4 u5 u6 u7 u8 : Int) (q rc : Nat) (R : Rws) (b : Int) (hv : 0 ≤ u5 ∧ u5 ≤ 255) (h1 : U.Gd 5 b → U.bit u5 b = 1 → K (lit (.bool true)) (rvSt [k0, k1, k2, k3, k4, true, k6, k7, k8] [u0, u1, u2, u3, u4, u5, u6, u7, u8] q rc R)) (h2 : ¬ (U.Gd 5 b ∧ U.bit u5 b = 1) → K (lit (.bool false)) (rvSt [k0, k1, k2, k3, k4, true, k6, k7, k8] [u0, u1, u2, u3, u4, u5, u6, u7, u8] q rc R)) : runR (invUp u5 b) (tblIf 49 pGood) 27 [ptr 0 0, .inl (.inr [.inl (.int .i64 5), xintC .i64 b])] (rvSt [k0, k1, k2, k3, k4, true, k6, k7, k8] [u0, u1, u2, u3, u4, u5, u6, u7, u8] q rc R) K := by
  rw [rUp5t_vc]
  refine ⟨fun hg => ⟨rfl, ?_, ?_⟩, fun hg => ⟨rfl, h2 fun h => hg h.1⟩⟩
  · refine ⟨(u5, 1), ?_⟩
    repeat' (first | exact rfl | with_reducible apply And.intro)
    exact up_0 hg
  · rintro ⟨n, k⟩ hI
    refine ⟨fun hk => ⟨by decide, fun z2 e2 z3 e3 => ?_⟩, fun hk => ⟨by decide, fun z5 e5 => ⟨fun hz => h1 hg ((up_e hg hv hI hk e5).symm.trans hz), fun hz => h2 fun h => hz ((up_e hg hv hI hk e5).trans h.2)⟩⟩⟩
    have := up_s hg hv hI hk e2 e3
    refine ⟨(z2, z3), ?_⟩
    repeat' (first | exact rfl | exact this.1 | exact this.2 | with_reducible apply And.intro)
theorem rUp5f_run (K : AV → St → Prop) (k0 k1 k2 k3 k4 k6 k7 k8 : Bool) (u0 u1 u2 u3 u4 u5 u6 u7 u8 : Int) (q rc : Nat) (R : Rws) (b : Int) (h2 : K (lit (.bool false)) (rvSt [k0, k1, k2, k3, k4, false, k6, k7, k8] [u0, u1, u2, u3, u4, u5, u6, u7, u8] q rc R)) : runR (invUp u5 b) (tblIf 49 pGood) 27 [ptr 0 0, .inl (.inr [.inl (.int .i64 5), xintC .i64 b])] (rvSt [k0, k1, k2, k3, k4, false, k6, k7, k8] [u0, u1, u2, u3, u4, u5, u6, u7, u8] q rc R) K := by
  rw [rUp5f_vc]
  exact ⟨fun hg => ⟨rfl, h2⟩, fun hg => ⟨rfl, h2⟩⟩
theorem rUp6t_run (K : AV → St → Prop) (k0 k1 k2 k3 k4 k5 k7 k8 : Bool) (u0 u1 u2 u3 u4 u5 u6 u7 u8 : Int) (q rc : Nat) (R : Rws) (b : Int) (hv : 0 ≤ u6 ∧ u6 ≤ 255) (h1 : U.Gd 6 b → U.bit u6 b = 1 → K (lit (.bool true)) (rvSt [k0, k1, k2, k3, k4, k5, true, k7, k8] [u0, u1, u2, u3, u4, u5, u6, u7, u8] q rc R)) (h2 : ¬ (U.Gd 6 b ∧ U.bit u6 b = 1) → K (lit (.bool false)) (rvSt [k0, k1, k2, k3, k4, k5, true, k7, k8] [u0, u1, u2, u3, u4, u5, u6, u7, u8] q rc R)) : runR (invUp u6 b) (tblIf 49 pGood) 27 [ptr 0 0, .inl (.inr [.inl (.int .i64 6), xintC .i64 b])] (rvSt [k0, k1, k2, k3, k4, k5, true, k7, k8] [u0, u1, u2, u3, u4, u5, u6, u7, u8] q rc R) K := by
  rw [rUp6t_vc]
  refine ⟨fun hg => ⟨rfl, ?_, ?_⟩, fun hg => ⟨rfl, h2 fun h => hg h.1⟩⟩
  · refine ⟨(u6, 1), ?_⟩
    repeat' (first | exact rfl | with_reducible apply And.intro)
    exact up_0 hg
  · rintro ⟨n, k⟩ hI
    refine ⟨fun hk => ⟨by decide, fun z2 e2 z3 e3 => ?_⟩, fun hk => ⟨by decide, fun z5 e5 => ⟨fun hz => h1 hg ((up_e hg hv hI hk e5).symm.trans hz), fun hz => h2 fun h => hz ((up_e hg hv hI hk e5).trans h.2)⟩⟩⟩
    have := up_s hg hv hI hk e2 e3
    refine ⟨(z2, z3), ?_⟩
    repeat' (first | exact rfl | exact this.1 | exact this.2 | with_reducible apply And.intro)
theorem rUp6f_run (K : AV → St → Prop) (k0 k1 k2 k3 k4 k5 k7 k8 : Bool) (u0 u1 u2 u3 u4 u5 u6 u7 u8 : Int) (q rc : Nat) (R : Rws) (b : Int) (h2 : K (lit (.bool false)) (rvSt [k0, k1, k2, k3, k4, k5, false, k7, k8] [u0, u1, u2, u3, u4, u5, u6, u7, u8] q rc R)) : runR (invUp u6 b) (tblIf 49 pGood) 27 [ptr 0 0, .inl (.inr [.inl (.int .i64 6), xintC .i64 b])] (rvSt [k0, k1, k2, k3, k4, k5, false, k7, k8] [u0, u1, u2, u3, u4, u5, u6, u7, u8] q rc R) K := by
  rw [rUp6f_vc]
  exact ⟨fun hg => ⟨rfl, h2⟩, fun hg => ⟨rfl, h2⟩⟩
theorem rUp7t_run (K : AV → St → Prop) (k0 k1 k2 k3 k4 k5 k6 k8 : Bool) (u0 u1 u2 u3 u4 u5 u6 u7 u8 : Int) (q rc : Nat) (R : Rws) (b : Int) (hv : 0 ≤ u7 ∧ u7 ≤ 255) (h1 : U.Gd 7 b → U.bit u7 b = 1 → K (lit (.bool true)) (rvSt [k0, k1, k2, k3, k4, k5, k6, true, k8] [u0, u1, u2, u3, u4, u5, u6, u7, u8] q rc R)) (h2 : ¬ (U.Gd 7 b ∧ U.bit u7 b = 1) → K (lit (.bool false)) (rvSt [k0, k1, k2, k3, k4, k5, k6, true, k8] [u0, u1, u2, u3, u4, u5, u6, u7, u8] q rc R)) : runR (invUp u7 b) (tblIf 49 pGood) 27 [ptr 0 0, .inl (.inr [.inl (.int .i64 7), xintC .i64 b])] (rvSt [k0, k1, k2, k3, k4, k5, k6, true, k8] [u0, u1, u2, u3, u4, u5, u6, u7, u8] q rc R) K := by
  rw [rUp7t_vc]
  refine ⟨fun hg => ⟨rfl, ?_, ?_⟩, fun hg => ⟨rfl, h2 fun h => hg h.1⟩⟩
  · refine ⟨(u7, 1), ?_⟩
    repeat' (first | exact rfl | with_reducible apply And.intro)
    exact up_0 hg
  · rintro ⟨n, k⟩ hI
    refine ⟨fun hk => ⟨by decide, fun z2 e2 z3 e3 => ?_⟩, fun hk => ⟨by decide, fun z5 e5 => ⟨fun hz => h1 hg ((up_e hg hv hI hk e5).symm.trans hz), fun hz => h2 fun h => hz ((up_e hg hv hI hk e5).trans h.2)⟩⟩⟩
    have := up_s hg hv hI hk e2 e3
    refine ⟨(z2, z3), ?_⟩
    repeat' (first | exact rfl | exact this.1 | exact this.2 | with_reducible apply And.intro)
theorem rUp7f_run (K : AV → St → Prop) (k0 k1 k2 k3 k4 k5 k6 k8 : Bool) (u0 u1 u2 u3 u4 u5 u6 u7 u8 : Int) (q rc : Nat) (R : Rws) (b : Int) (h2 : K (lit (.bool false)) (rvSt [k0, k1, k2, k3, k4, k5, k6, false, k8] [u0, u1, u2, u3, u4, u5, u6, u7, u8] q rc R)) : runR (invUp u7 b) (tblIf 49 pGood) 27 [ptr 0 0, .inl (.inr [.inl (.int .i64 7), xintC .i64 b])] (rvSt [k0, k1, k2, k3, k4, k5, k6, false, k8] [u0, u1, u2, u3, u4, u5, u6, u7, u8] q rc R) K := by
  rw [rUp7f_vc]
  exact ⟨fun hg => ⟨rfl, h2⟩, fun hg => ⟨rfl, h2⟩⟩
theorem rUp8t_run (K : AV → St → Prop) (k0 k1 k2 k3 k4 k5 k6 k7 : Bool) (u0 u1 u2 u3 u4 u5 u6 u7 u8 : Int) (q rc : Nat) (R : Rws) (b : Int) (hv : 0 ≤ u8 ∧ u8 ≤ 255) (h1 : U.Gd 8 b → U.bit u8 b = 1 → K (lit (.bool true)) (rvSt [k0, k1, k2, k3, k4, k5, k6, k7, true] [u0, u1, u2, u3, u4, u5, u6, u7, u8] q rc R)) (h2 : ¬ (U.Gd 8 b ∧ U.bit u8 b = 1) → K (lit (.bool false)) (rvSt [k0, k1, k2, k3, k4, k5, k6, k7, true] [u0, u1, u2, u3, u4, u5, u6, u7, u8] q rc R)) : runR (invUp u8 b) (tblIf 49 pGood) 27 [ptr 0 0, .inl (.inr [.inl (.int .i64 8), xintC .i64 b])] (rvSt [k0, k1, k2, k3, k4, k5, k6, k7, true] [u0, u1, u2, u3, u4, u5, u6, u7, u8] q rc R) K := by
  rw [rUp8t_vc]
  refine ⟨fun hg => ⟨rfl, ?_, ?_⟩, fun hg => ⟨rfl, h2 fun h => hg h.1⟩⟩
  · refine ⟨(u8, 1), ?_⟩
    repeat' (first | exact rfl | with_reducible apply And.intro)
    exact up_0 hg
  · rintro ⟨n, k⟩ hI
    refine ⟨fun hk => ⟨by decide, fun z2 e2 z3 e3 => ?_⟩, fun hk => ⟨by decide, fun z5 e5 => ⟨fun hz => h1 hg ((up_e hg hv hI hk e5).symm.trans hz), fun hz => h2 fun h => hz ((up_e hg hv hI hk e5).trans h.2)⟩⟩⟩
    have := up_s hg hv hI hk e2 e3
    refine ⟨(z2, z3), ?_⟩
    repeat' (first | exact rfl | exact this.1 | exact this.2 | with_reducible apply And.intro)
theorem rUp8f_run (K : AV → St → Prop) (k0 k1 k2 k3 k4 k5 k6 k7 : Bool) (u0 u1 u2 u3 u4 u5 u6 u7 u8 : Int) (q rc : Nat) (R : Rws) (b : Int) (h2 : K (lit (.bool false)) (rvSt [k0, k1, k2, k3, k4, k5, k6, k7, false] [u0, u1, u2, u3, u4, u5, u6, u7, u8] q rc R)) : runR (invUp u8 b) (tblIf 49 pGood) 27 [ptr 0 0, .inl (.inr [.inl (.int .i64 8), xintC .i64 b])] (rvSt [k0, k1, k2, k3, k4, k5, k6, k7, false] [u0, u1, u2, u3, u4, u5, u6, u7, u8] q rc R) K := by
  rw [rUp8f_vc]
  exact ⟨fun hg => ⟨rfl, h2⟩, fun hg => ⟨rfl, h2⟩⟩
theorem pGoodF_ok : PatOk 49 pGoodF := by
  intro tm σ C h K hK w0 e w hk vs hvs
  unfold pGoodF at h
  split at h
  · split at h
    · rename_i a b hp
      simp only [Option.some.injEq] at h; subst h
      obtain ⟨v, rfl, hv⟩ := ones hvs
      exact knownC noOv names (conOk_ofR tbl0_ok) (rgood_run K a b (fun g => absurd g hK.1) (fun _ => hK.2)) w0 e w hk _ (map1 (aPl_av hp hv))
    · cases h
  · cases h
def cBool : Cell → Option Bool
  | .inl (.bool b) => some b
  | _ => none
theorem cBools_eq : ∀ {l : List Cell} {kn : List Bool}, seqO (l.map cBool) = some kn → l = kn.map fun x => (.inl (.bool x) : Cell)
  | [], kn, h => by simp [seqO] at h; subst h; rfl
  | c :: l, kn, h => by
    have h1 := seqO_some.1 h
    match kn, h1 with
    | x :: kn, h1 =>
      simp only [List.map_cons, List.cons.injEq] at h1
      have h2 := cBools_eq (seqO_some.2 h1.2)
      have hc : c = .inl (.bool x) := by
        have := h1.1
        unfold cBool at this
        split at this
        · cases this; rfl
        · cases this
      rw [hc, h2]; rfl
theorem cInts_eq : ∀ {l : List Cell} {us : List Int}, seqO (l.map cInt) = some us → l = us.map fun u => xintC .i64 u
  | [], us, h => by simp [seqO] at h; subst h; rfl
  | c :: l, us, h => by
    have h1 := seqO_some.1 h
    match us, h1 with
    | x :: us, h1 =>
      simp only [List.map_cons, List.cons.injEq] at h1
      have h2 := cInts_eq (seqO_some.2 h1.2)
      rw [cInt_eq h1.1, h2]; rfl
def rvC (σ : St) : Option (List Bool × List Int × Nat × Nat × Rws) := match σ with
  | ⟨[some ⟨30, [c0, c1, c2, c3, c4, c5, c6, c7, c8, d0, d1, d2, d3, d4, d5, d6, d7, d8, s], none, 19, false⟩], [], 0, [some ⟨84, .o (.rows ks R), [], rc, false⟩], 0⟩ => match seqO ([c0, c1, c2, c3, c4, c5, c6, c7, c8].map cBool), seqO ([d0, d1, d2, d3, d4, d5, d6, d7, d8].map cInt), cRsl s, sameK ks vlvK with
    | some kn, some us, some ⟨0, 5, 0, q, _⟩, true => some (kn, us, q, rc, R)
    | _, _, _, _ => none
  | _ => none
def rvD (σ : St) : Prop := match σ with
  | ⟨[some ⟨_, [_, _, _, _, _, _, _, _, _, _, _, _, _, _, _, _, _, _, s], _, _, _⟩], _, _, [some ⟨_, _, _, rc, _⟩], _⟩ => (match cRsl s with
    | some ⟨_, _, _, _, c⟩ => c = rc
    | none => False)
  | _ => False
theorem rvC_eq {σ : St} {kn : List Bool} {us : List Int} {q rc : Nat} {R : Rws} (h : rvC σ = some (kn, us, q, rc, R)) (hy : rvD σ) : σ = rvSt kn us q rc R ∧ kn.length = 9 ∧ us.length = 9 := by
  unfold rvC at h
  split at h
  · split at h
    · rename_i h1 h2 h3 h4
      simp only [Option.some.injEq, Prod.mk.injEq] at h
      obtain ⟨rfl, rfl, rfl, rfl, rfl⟩ := h
      simp only [rvD, h3] at hy
      subst hy
      have e1 := cBools_eq h1
      have e2 := cInts_eq h2
      have l1 := congrArg List.length e1
      have l2 := congrArg List.length e2
      rw [List.length_map] at l1 l2
      refine ⟨?_, l1.symm, l2.symm⟩
      unfold rvSt rvB
      rw [← e1, ← e2, cRsl_eq h3, sameK_eq h4]
      rfl
    · cases h
  · cases h
structure U.rUp (kn : List Bool) (us : List Int) (a b : Int) : Prop where
  out : U.Gd a b ∧ kn.getD a.toNat false = true ∧ U.bit (us.getD a.toNat 0) b = 1
def U.UB (us : List Int) : Prop := ∀ u ∈ us, 0 ≤ u ∧ u ≤ 255
structure U.ubI (us : List Int) : Prop where
  out : ∀ u ∈ us, 0 ≤ u ∧ u ≤ 255
def prUp : Pat := fun args σ => match args with
  | [.inl (.inl (.inr (.inl (0, 0)))), p] => match aPl p, rvC σ with
    | some (a, b), some (kn, us, q, rc, R) => some fun K => (rvD σ ∧ U.ubI us) ∧ (U.rUp kn us a b → K (lit (.bool true)) (rvSt kn us q rc R)) ∧ (¬ U.rUp kn us a b → K (lit (.bool false)) (rvSt kn us q rc R))
    | _, _ => none
  | _ => none
theorem nine {α : Type} {l : List α} (h : l.length = 9) : ∃ x0 x1 x2 x3 x4 x5 x6 x7 x8, l = [x0, x1, x2, x3, x4, x5, x6, x7, x8] := by
  match l, h with
  | [x0, x1, x2, x3, x4, x5, x6, x7, x8], _ => exact ⟨_, _, _, _, _, _, _, _, _, rfl⟩
theorem prUp_ok : PatOk 27 prUp := by
  intro tm σ C h K hK w0 e w hk vs hvs
  unfold prUp at h
  split at h
  · split at h
    · rename_i a b kn us q rc R hp hσ
      simp only [Option.some.injEq] at h; subst h
      obtain ⟨⟨hd, hb⟩, hT, hF⟩ := hK
      obtain ⟨rfl, l1, l2⟩ := rvC_eq hσ hd
      obtain ⟨k0, k1, k2, k3, k4, k5, k6, k7, k8, rfl⟩ := nine l1
      obtain ⟨u0, u1, u2, u3, u4, u5, u6, u7, u8, rfl⟩ := nine l2
      have hb := hb.out
      obtain ⟨x, y, rfl, q1, q2⟩ := twos hvs
      have hv2 := map2 q1 (aPl_av hp q2)
      by_cases g : U.Gd a b
      · have ga := g.out.1
        by_cases e1 : a = 1
        · subst e1
          cases k1 with
          | true => exact knownC noOv names (conOk_ofR (tblIf_ok prGood_ok)) (rUp1t_run K k0 k2 k3 k4 k5 k6 k7 k8 u0 u1 u2 u3 u4 u5 u6 u7 u8 q rc R b (hb u1 (by simp)) (fun _ h => hT ⟨g, rfl, h⟩) (fun h => hF fun hx => h ⟨g, hx.out.2.2⟩)) w0 e w hk _ hv2
          | false => exact knownC noOv names (conOk_ofR (tblIf_ok prGood_ok)) (rUp1f_run K k0 k2 k3 k4 k5 k6 k7 k8 u0 u1 u2 u3 u4 u5 u6 u7 u8 q rc R b (hF fun hx => by have := hx.out.2.1; cases this)) w0 e w hk _ hv2
        by_cases e2 : a = 2
        · subst e2
          cases k2 with
          | true => exact knownC noOv names (conOk_ofR (tblIf_ok prGood_ok)) (rUp2t_run K k0 k1 k3 k4 k5 k6 k7 k8 u0 u1 u2 u3 u4 u5 u6 u7 u8 q rc R b (hb u2 (by simp)) (fun _ h => hT ⟨g, rfl, h⟩) (fun h => hF fun hx => h ⟨g, hx.out.2.2⟩)) w0 e w hk _ hv2
          | false => exact knownC noOv names (conOk_ofR (tblIf_ok prGood_ok)) (rUp2f_run K k0 k1 k3 k4 k5 k6 k7 k8 u0 u1 u2 u3 u4 u5 u6 u7 u8 q rc R b (hF fun hx => by have := hx.out.2.1; cases this)) w0 e w hk _ hv2
        by_cases e3 : a = 3
        · subst e3
          cases k3 with
          | true => exact knownC noOv names (conOk_ofR (tblIf_ok prGood_ok)) (rUp3t_run K k0 k1 k2 k4 k5 k6 k7 k8 u0 u1 u2 u3 u4 u5 u6 u7 u8 q rc R b (hb u3 (by simp)) (fun _ h => hT ⟨g, rfl, h⟩) (fun h => hF fun hx => h ⟨g, hx.out.2.2⟩)) w0 e w hk _ hv2
          | false => exact knownC noOv names (conOk_ofR (tblIf_ok prGood_ok)) (rUp3f_run K k0 k1 k2 k4 k5 k6 k7 k8 u0 u1 u2 u3 u4 u5 u6 u7 u8 q rc R b (hF fun hx => by have := hx.out.2.1; cases this)) w0 e w hk _ hv2
        by_cases e4 : a = 4
        · subst e4
          cases k4 with
          | true => exact knownC noOv names (conOk_ofR (tblIf_ok prGood_ok)) (rUp4t_run K k0 k1 k2 k3 k5 k6 k7 k8 u0 u1 u2 u3 u4 u5 u6 u7 u8 q rc R b (hb u4 (by simp)) (fun _ h => hT ⟨g, rfl, h⟩) (fun h => hF fun hx => h ⟨g, hx.out.2.2⟩)) w0 e w hk _ hv2
          | false => exact knownC noOv names (conOk_ofR (tblIf_ok prGood_ok)) (rUp4f_run K k0 k1 k2 k3 k5 k6 k7 k8 u0 u1 u2 u3 u4 u5 u6 u7 u8 q rc R b (hF fun hx => by have := hx.out.2.1; cases this)) w0 e w hk _ hv2
        by_cases e5 : a = 5
        · subst e5
          cases k5 with
          | true => exact knownC noOv names (conOk_ofR (tblIf_ok prGood_ok)) (rUp5t_run K k0 k1 k2 k3 k4 k6 k7 k8 u0 u1 u2 u3 u4 u5 u6 u7 u8 q rc R b (hb u5 (by simp)) (fun _ h => hT ⟨g, rfl, h⟩) (fun h => hF fun hx => h ⟨g, hx.out.2.2⟩)) w0 e w hk _ hv2
          | false => exact knownC noOv names (conOk_ofR (tblIf_ok prGood_ok)) (rUp5f_run K k0 k1 k2 k3 k4 k6 k7 k8 u0 u1 u2 u3 u4 u5 u6 u7 u8 q rc R b (hF fun hx => by have := hx.out.2.1; cases this)) w0 e w hk _ hv2
        by_cases e6 : a = 6
        · subst e6
          cases k6 with
          | true => exact knownC noOv names (conOk_ofR (tblIf_ok prGood_ok)) (rUp6t_run K k0 k1 k2 k3 k4 k5 k7 k8 u0 u1 u2 u3 u4 u5 u6 u7 u8 q rc R b (hb u6 (by simp)) (fun _ h => hT ⟨g, rfl, h⟩) (fun h => hF fun hx => h ⟨g, hx.out.2.2⟩)) w0 e w hk _ hv2
          | false => exact knownC noOv names (conOk_ofR (tblIf_ok prGood_ok)) (rUp6f_run K k0 k1 k2 k3 k4 k5 k7 k8 u0 u1 u2 u3 u4 u5 u6 u7 u8 q rc R b (hF fun hx => by have := hx.out.2.1; cases this)) w0 e w hk _ hv2
        by_cases e7 : a = 7
        · subst e7
          cases k7 with
          | true => exact knownC noOv names (conOk_ofR (tblIf_ok prGood_ok)) (rUp7t_run K k0 k1 k2 k3 k4 k5 k6 k8 u0 u1 u2 u3 u4 u5 u6 u7 u8 q rc R b (hb u7 (by simp)) (fun _ h => hT ⟨g, rfl, h⟩) (fun h => hF fun hx => h ⟨g, hx.out.2.2⟩)) w0 e w hk _ hv2
          | false => exact knownC noOv names (conOk_ofR (tblIf_ok prGood_ok)) (rUp7f_run K k0 k1 k2 k3 k4 k5 k6 k8 u0 u1 u2 u3 u4 u5 u6 u7 u8 q rc R b (hF fun hx => by have := hx.out.2.1; cases this)) w0 e w hk _ hv2
        by_cases e8 : a = 8
        · subst e8
          cases k8 with
          | true => exact knownC noOv names (conOk_ofR (tblIf_ok prGood_ok)) (rUp8t_run K k0 k1 k2 k3 k4 k5 k6 k7 u0 u1 u2 u3 u4 u5 u6 u7 u8 q rc R b (hb u8 (by simp)) (fun _ h => hT ⟨g, rfl, h⟩) (fun h => hF fun hx => h ⟨g, hx.out.2.2⟩)) w0 e w hk _ hv2
          | false => exact knownC noOv names (conOk_ofR (tblIf_ok prGood_ok)) (rUp8f_run K k0 k1 k2 k3 k4 k5 k6 k7 u0 u1 u2 u3 u4 u5 u6 u7 u8 q rc R b (hF fun hx => by have := hx.out.2.1; cases this)) w0 e w hk _ hv2
        omega
      · have hg := hF fun hx => g hx.out.1
        exact knownC noOv names (conOk_ofR (tblIf_ok pGoodF_ok)) (show runR inv0 (tblIf 49 pGoodF) 27 [ptr 0 0, plA a b] (rvSt [k0, k1, k2, k3, k4, k5, k6, k7, k8] [u0, u1, u2, u3, u4, u5, u6, u7, u8] q rc R) K by rw [rUpN_vc]; exact ⟨g, rfl, rfl, hg⟩) w0 e w hk _ hv2
    · cases h
  · cases h
def tR2 : Tbl := tblIf 27 prUp
theorem tR2_ok : TblOk Try.prog tR2 := tblIf_ok prUp_ok
end Go.Proofs.Ytfhgnngdbbgogaa
end
section
namespace Go.Proofs.Ytfhgnngdbbgogaa
open Go Reck Ost
set_option linter.unusedVariables false
set_option maxRecDepth 100000
structure U.kpI (P : VLP) (F : Int × VLv → Bool) (i : Int) (G : Rws) (gq gc : Nat) (H : Rws) (hq hc : Nat) : Prop where
  out : (0 ≤ i ∧ i ≤ P.length) ∧ G = U.lks ((P.take i.toNat).filter F) ∧ gq = G.length ∧ gq ≤ gc ∧ (gq : Int) ≤ i ∧ H = U.vlvs ((P.take i.toNat).filter fun p => !F p) ∧ hq = H.length ∧ hq ≤ hc ∧ (hq : Int) ≤ i
def kpInv (P : VLP) (F : Int × VLv → Bool) (tm : List AV) (σ : St) : Inv where
  X := Int × (XP × XP)
  tags := [0]
  tag _ _ := 0
  J := [2,3,6,7,10,11,12,15,16,17,18,19,20,24,25,26,27,28,29,30,31,32,33,34,35,36,37,38,39,40,41,42,43,44,45,46,47,48,49,50,51,52,53,54,55,56,57,58,59,60,61,62,63,64,65,66,67,68,69,70,71,72,73,74,75,76,77,78,79,80,81,82,83,84,85,86,87,88,89,90,91,92,93,94,95,96,97,98,99,100,101,102,103,104,105,106,107,108]
  val _ x := [(23, xi .i64 x.1), (13, cell (rslC ⟨σ.arrs.length, 4, 0, x.2.1.2.1, x.2.1.2.2⟩)), (14, cell (rslC ⟨σ.arrs.length + 1, 5, 0, x.2.2.2.1, x.2.2.2.2⟩))]
  st _ x σ' := ⟨σ'.heap, σ'.ints, σ'.opqs, σ'.arrs.dropLast.dropLast ++ [some (liB x.2.1.1 x.2.1.2.2), some (snB x.2.2.1 x.2.2.2.2)], σ'.junks⟩
  I _ x := U.kpI P F x.1 x.2.1.1 x.2.1.2.1 x.2.1.2.2 x.2.2.1 x.2.2.2.1 x.2.2.2.2
  m _ x := ((slotR tm 21).n : Int).toNat - x.1.toNat
  ren tm' σ' := ([], [(slotR tm' 13).a, (slotR tm' 14).a])
def invKp (P : VLP) (F : Int × VLv → Bool) : InvF := fun c tm σ => match tm.length, firstReg c with
  | 109, some 4 => some (kpInv P F tm σ)
  | _, _ => none
abbrev kpA (kind : Int) (a b a' b' now most : Int) : List AV := [ptr 0 0, .inl (.inl (.inl (.int .i64 kind))), plA a b, plA a' b', xi .i64 now, xi .i64 most]
theorem keep0_vc (K:AV→St→Prop) (P:VLP) (F:Int × VLv→Bool) (k0 k1 k2 k3 k4 k5 k6 k7 k8:Bool) (u0 u1 u2 u3 u4 u5 u6 u7 u8:Int) (q rc:Nat) (R:Rws) (a b a' b' now most:Int):(runR (invKp P F) tR2 48 (kpA 0 a b a' b' now most) (rvSt [k0,k1,k2,k3,k4,k5,k6,k7,k8] [u0,u1,u2,u3,u4,u5,u6,u7,u8] q rc R) K)=(∀ (z0:Int),z0=(↑q:Int)→(∃ (y1:Int × XP × XP),now=now∧most=most∧((0:Nat)=0∧0=y1.2.1.2.1∧0=y1.2.1.2.2)∧((0:Nat)=0∧0=y1.2.2.2.1∧0=y1.2.2.2.2)∧((0:Nat)=0∧q=q∧rc=rc)∧z0=z0∧0=y1.1∧k0=k0∧k1=k1∧k2=k2∧k3=k3∧k4=k4∧k5=k5∧k6=k6∧k7=k7∧k8=k8∧u0=u0∧u1=u1∧u2=u2∧u3=u3∧u4=u4∧u5=u5∧u6=u6∧u7=u7∧u8=u8∧((0:Nat)=0∧q=q∧rc=rc)∧a=a∧b=b∧a'=a'∧b'=b'∧(R=R∧rc=rc∧false=false)∧(U.nilL=U.nilL∧(0:Nat)=0∧false=false)∧(U.nilL=y1.2.1.1∧0=y1.2.1.2.2∧false=false)∧(U.nilL=y1.2.2.1∧0=y1.2.2.2.2∧false=false)∧U.kpI P F y1.1 y1.2.1.1 y1.2.1.2.1 y1.2.1.2.2 y1.2.2.1 y1.2.2.2.1 y1.2.2.2.2)∧∀ (x2:Int × XP × XP),U.kpI P F x2.1 x2.2.1.1 x2.2.1.2.1 x2.2.1.2.2 x2.2.2.1 x2.2.2.2.1 x2.2.2.2.2→(x2.1<z0→(0≤x2.1∧x2.1<(↑q:Int))∧∀ (j3:Nat),(↑j3:Int)=(↑((0:Nat)):Int) + x2.1→j3<List.length R∧∀ (z4:Int),z4=U.fi R j3 ((0:Nat))→∀ (z5:Int),z5=U.fi R j3 ((0:Nat) + (1:Nat))→∀ (z6:Int),z6=U.fi R j3 ((0:Nat) + (1:Nat) + (1:Nat))→∀ (z7:Int),z7=U.fi R j3 ((0:Nat) + (1:Nat) + (1:Nat) + (1:Nat))→∀ (z8:Int),z8=U.fi R j3 ((0:Nat) + (1:Nat) + (1:Nat) + (1:Nat) + (1:Nat))→(rc=rc∧U.ubI [u0,u1,u2,u3,u4,u5,u6,u7,u8])∧(U.rUp [k0,k1,k2,k3,k4,k5,k6,k7,k8] [u0,u1,u2,u3,u4,u5,u6,u7,u8] z4 z5→(rc=rc∧U.ubI [u0,u1,u2,u3,u4,u5,u6,u7,u8])∧(U.rUp [k0,k1,k2,k3,k4,k5,k6,k7,k8] [u0,u1,u2,u3,u4,u5,u6,u7,u8] z6 z7→((0:Nat) + x2.2.2.2.1≤List.length x2.2.2.1∧(0:Nat) + x2.2.2.2.2≤x2.2.2.2.2)∧True∧x2.2.2.2.1≤16777216∧(1:Nat)≤16777216∧∀ (L'9:List (List CV)) (n'10 c'11:Nat),L'9=List.take x2.2.2.2.1 (List.drop ((0:Nat)) x2.2.2.1) ++ [CV.i z4,CV.i z5,CV.i z6,CV.i z7,CV.i z8] :: U.nilL→n'10=x2.2.2.2.1 + (1:Nat)→n'10≤c'11→∀ (z12:Int),z12=IntKind.wrap .i64 (x2.1 + (1:Int))→∃ (y13:Int × XP × XP),now=now∧most=most∧((0:Nat)=0∧x2.2.1.2.1=y13.2.1.2.1∧x2.2.1.2.2=y13.2.1.2.2)∧((0:Nat)=0∧n'10=y13.2.2.2.1∧c'11=y13.2.2.2.2)∧((0:Nat)=0∧q=q∧rc=rc)∧z0=z0∧z12=y13.1∧k0=k0∧k1=k1∧k2=k2∧k3=k3∧k4=k4∧k5=k5∧k6=k6∧k7=k7∧k8=k8∧u0=u0∧u1=u1∧u2=u2∧u3=u3∧u4=u4∧u5=u5∧u6=u6∧u7=u7∧u8=u8∧((0:Nat)=0∧q=q∧rc=rc)∧a=a∧b=b∧a'=a'∧b'=b'∧(R=R∧rc=rc∧false=false)∧(U.nilL=U.nilL∧(0:Nat)=0∧false=false)∧(x2.2.1.1=y13.2.1.1∧x2.2.1.2.2=y13.2.1.2.2∧false=false)∧(L'9=y13.2.2.1∧c'11=y13.2.2.2.2∧false=false)∧U.kpI P F y13.1 y13.2.1.1 y13.2.1.2.1 y13.2.1.2.2 y13.2.2.1 y13.2.2.2.1 y13.2.2.2.2∧Int.toNat (↑q:Int) - Int.toNat y13.1<Int.toNat (↑q:Int) - Int.toNat x2.1)∧(¬U.rUp [k0,k1,k2,k3,k4,k5,k6,k7,k8] [u0,u1,u2,u3,u4,u5,u6,u7,u8] z6 z7→((0:Nat) + x2.2.1.2.1≤List.length x2.2.1.1∧(0:Nat) + x2.2.1.2.2≤x2.2.1.2.2)∧True∧x2.2.1.2.1≤16777216∧(1:Nat)≤16777216∧∀ (L'14:List (List CV)) (n'15 c'16:Nat),L'14=List.take x2.2.1.2.1 (List.drop ((0:Nat)) x2.2.1.1) ++ [CV.i z4,CV.i z5,CV.i z6,CV.i z7] :: U.nilL→n'15=x2.2.1.2.1 + (1:Nat)→n'15≤c'16→∀ (z17:Int),z17=IntKind.wrap .i64 (x2.1 + (1:Int))→∃ (y18:Int × XP × XP),now=now∧most=most∧((0:Nat)=0∧n'15=y18.2.1.2.1∧c'16=y18.2.1.2.2)∧((0:Nat)=0∧x2.2.2.2.1=y18.2.2.2.1∧x2.2.2.2.2=y18.2.2.2.2)∧((0:Nat)=0∧q=q∧rc=rc)∧z0=z0∧z17=y18.1∧k0=k0∧k1=k1∧k2=k2∧k3=k3∧k4=k4∧k5=k5∧k6=k6∧k7=k7∧k8=k8∧u0=u0∧u1=u1∧u2=u2∧u3=u3∧u4=u4∧u5=u5∧u6=u6∧u7=u7∧u8=u8∧((0:Nat)=0∧q=q∧rc=rc)∧a=a∧b=b∧a'=a'∧b'=b'∧(R=R∧rc=rc∧false=false)∧(U.nilL=U.nilL∧(0:Nat)=0∧false=false)∧(L'14=y18.2.1.1∧c'16=y18.2.1.2.2∧false=false)∧(x2.2.2.1=y18.2.2.1∧x2.2.2.2.2=y18.2.2.2.2∧false=false)∧U.kpI P F y18.1 y18.2.1.1 y18.2.1.2.1 y18.2.1.2.2 y18.2.2.1 y18.2.2.2.1 y18.2.2.2.2∧Int.toNat (↑q:Int) - Int.toNat y18.1<Int.toNat (↑q:Int) - Int.toNat x2.1))∧(¬U.rUp [k0,k1,k2,k3,k4,k5,k6,k7,k8] [u0,u1,u2,u3,u4,u5,u6,u7,u8] z4 z5→((0:Nat) + x2.2.1.2.1≤List.length x2.2.1.1∧(0:Nat) + x2.2.1.2.2≤x2.2.1.2.2)∧True∧x2.2.1.2.1≤16777216∧(1:Nat)≤16777216∧∀ (L'19:List (List CV)) (n'20 c'21:Nat),L'19=List.take x2.2.1.2.1 (List.drop ((0:Nat)) x2.2.1.1) ++ [CV.i z4,CV.i z5,CV.i z6,CV.i z7] :: U.nilL→n'20=x2.2.1.2.1 + (1:Nat)→n'20≤c'21→∀ (z22:Int),z22=IntKind.wrap .i64 (x2.1 + (1:Int))→∃ (y23:Int × XP × XP),now=now∧most=most∧((0:Nat)=0∧n'20=y23.2.1.2.1∧c'21=y23.2.1.2.2)∧((0:Nat)=0∧x2.2.2.2.1=y23.2.2.2.1∧x2.2.2.2.2=y23.2.2.2.2)∧((0:Nat)=0∧q=q∧rc=rc)∧z0=z0∧z22=y23.1∧k0=k0∧k1=k1∧k2=k2∧k3=k3∧k4=k4∧k5=k5∧k6=k6∧k7=k7∧k8=k8∧u0=u0∧u1=u1∧u2=u2∧u3=u3∧u4=u4∧u5=u5∧u6=u6∧u7=u7∧u8=u8∧((0:Nat)=0∧q=q∧rc=rc)∧a=a∧b=b∧a'=a'∧b'=b'∧(R=R∧rc=rc∧false=false)∧(U.nilL=U.nilL∧(0:Nat)=0∧false=false)∧(L'19=y23.2.1.1∧c'21=y23.2.1.2.2∧false=false)∧(x2.2.2.1=y23.2.2.1∧x2.2.2.2.2=y23.2.2.2.2∧false=false)∧U.kpI P F y23.1 y23.2.1.1 y23.2.1.2.1 y23.2.1.2.2 y23.2.2.1 y23.2.2.2.1 y23.2.2.2.2∧Int.toNat (↑q:Int) - Int.toNat y23.1<Int.toNat (↑q:Int) - Int.toNat x2.1))∧(¬x2.1<z0→K (Sum.inl (Sum.inl (rslC ⟨1,4,0,x2.2.1.2.1,x2.2.1.2.2⟩))) ⟨[rvB [k0,k1,k2,k3,k4,k5,k6,k7,k8] [u0,u1,u2,u3,u4,u5,u6,u7,u8] (rslC ⟨2,5,0,x2.2.2.2.1,x2.2.2.2.2⟩)],[],0,[some (snB R rc),some (liB x2.2.1.1 x2.2.1.2.2),some (snB x2.2.2.1 x2.2.2.2.2)],0⟩)) := by kernel_rfl
theorem keep1_vc (K:AV→St→Prop) (P:VLP) (F:Int × VLv→Bool) (k0 k1 k2 k3 k4 k5 k6 k7 k8:Bool) (u0 u1 u2 u3 u4 u5 u6 u7 u8:Int) (q rc:Nat) (R:Rws) (a b a' b' now most:Int):(runR (invKp P F) tR2 48 (kpA 1 a b a' b' now most) (rvSt [k0,k1,k2,k3,k4,k5,k6,k7,k8] [u0,u1,u2,u3,u4,u5,u6,u7,u8] q rc R) K)=(∀ (z0:Int),z0=(↑q:Int)→(∃ (y1:Int × XP × XP),now=now∧most=most∧((0:Nat)=0∧0=y1.2.1.2.1∧0=y1.2.1.2.2)∧((0:Nat)=0∧0=y1.2.2.2.1∧0=y1.2.2.2.2)∧((0:Nat)=0∧q=q∧rc=rc)∧z0=z0∧0=y1.1∧k0=k0∧k1=k1∧k2=k2∧k3=k3∧k4=k4∧k5=k5∧k6=k6∧k7=k7∧k8=k8∧u0=u0∧u1=u1∧u2=u2∧u3=u3∧u4=u4∧u5=u5∧u6=u6∧u7=u7∧u8=u8∧((0:Nat)=0∧q=q∧rc=rc)∧a=a∧b=b∧a'=a'∧b'=b'∧(R=R∧rc=rc∧false=false)∧(U.nilL=U.nilL∧(0:Nat)=0∧false=false)∧(U.nilL=y1.2.1.1∧0=y1.2.1.2.2∧false=false)∧(U.nilL=y1.2.2.1∧0=y1.2.2.2.2∧false=false)∧U.kpI P F y1.1 y1.2.1.1 y1.2.1.2.1 y1.2.1.2.2 y1.2.2.1 y1.2.2.2.1 y1.2.2.2.2)∧∀ (x2:Int × XP × XP),U.kpI P F x2.1 x2.2.1.1 x2.2.1.2.1 x2.2.1.2.2 x2.2.2.1 x2.2.2.2.1 x2.2.2.2.2→(x2.1<z0→(0≤x2.1∧x2.1<(↑q:Int))∧∀ (j3:Nat),(↑j3:Int)=(↑((0:Nat)):Int) + x2.1→j3<List.length R∧∀ (z4:Int),z4=U.fi R j3 ((0:Nat))→∀ (z5:Int),z5=U.fi R j3 ((0:Nat) + (1:Nat))→∀ (z6:Int),z6=U.fi R j3 ((0:Nat) + (1:Nat) + (1:Nat))→∀ (z7:Int),z7=U.fi R j3 ((0:Nat) + (1:Nat) + (1:Nat) + (1:Nat))→∀ (z8:Int),z8=U.fi R j3 ((0:Nat) + (1:Nat) + (1:Nat) + (1:Nat) + (1:Nat))→(z4=a∧z5=b∧True→((0:Nat) + x2.2.1.2.1≤List.length x2.2.1.1∧(0:Nat) + x2.2.1.2.2≤x2.2.1.2.2)∧True∧x2.2.1.2.1≤16777216∧(1:Nat)≤16777216∧∀ (L'9:List (List CV)) (n'10 c'11:Nat),L'9=List.take x2.2.1.2.1 (List.drop ((0:Nat)) x2.2.1.1) ++ [CV.i z4,CV.i z5,CV.i z6,CV.i z7] :: U.nilL→n'10=x2.2.1.2.1 + (1:Nat)→n'10≤c'11→∀ (z12:Int),z12=IntKind.wrap .i64 (x2.1 + (1:Int))→∃ (y13:Int × XP × XP),now=now∧most=most∧((0:Nat)=0∧n'10=y13.2.1.2.1∧c'11=y13.2.1.2.2)∧((0:Nat)=0∧x2.2.2.2.1=y13.2.2.2.1∧x2.2.2.2.2=y13.2.2.2.2)∧((0:Nat)=0∧q=q∧rc=rc)∧z0=z0∧z12=y13.1∧k0=k0∧k1=k1∧k2=k2∧k3=k3∧k4=k4∧k5=k5∧k6=k6∧k7=k7∧k8=k8∧u0=u0∧u1=u1∧u2=u2∧u3=u3∧u4=u4∧u5=u5∧u6=u6∧u7=u7∧u8=u8∧((0:Nat)=0∧q=q∧rc=rc)∧a=a∧b=b∧a'=a'∧b'=b'∧(R=R∧rc=rc∧false=false)∧(U.nilL=U.nilL∧(0:Nat)=0∧false=false)∧(L'9=y13.2.1.1∧c'11=y13.2.1.2.2∧false=false)∧(x2.2.2.1=y13.2.2.1∧x2.2.2.2.2=y13.2.2.2.2∧false=false)∧U.kpI P F y13.1 y13.2.1.1 y13.2.1.2.1 y13.2.1.2.2 y13.2.2.1 y13.2.2.2.1 y13.2.2.2.2∧Int.toNat (↑q:Int) - Int.toNat y13.1<Int.toNat (↑q:Int) - Int.toNat x2.1)∧(¬(z4=a∧z5=b∧True)→(z4=a'∧z5=b'∧True→((0:Nat) + x2.2.1.2.1≤List.length x2.2.1.1∧(0:Nat) + x2.2.1.2.2≤x2.2.1.2.2)∧True∧x2.2.1.2.1≤16777216∧(1:Nat)≤16777216∧∀ (L'14:List (List CV)) (n'15 c'16:Nat),L'14=List.take x2.2.1.2.1 (List.drop ((0:Nat)) x2.2.1.1) ++ [CV.i z4,CV.i z5,CV.i z6,CV.i z7] :: U.nilL→n'15=x2.2.1.2.1 + (1:Nat)→n'15≤c'16→∀ (z17:Int),z17=IntKind.wrap .i64 (x2.1 + (1:Int))→∃ (y18:Int × XP × XP),now=now∧most=most∧((0:Nat)=0∧n'15=y18.2.1.2.1∧c'16=y18.2.1.2.2)∧((0:Nat)=0∧x2.2.2.2.1=y18.2.2.2.1∧x2.2.2.2.2=y18.2.2.2.2)∧((0:Nat)=0∧q=q∧rc=rc)∧z0=z0∧z17=y18.1∧k0=k0∧k1=k1∧k2=k2∧k3=k3∧k4=k4∧k5=k5∧k6=k6∧k7=k7∧k8=k8∧u0=u0∧u1=u1∧u2=u2∧u3=u3∧u4=u4∧u5=u5∧u6=u6∧u7=u7∧u8=u8∧((0:Nat)=0∧q=q∧rc=rc)∧a=a∧b=b∧a'=a'∧b'=b'∧(R=R∧rc=rc∧false=false)∧(U.nilL=U.nilL∧(0:Nat)=0∧false=false)∧(L'14=y18.2.1.1∧c'16=y18.2.1.2.2∧false=false)∧(x2.2.2.1=y18.2.2.1∧x2.2.2.2.2=y18.2.2.2.2∧false=false)∧U.kpI P F y18.1 y18.2.1.1 y18.2.1.2.1 y18.2.1.2.2 y18.2.2.1 y18.2.2.2.1 y18.2.2.2.2∧Int.toNat (↑q:Int) - Int.toNat y18.1<Int.toNat (↑q:Int) - Int.toNat x2.1)∧(¬(z4=a'∧z5=b'∧True)→(z6=a∧z7=b∧True→((0:Nat) + x2.2.1.2.1≤List.length x2.2.1.1∧(0:Nat) + x2.2.1.2.2≤x2.2.1.2.2)∧True∧x2.2.1.2.1≤16777216∧(1:Nat)≤16777216∧∀ (L'19:List (List CV)) (n'20 c'21:Nat),L'19=List.take x2.2.1.2.1 (List.drop ((0:Nat)) x2.2.1.1) ++ [CV.i z4,CV.i z5,CV.i z6,CV.i z7] :: U.nilL→n'20=x2.2.1.2.1 + (1:Nat)→n'20≤c'21→∀ (z22:Int),z22=IntKind.wrap .i64 (x2.1 + (1:Int))→∃ (y23:Int × XP × XP),now=now∧most=most∧((0:Nat)=0∧n'20=y23.2.1.2.1∧c'21=y23.2.1.2.2)∧((0:Nat)=0∧x2.2.2.2.1=y23.2.2.2.1∧x2.2.2.2.2=y23.2.2.2.2)∧((0:Nat)=0∧q=q∧rc=rc)∧z0=z0∧z22=y23.1∧k0=k0∧k1=k1∧k2=k2∧k3=k3∧k4=k4∧k5=k5∧k6=k6∧k7=k7∧k8=k8∧u0=u0∧u1=u1∧u2=u2∧u3=u3∧u4=u4∧u5=u5∧u6=u6∧u7=u7∧u8=u8∧((0:Nat)=0∧q=q∧rc=rc)∧a=a∧b=b∧a'=a'∧b'=b'∧(R=R∧rc=rc∧false=false)∧(U.nilL=U.nilL∧(0:Nat)=0∧false=false)∧(L'19=y23.2.1.1∧c'21=y23.2.1.2.2∧false=false)∧(x2.2.2.1=y23.2.2.1∧x2.2.2.2.2=y23.2.2.2.2∧false=false)∧U.kpI P F y23.1 y23.2.1.1 y23.2.1.2.1 y23.2.1.2.2 y23.2.2.1 y23.2.2.2.1 y23.2.2.2.2∧Int.toNat (↑q:Int) - Int.toNat y23.1<Int.toNat (↑q:Int) - Int.toNat x2.1)∧(¬(z6=a∧z7=b∧True)→(z6=a'∧z7=b'∧True→((0:Nat) + x2.2.1.2.1≤List.length x2.2.1.1∧(0:Nat) + x2.2.1.2.2≤x2.2.1.2.2)∧True∧x2.2.1.2.1≤16777216∧(1:Nat)≤16777216∧∀ (L'24:List (List CV)) (n'25 c'26:Nat),L'24=List.take x2.2.1.2.1 (List.drop ((0:Nat)) x2.2.1.1) ++ [CV.i z4,CV.i z5,CV.i z6,CV.i z7] :: U.nilL→n'25=x2.2.1.2.1 + (1:Nat)→n'25≤c'26→∀ (z27:Int),z27=IntKind.wrap .i64 (x2.1 + (1:Int))→∃ (y28:Int × XP × XP),now=now∧most=most∧((0:Nat)=0∧n'25=y28.2.1.2.1∧c'26=y28.2.1.2.2)∧((0:Nat)=0∧x2.2.2.2.1=y28.2.2.2.1∧x2.2.2.2.2=y28.2.2.2.2)∧((0:Nat)=0∧q=q∧rc=rc)∧z0=z0∧z27=y28.1∧k0=k0∧k1=k1∧k2=k2∧k3=k3∧k4=k4∧k5=k5∧k6=k6∧k7=k7∧k8=k8∧u0=u0∧u1=u1∧u2=u2∧u3=u3∧u4=u4∧u5=u5∧u6=u6∧u7=u7∧u8=u8∧((0:Nat)=0∧q=q∧rc=rc)∧a=a∧b=b∧a'=a'∧b'=b'∧(R=R∧rc=rc∧false=false)∧(U.nilL=U.nilL∧(0:Nat)=0∧false=false)∧(L'24=y28.2.1.1∧c'26=y28.2.1.2.2∧false=false)∧(x2.2.2.1=y28.2.2.1∧x2.2.2.2.2=y28.2.2.2.2∧false=false)∧U.kpI P F y28.1 y28.2.1.1 y28.2.1.2.1 y28.2.1.2.2 y28.2.2.1 y28.2.2.2.1 y28.2.2.2.2∧Int.toNat (↑q:Int) - Int.toNat y28.1<Int.toNat (↑q:Int) - Int.toNat x2.1)∧(¬(z6=a'∧z7=b'∧True)→((0:Nat) + x2.2.2.2.1≤List.length x2.2.2.1∧(0:Nat) + x2.2.2.2.2≤x2.2.2.2.2)∧True∧x2.2.2.2.1≤16777216∧(1:Nat)≤16777216∧∀ (L'29:List (List CV)) (n'30 c'31:Nat),L'29=List.take x2.2.2.2.1 (List.drop ((0:Nat)) x2.2.2.1) ++ [CV.i z4,CV.i z5,CV.i z6,CV.i z7,CV.i z8] :: U.nilL→n'30=x2.2.2.2.1 + (1:Nat)→n'30≤c'31→∀ (z32:Int),z32=IntKind.wrap .i64 (x2.1 + (1:Int))→∃ (y33:Int × XP × XP),now=now∧most=most∧((0:Nat)=0∧x2.2.1.2.1=y33.2.1.2.1∧x2.2.1.2.2=y33.2.1.2.2)∧((0:Nat)=0∧n'30=y33.2.2.2.1∧c'31=y33.2.2.2.2)∧((0:Nat)=0∧q=q∧rc=rc)∧z0=z0∧z32=y33.1∧k0=k0∧k1=k1∧k2=k2∧k3=k3∧k4=k4∧k5=k5∧k6=k6∧k7=k7∧k8=k8∧u0=u0∧u1=u1∧u2=u2∧u3=u3∧u4=u4∧u5=u5∧u6=u6∧u7=u7∧u8=u8∧((0:Nat)=0∧q=q∧rc=rc)∧a=a∧b=b∧a'=a'∧b'=b'∧(R=R∧rc=rc∧false=false)∧(U.nilL=U.nilL∧(0:Nat)=0∧false=false)∧(x2.2.1.1=y33.2.1.1∧x2.2.1.2.2=y33.2.1.2.2∧false=false)∧(L'29=y33.2.2.1∧c'31=y33.2.2.2.2∧false=false)∧U.kpI P F y33.1 y33.2.1.1 y33.2.1.2.1 y33.2.1.2.2 y33.2.2.1 y33.2.2.2.1 y33.2.2.2.2∧Int.toNat (↑q:Int) - Int.toNat y33.1<Int.toNat (↑q:Int) - Int.toNat x2.1)))))∧(¬x2.1<z0→K (Sum.inl (Sum.inl (rslC ⟨1,4,0,x2.2.1.2.1,x2.2.1.2.2⟩))) ⟨[rvB [k0,k1,k2,k3,k4,k5,k6,k7,k8] [u0,u1,u2,u3,u4,u5,u6,u7,u8] (rslC ⟨2,5,0,x2.2.2.2.1,x2.2.2.2.2⟩)],[],0,[some ⟨(84:TypeId),.o (.rows [.n .i64,.n .i64,.n .i64,.n .i64,.n .i64] R),[],rc,false⟩,some (liB x2.2.1.1 x2.2.1.2.2),some ⟨(84:TypeId),.o (.rows [.n .i64,.n .i64,.n .i64,.n .i64,.n .i64] x2.2.2.1),[],x2.2.2.2.2,false⟩],0⟩)) := by kernel_rfl
theorem keep2_vc (K:AV→St→Prop) (P:VLP) (F:Int × VLv→Bool) (k0 k1 k2 k3 k4 k5 k6 k7 k8:Bool) (u0 u1 u2 u3 u4 u5 u6 u7 u8:Int) (q rc:Nat) (R:Rws) (a b a' b' now most:Int):(runR (invKp P F) tR2 48 (kpA 2 a b a' b' now most) (rvSt [k0,k1,k2,k3,k4,k5,k6,k7,k8] [u0,u1,u2,u3,u4,u5,u6,u7,u8] q rc R) K)=(∀ (z0:Int),z0=(↑q:Int)→(∃ (y1:Int × XP × XP),now=now∧most=most∧((0:Nat)=0∧0=y1.2.1.2.1∧0=y1.2.1.2.2)∧((0:Nat)=0∧0=y1.2.2.2.1∧0=y1.2.2.2.2)∧((0:Nat)=0∧q=q∧rc=rc)∧z0=z0∧0=y1.1∧k0=k0∧k1=k1∧k2=k2∧k3=k3∧k4=k4∧k5=k5∧k6=k6∧k7=k7∧k8=k8∧u0=u0∧u1=u1∧u2=u2∧u3=u3∧u4=u4∧u5=u5∧u6=u6∧u7=u7∧u8=u8∧((0:Nat)=0∧q=q∧rc=rc)∧a=a∧b=b∧a'=a'∧b'=b'∧(R=R∧rc=rc∧false=false)∧(U.nilL=U.nilL∧(0:Nat)=0∧false=false)∧(U.nilL=y1.2.1.1∧0=y1.2.1.2.2∧false=false)∧(U.nilL=y1.2.2.1∧0=y1.2.2.2.2∧false=false)∧U.kpI P F y1.1 y1.2.1.1 y1.2.1.2.1 y1.2.1.2.2 y1.2.2.1 y1.2.2.2.1 y1.2.2.2.2)∧∀ (x2:Int × XP × XP),U.kpI P F x2.1 x2.2.1.1 x2.2.1.2.1 x2.2.1.2.2 x2.2.2.1 x2.2.2.2.1 x2.2.2.2.2→(x2.1<z0→(0≤x2.1∧x2.1<(↑q:Int))∧∀ (j3:Nat),(↑j3:Int)=(↑((0:Nat)):Int) + x2.1→j3<List.length R∧∀ (z4:Int),z4=U.fi R j3 ((0:Nat))→∀ (z5:Int),z5=U.fi R j3 ((0:Nat) + (1:Nat))→∀ (z6:Int),z6=U.fi R j3 ((0:Nat) + (1:Nat) + (1:Nat))→∀ (z7:Int),z7=U.fi R j3 ((0:Nat) + (1:Nat) + (1:Nat) + (1:Nat))→∀ (z8:Int),z8=U.fi R j3 ((0:Nat) + (1:Nat) + (1:Nat) + (1:Nat) + (1:Nat))→(z4=a→((0:Nat) + x2.2.1.2.1≤List.length x2.2.1.1∧(0:Nat) + x2.2.1.2.2≤x2.2.1.2.2)∧True∧x2.2.1.2.1≤16777216∧(1:Nat)≤16777216∧∀ (L'9:List (List CV)) (n'10 c'11:Nat),L'9=List.take x2.2.1.2.1 (List.drop ((0:Nat)) x2.2.1.1) ++ [CV.i z4,CV.i z5,CV.i z6,CV.i z7] :: U.nilL→n'10=x2.2.1.2.1 + (1:Nat)→n'10≤c'11→∀ (z12:Int),z12=IntKind.wrap .i64 (x2.1 + (1:Int))→∃ (y13:Int × XP × XP),now=now∧most=most∧((0:Nat)=0∧n'10=y13.2.1.2.1∧c'11=y13.2.1.2.2)∧((0:Nat)=0∧x2.2.2.2.1=y13.2.2.2.1∧x2.2.2.2.2=y13.2.2.2.2)∧((0:Nat)=0∧q=q∧rc=rc)∧z0=z0∧z12=y13.1∧k0=k0∧k1=k1∧k2=k2∧k3=k3∧k4=k4∧k5=k5∧k6=k6∧k7=k7∧k8=k8∧u0=u0∧u1=u1∧u2=u2∧u3=u3∧u4=u4∧u5=u5∧u6=u6∧u7=u7∧u8=u8∧((0:Nat)=0∧q=q∧rc=rc)∧a=a∧b=b∧a'=a'∧b'=b'∧(R=R∧rc=rc∧false=false)∧(U.nilL=U.nilL∧(0:Nat)=0∧false=false)∧(L'9=y13.2.1.1∧c'11=y13.2.1.2.2∧false=false)∧(x2.2.2.1=y13.2.2.1∧x2.2.2.2.2=y13.2.2.2.2∧false=false)∧U.kpI P F y13.1 y13.2.1.1 y13.2.1.2.1 y13.2.1.2.2 y13.2.2.1 y13.2.2.2.1 y13.2.2.2.2∧Int.toNat (↑q:Int) - Int.toNat y13.1<Int.toNat (↑q:Int) - Int.toNat x2.1)∧(¬z4=a→(z6=a→((0:Nat) + x2.2.1.2.1≤List.length x2.2.1.1∧(0:Nat) + x2.2.1.2.2≤x2.2.1.2.2)∧True∧x2.2.1.2.1≤16777216∧(1:Nat)≤16777216∧∀ (L'14:List (List CV)) (n'15 c'16:Nat),L'14=List.take x2.2.1.2.1 (List.drop ((0:Nat)) x2.2.1.1) ++ [CV.i z4,CV.i z5,CV.i z6,CV.i z7] :: U.nilL→n'15=x2.2.1.2.1 + (1:Nat)→n'15≤c'16→∀ (z17:Int),z17=IntKind.wrap .i64 (x2.1 + (1:Int))→∃ (y18:Int × XP × XP),now=now∧most=most∧((0:Nat)=0∧n'15=y18.2.1.2.1∧c'16=y18.2.1.2.2)∧((0:Nat)=0∧x2.2.2.2.1=y18.2.2.2.1∧x2.2.2.2.2=y18.2.2.2.2)∧((0:Nat)=0∧q=q∧rc=rc)∧z0=z0∧z17=y18.1∧k0=k0∧k1=k1∧k2=k2∧k3=k3∧k4=k4∧k5=k5∧k6=k6∧k7=k7∧k8=k8∧u0=u0∧u1=u1∧u2=u2∧u3=u3∧u4=u4∧u5=u5∧u6=u6∧u7=u7∧u8=u8∧((0:Nat)=0∧q=q∧rc=rc)∧a=a∧b=b∧a'=a'∧b'=b'∧(R=R∧rc=rc∧false=false)∧(U.nilL=U.nilL∧(0:Nat)=0∧false=false)∧(L'14=y18.2.1.1∧c'16=y18.2.1.2.2∧false=false)∧(x2.2.2.1=y18.2.2.1∧x2.2.2.2.2=y18.2.2.2.2∧false=false)∧U.kpI P F y18.1 y18.2.1.1 y18.2.1.2.1 y18.2.1.2.2 y18.2.2.1 y18.2.2.2.1 y18.2.2.2.2∧Int.toNat (↑q:Int) - Int.toNat y18.1<Int.toNat (↑q:Int) - Int.toNat x2.1)∧(¬z6=a→((0:Nat) + x2.2.2.2.1≤List.length x2.2.2.1∧(0:Nat) + x2.2.2.2.2≤x2.2.2.2.2)∧True∧x2.2.2.2.1≤16777216∧(1:Nat)≤16777216∧∀ (L'19:List (List CV)) (n'20 c'21:Nat),L'19=List.take x2.2.2.2.1 (List.drop ((0:Nat)) x2.2.2.1) ++ [CV.i z4,CV.i z5,CV.i z6,CV.i z7,CV.i z8] :: U.nilL→n'20=x2.2.2.2.1 + (1:Nat)→n'20≤c'21→∀ (z22:Int),z22=IntKind.wrap .i64 (x2.1 + (1:Int))→∃ (y23:Int × XP × XP),now=now∧most=most∧((0:Nat)=0∧x2.2.1.2.1=y23.2.1.2.1∧x2.2.1.2.2=y23.2.1.2.2)∧((0:Nat)=0∧n'20=y23.2.2.2.1∧c'21=y23.2.2.2.2)∧((0:Nat)=0∧q=q∧rc=rc)∧z0=z0∧z22=y23.1∧k0=k0∧k1=k1∧k2=k2∧k3=k3∧k4=k4∧k5=k5∧k6=k6∧k7=k7∧k8=k8∧u0=u0∧u1=u1∧u2=u2∧u3=u3∧u4=u4∧u5=u5∧u6=u6∧u7=u7∧u8=u8∧((0:Nat)=0∧q=q∧rc=rc)∧a=a∧b=b∧a'=a'∧b'=b'∧(R=R∧rc=rc∧false=false)∧(U.nilL=U.nilL∧(0:Nat)=0∧false=false)∧(x2.2.1.1=y23.2.1.1∧x2.2.1.2.2=y23.2.1.2.2∧false=false)∧(L'19=y23.2.2.1∧c'21=y23.2.2.2.2∧false=false)∧U.kpI P F y23.1 y23.2.1.1 y23.2.1.2.1 y23.2.1.2.2 y23.2.2.1 y23.2.2.2.1 y23.2.2.2.2∧Int.toNat (↑q:Int) - Int.toNat y23.1<Int.toNat (↑q:Int) - Int.toNat x2.1)))∧(¬x2.1<z0→K (Sum.inl (Sum.inl (rslC ⟨1,4,0,x2.2.1.2.1,x2.2.1.2.2⟩))) ⟨[rvB [k0,k1,k2,k3,k4,k5,k6,k7,k8] [u0,u1,u2,u3,u4,u5,u6,u7,u8] (rslC ⟨2,5,0,x2.2.2.2.1,x2.2.2.2.2⟩)],[],0,[some ⟨(84:TypeId),.o (.rows [.n .i64,.n .i64,.n .i64,.n .i64,.n .i64] R),[],rc,false⟩,some (liB x2.2.1.1 x2.2.1.2.2),some ⟨(84:TypeId),.o (.rows [.n .i64,.n .i64,.n .i64,.n .i64,.n .i64] x2.2.2.1),[],x2.2.2.2.2,false⟩],0⟩)) := by kernel_rfl
theorem keep3_vc (K:AV→St→Prop) (P:VLP) (F:Int × VLv→Bool) (k0 k1 k2 k3 k4 k5 k6 k7 k8:Bool) (u0 u1 u2 u3 u4 u5 u6 u7 u8:Int) (q rc:Nat) (R:Rws) (a b a' b' now most:Int):(runR (invKp P F) tR2 48 (kpA 3 a b a' b' now most) (rvSt [k0,k1,k2,k3,k4,k5,k6,k7,k8] [u0,u1,u2,u3,u4,u5,u6,u7,u8] q rc R) K)=(∀ (z0:Int),z0=(↑q:Int)→(∃ (y1:Int × XP × XP),now=now∧most=most∧((0:Nat)=0∧0=y1.2.1.2.1∧0=y1.2.1.2.2)∧((0:Nat)=0∧0=y1.2.2.2.1∧0=y1.2.2.2.2)∧((0:Nat)=0∧q=q∧rc=rc)∧z0=z0∧0=y1.1∧k0=k0∧k1=k1∧k2=k2∧k3=k3∧k4=k4∧k5=k5∧k6=k6∧k7=k7∧k8=k8∧u0=u0∧u1=u1∧u2=u2∧u3=u3∧u4=u4∧u5=u5∧u6=u6∧u7=u7∧u8=u8∧((0:Nat)=0∧q=q∧rc=rc)∧a=a∧b=b∧a'=a'∧b'=b'∧(R=R∧rc=rc∧false=false)∧(U.nilL=U.nilL∧(0:Nat)=0∧false=false)∧(U.nilL=y1.2.1.1∧0=y1.2.1.2.2∧false=false)∧(U.nilL=y1.2.2.1∧0=y1.2.2.2.2∧false=false)∧U.kpI P F y1.1 y1.2.1.1 y1.2.1.2.1 y1.2.1.2.2 y1.2.2.1 y1.2.2.2.1 y1.2.2.2.2)∧∀ (x2:Int × XP × XP),U.kpI P F x2.1 x2.2.1.1 x2.2.1.2.1 x2.2.1.2.2 x2.2.2.1 x2.2.2.2.1 x2.2.2.2.2→(x2.1<z0→(0≤x2.1∧x2.1<(↑q:Int))∧∀ (j3:Nat),(↑j3:Int)=(↑((0:Nat)):Int) + x2.1→j3<List.length R∧∀ (z4:Int),z4=U.fi R j3 ((0:Nat))→∀ (z5:Int),z5=U.fi R j3 ((0:Nat) + (1:Nat))→∀ (z6:Int),z6=U.fi R j3 ((0:Nat) + (1:Nat) + (1:Nat))→∀ (z7:Int),z7=U.fi R j3 ((0:Nat) + (1:Nat) + (1:Nat) + (1:Nat))→∀ (z8:Int),z8=U.fi R j3 ((0:Nat) + (1:Nat) + (1:Nat) + (1:Nat) + (1:Nat))→∀ (z9:Int),z9=IntKind.wrap .i64 (now - z8)→(most<z9→((0:Nat) + x2.2.1.2.1≤List.length x2.2.1.1∧(0:Nat) + x2.2.1.2.2≤x2.2.1.2.2)∧True∧x2.2.1.2.1≤16777216∧(1:Nat)≤16777216∧∀ (L'10:List (List CV)) (n'11 c'12:Nat),L'10=List.take x2.2.1.2.1 (List.drop ((0:Nat)) x2.2.1.1) ++ [CV.i z4,CV.i z5,CV.i z6,CV.i z7] :: U.nilL→n'11=x2.2.1.2.1 + (1:Nat)→n'11≤c'12→∀ (z13:Int),z13=IntKind.wrap .i64 (x2.1 + (1:Int))→∃ (y14:Int × XP × XP),now=now∧most=most∧((0:Nat)=0∧n'11=y14.2.1.2.1∧c'12=y14.2.1.2.2)∧((0:Nat)=0∧x2.2.2.2.1=y14.2.2.2.1∧x2.2.2.2.2=y14.2.2.2.2)∧((0:Nat)=0∧q=q∧rc=rc)∧z0=z0∧z13=y14.1∧k0=k0∧k1=k1∧k2=k2∧k3=k3∧k4=k4∧k5=k5∧k6=k6∧k7=k7∧k8=k8∧u0=u0∧u1=u1∧u2=u2∧u3=u3∧u4=u4∧u5=u5∧u6=u6∧u7=u7∧u8=u8∧((0:Nat)=0∧q=q∧rc=rc)∧a=a∧b=b∧a'=a'∧b'=b'∧(R=R∧rc=rc∧false=false)∧(U.nilL=U.nilL∧(0:Nat)=0∧false=false)∧(L'10=y14.2.1.1∧c'12=y14.2.1.2.2∧false=false)∧(x2.2.2.1=y14.2.2.1∧x2.2.2.2.2=y14.2.2.2.2∧false=false)∧U.kpI P F y14.1 y14.2.1.1 y14.2.1.2.1 y14.2.1.2.2 y14.2.2.1 y14.2.2.2.1 y14.2.2.2.2∧Int.toNat (↑q:Int) - Int.toNat y14.1<Int.toNat (↑q:Int) - Int.toNat x2.1)∧(¬most<z9→((0:Nat) + x2.2.2.2.1≤List.length x2.2.2.1∧(0:Nat) + x2.2.2.2.2≤x2.2.2.2.2)∧True∧x2.2.2.2.1≤16777216∧(1:Nat)≤16777216∧∀ (L'15:List (List CV)) (n'16 c'17:Nat),L'15=List.take x2.2.2.2.1 (List.drop ((0:Nat)) x2.2.2.1) ++ [CV.i z4,CV.i z5,CV.i z6,CV.i z7,CV.i z8] :: U.nilL→n'16=x2.2.2.2.1 + (1:Nat)→n'16≤c'17→∀ (z18:Int),z18=IntKind.wrap .i64 (x2.1 + (1:Int))→∃ (y19:Int × XP × XP),now=now∧most=most∧((0:Nat)=0∧x2.2.1.2.1=y19.2.1.2.1∧x2.2.1.2.2=y19.2.1.2.2)∧((0:Nat)=0∧n'16=y19.2.2.2.1∧c'17=y19.2.2.2.2)∧((0:Nat)=0∧q=q∧rc=rc)∧z0=z0∧z18=y19.1∧k0=k0∧k1=k1∧k2=k2∧k3=k3∧k4=k4∧k5=k5∧k6=k6∧k7=k7∧k8=k8∧u0=u0∧u1=u1∧u2=u2∧u3=u3∧u4=u4∧u5=u5∧u6=u6∧u7=u7∧u8=u8∧((0:Nat)=0∧q=q∧rc=rc)∧a=a∧b=b∧a'=a'∧b'=b'∧(R=R∧rc=rc∧false=false)∧(U.nilL=U.nilL∧(0:Nat)=0∧false=false)∧(x2.2.1.1=y19.2.1.1∧x2.2.1.2.2=y19.2.1.2.2∧false=false)∧(L'15=y19.2.2.1∧c'17=y19.2.2.2.2∧false=false)∧U.kpI P F y19.1 y19.2.1.1 y19.2.1.2.1 y19.2.1.2.2 y19.2.2.1 y19.2.2.2.1 y19.2.2.2.2∧Int.toNat (↑q:Int) - Int.toNat y19.1<Int.toNat (↑q:Int) - Int.toNat x2.1))∧(¬x2.1<z0→K (Sum.inl (Sum.inl (rslC ⟨1,4,0,x2.2.1.2.1,x2.2.1.2.2⟩))) ⟨[rvB [k0,k1,k2,k3,k4,k5,k6,k7,k8] [u0,u1,u2,u3,u4,u5,u6,u7,u8] (rslC ⟨2,5,0,x2.2.2.2.1,x2.2.2.2.2⟩)],[],0,[some ⟨(84:TypeId),.o (.rows [.n .i64,.n .i64,.n .i64,.n .i64,.n .i64] R),[],rc,false⟩,some (liB x2.2.1.1 x2.2.1.2.2),some ⟨(84:TypeId),.o (.rows [.n .i64,.n .i64,.n .i64,.n .i64,.n .i64] x2.2.2.1),[],x2.2.2.2.2,false⟩],0⟩)) := by kernel_rfl
end Go.Proofs.Ytfhgnngdbbgogaa
end
section
set_option linter.unusedVariables false
set_option linter.unusedSimpArgs false
set_option maxRecDepth 10000
namespace Go.Proofs.Ytfhgnngdbbgogaa
open Go Reck Ost
noncomputable def U.fBrkR (kn : List Bool) (us : List Int) (p : Int × VLv) : Bool := U.dec (¬ (U.rUp kn us p.2.v0 p.2.v1 ∧ U.rUp kn us p.2.v2 p.2.v3))
noncomputable def U.fSw (a : Int) (p : Int × VLv) : Bool := U.dec (p.2.v0 = a ∨ p.2.v2 = a)
theorem kp_0 (P : VLP) (F : Int × VLv → Bool) : U.kpI P F 0 [] 0 0 [] 0 0 := ⟨⟨by omega, by omega⟩, rfl, rfl, Nat.le_refl _, Int.le_refl _, rfl, rfl, Nat.le_refl _, Int.le_refl _⟩
section
variable {P : VLP} {F : Int × VLv → Bool} {i i' : Int} {G H L' : Rws} {gq gc hq hc n' c' j : Nat} {p : Int × VLv}
theorem kp_yes (h : U.kpI P F i G gq gc H hq hc) (hj : (j : Int) = i) (hp : P[j]? = some p) (hf : F p = true) (hi : i' = i + 1) (e1 : L' = List.take gq (List.drop 0 G) ++ [.i p.2.v0, .i p.2.v1, .i p.2.v2, .i p.2.v3] :: []) (e2 : n' = gq + 1) (e3 : n' ≤ c') : U.kpI P F i' L' n' c' H hq hc := by
  obtain ⟨⟨h1, h2⟩, h3, h4, h5, h6, h7, h8, h9, h10⟩ := h.out
  have hl := (List.getElem?_eq_some_iff.1 hp).1
  subst hi
  have e := vltake1 h1 hj hp
  have ef : (P.take (i + 1).toNat).filter F = (P.take i.toNat).filter F ++ [p] := by rw [e, List.filter_append, List.filter_cons_of_pos hf]; rfl
  have en : (P.take (i + 1).toNat).filter (fun p => !F p) = (P.take i.toNat).filter fun p => !F p := by rw [e, List.filter_append, List.filter_cons_of_neg (by simp [hf])]; simp
  rw [List.drop_zero, h4, List.take_length] at e1
  refine ⟨⟨by omega, by omega⟩, ?_, ?_, e3, by omega, by rw [en]; exact h7, h8, h9, by omega⟩
  · rw [ef, e1, h3]; unfold U.lks; rw [List.map_append]; rfl
  · rw [e1, List.length_append, e2, h4]; rfl
theorem kp_no (h : U.kpI P F i G gq gc H hq hc) (hj : (j : Int) = i) (hp : P[j]? = some p) (hf : F p = false) (hi : i' = i + 1) (e1 : L' = List.take hq (List.drop 0 H) ++ p.2.row :: []) (e2 : n' = hq + 1) (e3 : n' ≤ c') : U.kpI P F i' G gq gc L' n' c' := by
  obtain ⟨⟨h1, h2⟩, h3, h4, h5, h6, h7, h8, h9, h10⟩ := h.out
  have hl := (List.getElem?_eq_some_iff.1 hp).1
  subst hi
  have e := vltake1 h1 hj hp
  have ef : (P.take (i + 1).toNat).filter F = (P.take i.toNat).filter F := by rw [e, List.filter_append, List.filter_cons_of_neg (by simp [hf])]; simp
  have en : (P.take (i + 1).toNat).filter (fun p => !F p) = ((P.take i.toNat).filter fun p => !F p) ++ [p] := by rw [e, List.filter_append, List.filter_cons_of_pos (by simp [hf])]; rfl
  rw [List.drop_zero, h8, List.take_length] at e1
  refine ⟨⟨by omega, by omega⟩, by rw [ef]; exact h3, h4, h5, by omega, ?_, ?_, e3, by omega⟩
  · rw [en, e1, h7]; unfold U.vlvs; rw [List.map_append]; rfl
  · rw [e1, List.length_append, e2, h8]; rfl
theorem kp_end (h : U.kpI P F i G gq gc H hq hc) (hi : ¬ i < P.length) : G = U.lks (U.gone F P) ∧ gq = U.vllen (U.gone F P) ∧ H = U.vlvs (U.rest F P) ∧ hq = U.vllen (U.rest F P) := by
  obtain ⟨⟨h1, h2⟩, h3, h4, h5, h6, h7, h8, h9, h10⟩ := h.out
  rw [List.take_of_length_le (by omega)] at h3 h7
  exact ⟨h3, by rw [h4, h3, lks_len]; rfl, h7, by rw [h8, h7]; simp [U.vlvs, U.vllen, U.rest]⟩
end
def rvN (kn : List Bool) (us : List Int) (R : Rws) (rc : Nat) (G : Rws) (gc : Nat) (q : Nat) (H : Rws) (hc : Nat) : St := ⟨[rvB kn us (rslC ⟨2, 5, 0, q, hc⟩)], [], 0, [some (snB R rc), some (liB G gc), some (snB H hc)], 0⟩
set_option maxHeartbeats 2000000 in
theorem keep0_run (K : AV → St → Prop) (P : VLP) (k0 k1 k2 k3 k4 k5 k6 k7 k8 : Bool) (u0 u1 u2 u3 u4 u5 u6 u7 u8 : Int) (q rc : Nat) (a b a' b' now most : Int) (hq : q = P.length) (hs : q ≤ 100000) (hb : U.ubI [u0, u1, u2, u3, u4, u5, u6, u7, u8])
    (hK : ∀ (G : Rws) (gq gc : Nat) (hq hc : Nat), G = U.lks (U.gone (U.fBrkR [k0, k1, k2, k3, k4, k5, k6, k7, k8] [u0, u1, u2, u3, u4, u5, u6, u7, u8]) P) → gq = U.vllen (U.gone (U.fBrkR [k0, k1, k2, k3, k4, k5, k6, k7, k8] [u0, u1, u2, u3, u4, u5, u6, u7, u8]) P) → gq ≤ gc → hq = U.vllen (U.rest (U.fBrkR [k0, k1, k2, k3, k4, k5, k6, k7, k8] [u0, u1, u2, u3, u4, u5, u6, u7, u8]) P) → hq ≤ hc → K (cell (rslC ⟨1, 4, 0, gq, gc⟩)) (rvN [k0, k1, k2, k3, k4, k5, k6, k7, k8] [u0, u1, u2, u3, u4, u5, u6, u7, u8] (U.vlvs P) rc G gc hq (U.vlvs (U.rest (U.fBrkR [k0, k1, k2, k3, k4, k5, k6, k7, k8] [u0, u1, u2, u3, u4, u5, u6, u7, u8]) P)) hc)) :
    runR (invKp P (U.fBrkR [k0, k1, k2, k3, k4, k5, k6, k7, k8] [u0, u1, u2, u3, u4, u5, u6, u7, u8])) tR2 48 (kpA 0 a b a' b' now most) (rvSt [k0, k1, k2, k3, k4, k5, k6, k7, k8] [u0, u1, u2, u3, u4, u5, u6, u7, u8] q rc (U.vlvs P)) K := by
  have hvl : (U.vlvs P).length = P.length := by simp [U.vlvs]
  rw [keep0_vc]
  intro z0 h0
  constructor
  · refine ⟨(0, (([], (0, 0)), ([], (0, 0)))), ?_⟩
    repeat' (first | exact rfl | with_reducible apply And.intro)
    exact kp_0 P _
  rintro ⟨i, ⟨G, gq, gc⟩, H, hq, hc⟩ hI
  obtain ⟨⟨i1, i2⟩, g1, g2, g3, g4, o1, o2, o3, o4⟩ := hI.out
  dsimp only at i1 i2 g1 g2 g3 g4 o1 o2 o3 o4 hI ⊢
  refine ⟨fun hi => ⟨⟨by omega, by omega⟩, fun j hj => ⟨by omega, ?_⟩⟩, fun hi => ?_⟩
  · obtain ⟨p, hp⟩ : ∃ p, P[j]? = some p := ⟨_, List.getElem?_eq_getElem (show j < P.length by omega)⟩
    obtain ⟨f0, f1, f2, f3, f4⟩ := vl_fi hp
    rw [f0, f1, f2, f3, f4]
    rintro _ rfl _ rfl _ rfl _ rfl _ rfl
    refine ⟨⟨rfl, hb⟩, fun h1 => ⟨⟨rfl, hb⟩, fun h2 => ?_, fun h2 => ?_⟩, fun h1 => ?_⟩
    · have hF : (U.fBrkR [k0, k1, k2, k3, k4, k5, k6, k7, k8] [u0, u1, u2, u3, u4, u5, u6, u7, u8]) p = false := dec_f (fun h => h ⟨h1, h2⟩)
      refine ⟨⟨by omega, by omega⟩, trivial, by omega, by decide, fun L9 n10 c11 e9 e10 e11 z hz => ?_⟩
      have ez := iw hz (by omega)
      refine ⟨(z, ((G, (gq, gc)), (L9, (n10, c11)))), ?_⟩
      repeat' (first | exact rfl | exact kp_no hI (by omega) hp hF ez e9 e10 e11 | with_reducible apply And.intro)
      dsimp only; omega
    all_goals
      have hF : (U.fBrkR [k0, k1, k2, k3, k4, k5, k6, k7, k8] [u0, u1, u2, u3, u4, u5, u6, u7, u8]) p = true := dec_t (fun h => by first | exact h2 h.2 | exact h1 h.1)
      refine ⟨⟨by omega, by omega⟩, trivial, by omega, by decide, fun L9 n10 c11 e9 e10 e11 z hz => ?_⟩
      have ez := iw hz (by omega)
      refine ⟨(z, ((L9, (n10, c11)), (H, (hq, hc)))), ?_⟩
      repeat' (first | exact rfl | exact kp_yes hI (by omega) hp hF ez e9 e10 e11 | with_reducible apply And.intro)
      dsimp only; omega
  · obtain ⟨x1, x2, x3, x4⟩ := kp_end hI (by omega)
    rw [x3]
    exact hK G gq gc hq hc x1 x2 g3 x4 o3
set_option maxHeartbeats 2000000 in
theorem keep1_run (K : AV → St → Prop) (P : VLP) (k0 k1 k2 k3 k4 k5 k6 k7 k8 : Bool) (u0 u1 u2 u3 u4 u5 u6 u7 u8 : Int) (q rc : Nat) (a b a' b' now most : Int) (hq : q = P.length) (hs : q ≤ 100000)
    (hK : ∀ (G : Rws) (gq gc : Nat) (hq hc : Nat), G = U.lks (U.gone (U.fEnd a b a' b') P) → gq = U.vllen (U.gone (U.fEnd a b a' b') P) → gq ≤ gc → hq = U.vllen (U.rest (U.fEnd a b a' b') P) → hq ≤ hc → K (cell (rslC ⟨1, 4, 0, gq, gc⟩)) (rvN [k0, k1, k2, k3, k4, k5, k6, k7, k8] [u0, u1, u2, u3, u4, u5, u6, u7, u8] (U.vlvs P) rc G gc hq (U.vlvs (U.rest (U.fEnd a b a' b') P)) hc)) :
    runR (invKp P (U.fEnd a b a' b')) tR2 48 (kpA 1 a b a' b' now most) (rvSt [k0, k1, k2, k3, k4, k5, k6, k7, k8] [u0, u1, u2, u3, u4, u5, u6, u7, u8] q rc (U.vlvs P)) K := by
  have hvl : (U.vlvs P).length = P.length := by simp [U.vlvs]
  rw [keep1_vc]
  intro z0 h0
  constructor
  · refine ⟨(0, (([], (0, 0)), ([], (0, 0)))), ?_⟩
    repeat' (first | exact rfl | with_reducible apply And.intro)
    exact kp_0 P _
  rintro ⟨i, ⟨G, gq, gc⟩, H, hq, hc⟩ hI
  obtain ⟨⟨i1, i2⟩, g1, g2, g3, g4, o1, o2, o3, o4⟩ := hI.out
  dsimp only at i1 i2 g1 g2 g3 g4 o1 o2 o3 o4 hI ⊢
  refine ⟨fun hi => ⟨⟨by omega, by omega⟩, fun j hj => ⟨by omega, ?_⟩⟩, fun hi => ?_⟩
  · obtain ⟨p, hp⟩ : ∃ p, P[j]? = some p := ⟨_, List.getElem?_eq_getElem (show j < P.length by omega)⟩
    obtain ⟨f0, f1, f2, f3, f4⟩ := vl_fi hp
    rw [f0, f1, f2, f3, f4]
    rintro _ rfl _ rfl _ rfl _ rfl _ rfl
    refine ⟨fun h1 => ?_, fun h1 => ⟨fun h2 => ?_, fun h2 => ⟨fun h3 => ?_, fun h3 => ⟨fun h4 => ?_, fun h4 => ?_⟩⟩⟩⟩
    rotate_left 4
    · have hF : (U.fEnd a b a' b') p = false := dec_f (fun h => h.elim (fun h => h.out.elim (fun h => h1 ⟨h.1.symm, h.2.symm, trivial⟩) fun h => h3 ⟨h.1.symm, h.2.symm, trivial⟩) fun h => h.out.elim (fun h => h2 ⟨h.1.symm, h.2.symm, trivial⟩) fun h => h4 ⟨h.1.symm, h.2.symm, trivial⟩)
      refine ⟨⟨by omega, by omega⟩, trivial, by omega, by decide, fun L9 n10 c11 e9 e10 e11 z hz => ?_⟩
      have ez := iw hz (by omega)
      refine ⟨(z, ((G, (gq, gc)), (L9, (n10, c11)))), ?_⟩
      repeat' (first | exact rfl | exact kp_no hI (by omega) hp hF ez e9 e10 e11 | with_reducible apply And.intro)
      dsimp only; omega
    all_goals
      have hF : (U.fEnd a b a' b') p = true := dec_t (by first | exact .inl ⟨.inl ⟨h1.1.symm, h1.2.1.symm⟩⟩ | exact .inr ⟨.inl ⟨h2.1.symm, h2.2.1.symm⟩⟩ | exact .inl ⟨.inr ⟨h3.1.symm, h3.2.1.symm⟩⟩ | exact .inr ⟨.inr ⟨h4.1.symm, h4.2.1.symm⟩⟩)
      refine ⟨⟨by omega, by omega⟩, trivial, by omega, by decide, fun L9 n10 c11 e9 e10 e11 z hz => ?_⟩
      have ez := iw hz (by omega)
      refine ⟨(z, ((L9, (n10, c11)), (H, (hq, hc)))), ?_⟩
      repeat' (first | exact rfl | exact kp_yes hI (by omega) hp hF ez e9 e10 e11 | with_reducible apply And.intro)
      dsimp only; omega
  · obtain ⟨x1, x2, x3, x4⟩ := kp_end hI (by omega)
    rw [x3]
    exact hK G gq gc hq hc x1 x2 g3 x4 o3
set_option maxHeartbeats 2000000 in
theorem keep2_run (K : AV → St → Prop) (P : VLP) (k0 k1 k2 k3 k4 k5 k6 k7 k8 : Bool) (u0 u1 u2 u3 u4 u5 u6 u7 u8 : Int) (q rc : Nat) (a b a' b' now most : Int) (hq : q = P.length) (hs : q ≤ 100000)
    (hK : ∀ (G : Rws) (gq gc : Nat) (hq hc : Nat), G = U.lks (U.gone (U.fSw a) P) → gq = U.vllen (U.gone (U.fSw a) P) → gq ≤ gc → hq = U.vllen (U.rest (U.fSw a) P) → hq ≤ hc → K (cell (rslC ⟨1, 4, 0, gq, gc⟩)) (rvN [k0, k1, k2, k3, k4, k5, k6, k7, k8] [u0, u1, u2, u3, u4, u5, u6, u7, u8] (U.vlvs P) rc G gc hq (U.vlvs (U.rest (U.fSw a) P)) hc)) :
    runR (invKp P (U.fSw a)) tR2 48 (kpA 2 a b a' b' now most) (rvSt [k0, k1, k2, k3, k4, k5, k6, k7, k8] [u0, u1, u2, u3, u4, u5, u6, u7, u8] q rc (U.vlvs P)) K := by
  have hvl : (U.vlvs P).length = P.length := by simp [U.vlvs]
  rw [keep2_vc]
  intro z0 h0
  constructor
  · refine ⟨(0, (([], (0, 0)), ([], (0, 0)))), ?_⟩
    repeat' (first | exact rfl | with_reducible apply And.intro)
    exact kp_0 P _
  rintro ⟨i, ⟨G, gq, gc⟩, H, hq, hc⟩ hI
  obtain ⟨⟨i1, i2⟩, g1, g2, g3, g4, o1, o2, o3, o4⟩ := hI.out
  dsimp only at i1 i2 g1 g2 g3 g4 o1 o2 o3 o4 hI ⊢
  refine ⟨fun hi => ⟨⟨by omega, by omega⟩, fun j hj => ⟨by omega, ?_⟩⟩, fun hi => ?_⟩
  · obtain ⟨p, hp⟩ : ∃ p, P[j]? = some p := ⟨_, List.getElem?_eq_getElem (show j < P.length by omega)⟩
    obtain ⟨f0, f1, f2, f3, f4⟩ := vl_fi hp
    rw [f0, f1, f2, f3, f4]
    rintro _ rfl _ rfl _ rfl _ rfl _ rfl
    refine ⟨fun h1 => ?_, fun h1 => ⟨fun h2 => ?_, fun h2 => ?_⟩⟩
    rotate_left 2
    · have hF : (U.fSw a) p = false := dec_f (fun h => h.elim h1 h2)
      refine ⟨⟨by omega, by omega⟩, trivial, by omega, by decide, fun L9 n10 c11 e9 e10 e11 z hz => ?_⟩
      have ez := iw hz (by omega)
      refine ⟨(z, ((G, (gq, gc)), (L9, (n10, c11)))), ?_⟩
      repeat' (first | exact rfl | exact kp_no hI (by omega) hp hF ez e9 e10 e11 | with_reducible apply And.intro)
      dsimp only; omega
    all_goals
      have hF : (U.fSw a) p = true := dec_t (by first | exact .inl h1 | exact .inr h2)
      refine ⟨⟨by omega, by omega⟩, trivial, by omega, by decide, fun L9 n10 c11 e9 e10 e11 z hz => ?_⟩
      have ez := iw hz (by omega)
      refine ⟨(z, ((L9, (n10, c11)), (H, (hq, hc)))), ?_⟩
      repeat' (first | exact rfl | exact kp_yes hI (by omega) hp hF ez e9 e10 e11 | with_reducible apply And.intro)
      dsimp only; omega
  · obtain ⟨x1, x2, x3, x4⟩ := kp_end hI (by omega)
    rw [x3]
    exact hK G gq gc hq hc x1 x2 g3 x4 o3
set_option maxHeartbeats 2000000 in
theorem keep3_run (K : AV → St → Prop) (P : VLP) (k0 k1 k2 k3 k4 k5 k6 k7 k8 : Bool) (u0 u1 u2 u3 u4 u5 u6 u7 u8 : Int) (q rc : Nat) (a b a' b' now most : Int) (hq : q = P.length) (hs : q ≤ 100000)
    (hK : ∀ (G : Rws) (gq gc : Nat) (hq hc : Nat), G = U.lks (U.gone (U.fAge now most) P) → gq = U.vllen (U.gone (U.fAge now most) P) → gq ≤ gc → hq = U.vllen (U.rest (U.fAge now most) P) → hq ≤ hc → K (cell (rslC ⟨1, 4, 0, gq, gc⟩)) (rvN [k0, k1, k2, k3, k4, k5, k6, k7, k8] [u0, u1, u2, u3, u4, u5, u6, u7, u8] (U.vlvs P) rc G gc hq (U.vlvs (U.rest (U.fAge now most) P)) hc)) :
    runR (invKp P (U.fAge now most)) tR2 48 (kpA 3 a b a' b' now most) (rvSt [k0, k1, k2, k3, k4, k5, k6, k7, k8] [u0, u1, u2, u3, u4, u5, u6, u7, u8] q rc (U.vlvs P)) K := by
  have hvl : (U.vlvs P).length = P.length := by simp [U.vlvs]
  rw [keep3_vc]
  intro z0 h0
  constructor
  · refine ⟨(0, (([], (0, 0)), ([], (0, 0)))), ?_⟩
    repeat' (first | exact rfl | with_reducible apply And.intro)
    exact kp_0 P _
  rintro ⟨i, ⟨G, gq, gc⟩, H, hq, hc⟩ hI
  obtain ⟨⟨i1, i2⟩, g1, g2, g3, g4, o1, o2, o3, o4⟩ := hI.out
  dsimp only at i1 i2 g1 g2 g3 g4 o1 o2 o3 o4 hI ⊢
  refine ⟨fun hi => ⟨⟨by omega, by omega⟩, fun j hj => ⟨by omega, ?_⟩⟩, fun hi => ?_⟩
  · obtain ⟨p, hp⟩ : ∃ p, P[j]? = some p := ⟨_, List.getElem?_eq_getElem (show j < P.length by omega)⟩
    obtain ⟨f0, f1, f2, f3, f4⟩ := vl_fi hp
    rw [f0, f1, f2, f3, f4]
    rintro _ rfl _ rfl _ rfl _ rfl _ rfl
    intro z19 h19
    refine ⟨fun h1 => ?_, fun h1 => ?_⟩
    · have hF : (U.fAge now most) p = true := dec_t (by rw [← h19]; exact h1)
      refine ⟨⟨by omega, by omega⟩, trivial, by omega, by decide, fun L9 n10 c11 e9 e10 e11 z hz => ?_⟩
      have ez := iw hz (by omega)
      refine ⟨(z, ((L9, (n10, c11)), (H, (hq, hc)))), ?_⟩
      repeat' (first | exact rfl | exact kp_yes hI (by omega) hp hF ez e9 e10 e11 | with_reducible apply And.intro)
      dsimp only; omega
    · have hF : (U.fAge now most) p = false := dec_f (by rw [← h19]; exact h1)
      refine ⟨⟨by omega, by omega⟩, trivial, by omega, by decide, fun L9 n10 c11 e9 e10 e11 z hz => ?_⟩
      have ez := iw hz (by omega)
      refine ⟨(z, ((G, (gq, gc)), (L9, (n10, c11)))), ?_⟩
      repeat' (first | exact rfl | exact kp_no hI (by omega) hp hF ez e9 e10 e11 | with_reducible apply And.intro)
      dsimp only; omega
  · obtain ⟨x1, x2, x3, x4⟩ := kp_end hI (by omega)
    rw [x3]
    exact hK G gq gc hq hc x1 x2 g3 x4 o3
theorem sixs {e : Env} {x0 x1 x2 x3 x4 x5 : AV} {vs : List Value} (h : [x0, x1, x2, x3, x4, x5].map (Reck.av e) = vs.map some) : ∃ a0 a1 a2 a3 a4 a5, vs = [a0, a1, a2, a3, a4, a5] ∧ Reck.av e x0 = some a0 ∧ Reck.av e x1 = some a1 ∧ Reck.av e x2 = some a2 ∧ Reck.av e x3 = some a3 ∧ Reck.av e x4 = some a4 ∧ Reck.av e x5 = some a5 := by
  match vs, map_len h with
  | [a0, a1, a2, a3, a4, a5], _ => simp at h; exact ⟨a0, a1, a2, a3, a4, a5, rfl, h.1, h.2.1, h.2.2.1, h.2.2.2.1, h.2.2.2.2.1, h.2.2.2.2.2⟩
theorem six_map {e : Env} {x0 x1 x2 x3 x4 x5 : AV} {a0 a1 a2 a3 a4 a5 : Value} (h0 : Reck.av e x0 = some a0) (h1 : Reck.av e x1 = some a1) (h2 : Reck.av e x2 = some a2) (h3 : Reck.av e x3 = some a3) (h4 : Reck.av e x4 = some a4) (h5 : Reck.av e x5 = some a5) : [x0, x1, x2, x3, x4, x5].map (Reck.av e) = [a0, a1, a2, a3, a4, a5].map some := by
  simp only [List.map_cons, List.map_nil, h0, h1, h2, h3, h4, h5]
def prKeep0 : Pat := fun args σ => match args with
  | [.inl (.inl (.inr (.inl (0, 0)))), kd, p, p', x, y] => match intX kd, aPl p, aPl p', aInt x, aInt y, rvC σ with
    | some (.i64, kd), some (a, b), some (a', b'), some now, some most, some (kn, us, q, rc, R) => if kd = 0 then some fun K => ∃ P : VLP, (rvD σ ∧ R = U.vlvs P ∧ q = U.vllen P ∧ q ≤ 100000 ∧ U.ubI us) ∧ ∀ (G : Rws) (gq gc : Nat) (hq hc : Nat), G = U.lks (U.gone (U.fBrkR kn us) P) → gq = U.vllen (U.gone (U.fBrkR kn us) P) → gq ≤ gc → hq = U.vllen (U.rest (U.fBrkR kn us) P) → hq ≤ hc → K (cell (rslC ⟨1, 4, 0, gq, gc⟩)) (rvN kn us R rc G gc hq (U.vlvs (U.rest (U.fBrkR kn us) P)) hc) else none
    | _, _, _, _, _, _ => none
  | _ => none
theorem prKeep0_ok : PatOk 48 prKeep0 := by
  intro tm σ C h K hK w0 e w hk vs hvs
  unfold prKeep0 at h
  split at h
  · split at h
    · rename_i kd a b a' b' now most kn us q rc R hkd hp hp' hx hy hσ
      split at h
      · rename_i hk0
        subst hk0
        simp only [Option.some.injEq] at h; subst h
        obtain ⟨P, hpre, hK⟩ := hK
        obtain ⟨hd, rfl, h1, h2, h3⟩ := hpre
        obtain ⟨rfl, l1, l2⟩ := rvC_eq hσ hd
        obtain ⟨k0, k1, k2, k3, k4, k5, k6, k7, k8, rfl⟩ := nine l1
        obtain ⟨u0, u1, u2, u3, u4, u5, u6, u7, u8, rfl⟩ := nine l2
        obtain ⟨v0, v1, v2, v3, v4, v5, rfl, q0, q1, q2, q3, q4, q5⟩ := sixs hvs
        exact knownC noOv names (conOk_ofR tR2_ok) (keep0_run K P k0 k1 k2 k3 k4 k5 k6 k7 k8 u0 u1 u2 u3 u4 u5 u6 u7 u8 q rc a b a' b' now most h1 h2 h3 hK) w0 e w hk _ (six_map q0 (as_int hkd q1) (aPl_av hp q2) (aPl_av hp' q3) (as_aInt hx q4) (as_aInt hy q5))
      · cases h
    · cases h
  · cases h
def prKeep1 : Pat := fun args σ => match args with
  | [.inl (.inl (.inr (.inl (0, 0)))), kd, p, p', x, y] => match intX kd, aPl p, aPl p', aInt x, aInt y, rvC σ with
    | some (.i64, kd), some (a, b), some (a', b'), some now, some most, some (kn, us, q, rc, R) => if kd = 1 then some fun K => ∃ P : VLP, (rvD σ ∧ R = U.vlvs P ∧ q = U.vllen P ∧ q ≤ 100000) ∧ ∀ (G : Rws) (gq gc : Nat) (hq hc : Nat), G = U.lks (U.gone (U.fEnd a b a' b') P) → gq = U.vllen (U.gone (U.fEnd a b a' b') P) → gq ≤ gc → hq = U.vllen (U.rest (U.fEnd a b a' b') P) → hq ≤ hc → K (cell (rslC ⟨1, 4, 0, gq, gc⟩)) (rvN kn us R rc G gc hq (U.vlvs (U.rest (U.fEnd a b a' b') P)) hc) else none
    | _, _, _, _, _, _ => none
  | _ => none
theorem prKeep1_ok : PatOk 48 prKeep1 := by
  intro tm σ C h K hK w0 e w hk vs hvs
  unfold prKeep1 at h
  split at h
  · split at h
    · rename_i kd a b a' b' now most kn us q rc R hkd hp hp' hx hy hσ
      split at h
      · rename_i hk0
        subst hk0
        simp only [Option.some.injEq] at h; subst h
        obtain ⟨P, hpre, hK⟩ := hK
        obtain ⟨hd, rfl, h1, h2⟩ := hpre
        obtain ⟨rfl, l1, l2⟩ := rvC_eq hσ hd
        obtain ⟨k0, k1, k2, k3, k4, k5, k6, k7, k8, rfl⟩ := nine l1
        obtain ⟨u0, u1, u2, u3, u4, u5, u6, u7, u8, rfl⟩ := nine l2
        obtain ⟨v0, v1, v2, v3, v4, v5, rfl, q0, q1, q2, q3, q4, q5⟩ := sixs hvs
        exact knownC noOv names (conOk_ofR tR2_ok) (keep1_run K P k0 k1 k2 k3 k4 k5 k6 k7 k8 u0 u1 u2 u3 u4 u5 u6 u7 u8 q rc a b a' b' now most h1 h2 hK) w0 e w hk _ (six_map q0 (as_int hkd q1) (aPl_av hp q2) (aPl_av hp' q3) (as_aInt hx q4) (as_aInt hy q5))
      · cases h
    · cases h
  · cases h
def prKeep2 : Pat := fun args σ => match args with
  | [.inl (.inl (.inr (.inl (0, 0)))), kd, p, p', x, y] => match intX kd, aPl p, aPl p', aInt x, aInt y, rvC σ with
    | some (.i64, kd), some (a, b), some (a', b'), some now, some most, some (kn, us, q, rc, R) => if kd = 2 then some fun K => ∃ P : VLP, (rvD σ ∧ R = U.vlvs P ∧ q = U.vllen P ∧ q ≤ 100000) ∧ ∀ (G : Rws) (gq gc : Nat) (hq hc : Nat), G = U.lks (U.gone (U.fSw a) P) → gq = U.vllen (U.gone (U.fSw a) P) → gq ≤ gc → hq = U.vllen (U.rest (U.fSw a) P) → hq ≤ hc → K (cell (rslC ⟨1, 4, 0, gq, gc⟩)) (rvN kn us R rc G gc hq (U.vlvs (U.rest (U.fSw a) P)) hc) else none
    | _, _, _, _, _, _ => none
  | _ => none
theorem prKeep2_ok : PatOk 48 prKeep2 := by
  intro tm σ C h K hK w0 e w hk vs hvs
  unfold prKeep2 at h
  split at h
  · split at h
    · rename_i kd a b a' b' now most kn us q rc R hkd hp hp' hx hy hσ
      split at h
      · rename_i hk0
        subst hk0
        simp only [Option.some.injEq] at h; subst h
        obtain ⟨P, hpre, hK⟩ := hK
        obtain ⟨hd, rfl, h1, h2⟩ := hpre
        obtain ⟨rfl, l1, l2⟩ := rvC_eq hσ hd
        obtain ⟨k0, k1, k2, k3, k4, k5, k6, k7, k8, rfl⟩ := nine l1
        obtain ⟨u0, u1, u2, u3, u4, u5, u6, u7, u8, rfl⟩ := nine l2
        obtain ⟨v0, v1, v2, v3, v4, v5, rfl, q0, q1, q2, q3, q4, q5⟩ := sixs hvs
        exact knownC noOv names (conOk_ofR tR2_ok) (keep2_run K P k0 k1 k2 k3 k4 k5 k6 k7 k8 u0 u1 u2 u3 u4 u5 u6 u7 u8 q rc a b a' b' now most h1 h2 hK) w0 e w hk _ (six_map q0 (as_int hkd q1) (aPl_av hp q2) (aPl_av hp' q3) (as_aInt hx q4) (as_aInt hy q5))
      · cases h
    · cases h
  · cases h
def prKeep3 : Pat := fun args σ => match args with
  | [.inl (.inl (.inr (.inl (0, 0)))), kd, p, p', x, y] => match intX kd, aPl p, aPl p', aInt x, aInt y, rvC σ with
    | some (.i64, kd), some (a, b), some (a', b'), some now, some most, some (kn, us, q, rc, R) => if kd = 3 then some fun K => ∃ P : VLP, (rvD σ ∧ R = U.vlvs P ∧ q = U.vllen P ∧ q ≤ 100000) ∧ ∀ (G : Rws) (gq gc : Nat) (hq hc : Nat), G = U.lks (U.gone (U.fAge now most) P) → gq = U.vllen (U.gone (U.fAge now most) P) → gq ≤ gc → hq = U.vllen (U.rest (U.fAge now most) P) → hq ≤ hc → K (cell (rslC ⟨1, 4, 0, gq, gc⟩)) (rvN kn us R rc G gc hq (U.vlvs (U.rest (U.fAge now most) P)) hc) else none
    | _, _, _, _, _, _ => none
  | _ => none
theorem prKeep3_ok : PatOk 48 prKeep3 := by
  intro tm σ C h K hK w0 e w hk vs hvs
  unfold prKeep3 at h
  split at h
  · split at h
    · rename_i kd a b a' b' now most kn us q rc R hkd hp hp' hx hy hσ
      split at h
      · rename_i hk0
        subst hk0
        simp only [Option.some.injEq] at h; subst h
        obtain ⟨P, hpre, hK⟩ := hK
        obtain ⟨hd, rfl, h1, h2⟩ := hpre
        obtain ⟨rfl, l1, l2⟩ := rvC_eq hσ hd
        obtain ⟨k0, k1, k2, k3, k4, k5, k6, k7, k8, rfl⟩ := nine l1
        obtain ⟨u0, u1, u2, u3, u4, u5, u6, u7, u8, rfl⟩ := nine l2
        obtain ⟨v0, v1, v2, v3, v4, v5, rfl, q0, q1, q2, q3, q4, q5⟩ := sixs hvs
        exact knownC noOv names (conOk_ofR tR2_ok) (keep3_run K P k0 k1 k2 k3 k4 k5 k6 k7 k8 u0 u1 u2 u3 u4 u5 u6 u7 u8 q rc a b a' b' now most h1 h2 hK) w0 e w hk _ (six_map q0 (as_int hkd q1) (aPl_av hp q2) (aPl_av hp' q3) (as_aInt hx q4) (as_aInt hy q5))
      · cases h
    · cases h
  · cases h
def tR4 : Tbl := tblOr (tblIf 48 prKeep0) (tblOr (tblIf 48 prKeep1) (tblOr (tblIf 48 prKeep2) (tblOr (tblIf 48 prKeep3) tR2)))
theorem tR4_ok : TblOk Try.prog tR4 := tblOr_ok (tblIf_ok prKeep0_ok) (tblOr_ok (tblIf_ok prKeep1_ok) (tblOr_ok (tblIf_ok prKeep2_ok) (tblOr_ok (tblIf_ok prKeep3_ok) tR2_ok)))
end Go.Proofs.Ytfhgnngdbbgogaa
end
