/- Parts of a proof, one behind the other: VW1 VW2 VW3 VW4. No condition. -/
import Derived.Test.YtfhgnngdbbgogaaGI
import Derived.Test.YtfhgnngdbbgogaaGG
import Derived.Test.YtfhgnngdbbgogaaRkB
section
namespace Go.Proofs.Ytfhgnngdbbgogaa
open Go Reck Ost
set_option linter.unusedVariables false
set_option maxRecDepth 100000
structure U.atP (P : VLP) (j : Nat) (p : Int × VLv) (x y x' y' : Int) : Prop where
  at' : P[j]? = some p
  eq : (p.2.v0 = x ∧ p.2.v1 = y) ∧ p.2.v2 = x' ∧ p.2.v3 = y'
structure U.noP (P : VLP) (x y x' y' : Int) : Prop where
  out : ∀ p ∈ P, ¬ ((p.2.v0 = x ∧ p.2.v1 = y) ∧ p.2.v2 = x' ∧ p.2.v3 = y')
def prLearn : Pat := fun args σ => match args with
  | [.inl (.inl (.inr (.inl (0, 0)))), x, y, z] => match aPl x, aPl y, aInt z, rvC σ with
    | some (a, b), some (a', b'), some now, some (kn, us, q, rc, R) => some fun K => ∃ P : VLP, (rvD σ ∧ R = U.vlvs P ∧ q = U.vllen P ∧ q ≤ 100000 ∧ U.ubI us) ∧ (¬ U.rMay kn us a b a' b' → K (lb1 0 0 false) (rvO kn us q rc R [] 0)) ∧
      (U.rMay kn us a b a' b' → ∀ x y x' y' : Int, U.or2 a b a' b' x y x' y' → ∀ (j : Nat) (p : Int × VLv), U.atP P j p x y x' y' → K (lb1 0 0 false) (rvO kn us q rc (U.put R j 4 [.i now]) [] 0)) ∧
      (U.rMay kn us a b a' b' → ∀ x y x' y' : Int, U.or2 a b a' b' x y x' y' → U.noP P x y x' y' → ∀ (G : Rws) (gq gc : Nat) (H : Rws) (hq hc : Nat), G = U.lks (U.gone (U.fEnd a b a' b') P) → gq = U.vllen (U.gone (U.fEnd a b a' b') P) → gq ≤ gc → U.insH (U.rest (U.fEnd a b a' b') P) x y x' y' now H → hq = List.length H → hq ≤ hc → K (lb1 gq gc true) (rvN kn us R rc G gc hq H hc))
    | _, _, _, _ => none
  | _ => none
theorem prLearn_ok : PatOk 24 prLearn := by
  intro tm σ C h K hK w0 e w hk vs hvs
  unfold prLearn at h
  split at h
  · split at h
    · rename_i a b a' b' now kn us q rc R hx hy hz hσ
      simp only [Option.some.injEq] at h; subst h
      obtain ⟨P, ⟨hd, rfl, h1, h2, h3⟩, hA, hB, hC⟩ := hK
      obtain ⟨rfl, l1, l2⟩ := rvC_eq hσ hd
      obtain ⟨k0, k1, k2, k3, k4, k5, k6, k7, k8, rfl⟩ := nine l1
      obtain ⟨u0, u1, u2, u3, u4, u5, u6, u7, u8, rfl⟩ := nine l2
      obtain ⟨x, y, z, u, rfl, q1, q2, q3, q4⟩ := fours hvs
      exact knownC noOv names (conOk_ofR tR6_ok) (rLearn_run K P k0 k1 k2 k3 k4 k5 k6 k7 k8 u0 u1 u2 u3 u4 u5 u6 u7 u8 q rc a b a' b' now h1 h2 h3 hA (fun m x y x' y' ho j p hp he => hB m x y x' y' ho j p ⟨hp, he⟩) (fun m x y x' y' ho hn => hC m x y x' y' ho ⟨hn⟩)) w0 e w hk _ (four_map q1 (aPl_av hx q2) (aPl_av hy q3) (as_aInt hz q4))
    · cases h
  · cases h
def tW1 : Tbl := tblOr (tblIf 24 prLearn) (tblOr tR6 tV9)
theorem tW1_ok : TblOk Try.prog tW1 := tblOr_ok (tblIf_ok prLearn_ok) (tblOr_ok tR6_ok tV9_ok)
def pNo : Pat := fun _ _ => some fun _ => False
theorem pNo_ok (f : Nat) : PatOk f pNo := by
  intro tm σ C h K hK w0 e w hk vs hvs
  simp only [pNo, Option.some.injEq] at h; subst h
  exact hK.elim
def tNoW : Tbl := tblOr (tblIf 16 pNo) (tblOr (tblIf 15 pNo) (tblOr (tblIf 17 pNo) (tblOr (tblIf 18 pNo) (tblOr (tblIf 23 pNo) (tblOr (tblIf 24 pNo) (tblOr (tblIf 25 pNo) (tblIf 26 pNo)))))))
theorem tNoW_ok : TblOk Try.prog tNoW := tblOr_ok (tblIf_ok (pNo_ok _)) (tblOr_ok (tblIf_ok (pNo_ok _)) (tblOr_ok (tblIf_ok (pNo_ok _)) (tblOr_ok (tblIf_ok (pNo_ok _)) (tblOr_ok (tblIf_ok (pNo_ok _)) (tblOr_ok (tblIf_ok (pNo_ok _)) (tblOr_ok (tblIf_ok (pNo_ok _)) (tblIf_ok (pNo_ok _))))))))
def bSt (n c : Nat) (L : Rws) (d : Nat) (M : Rws) (m : Int) (e f : Nat) (S : Rws) (g : Nat) (T : Rws) (k : Int) (kn : List Bool) (us : List Int) (q rc : Nat) (R : Rws) : St := ⟨[vwB, vuB (rslC ⟨0, 1, 0, n, c⟩) (rslC ⟨1, 1, 0, n, d⟩) m, vlB (rslC ⟨2, 1, 0, e, f⟩) (rslC ⟨3, 5, 0, e, g⟩) k, rvB kn us (rslC ⟨4, 5, 0, q, rc⟩)], [], 0, [some (vukB L c), some (vuvB M d), some (vlkB S f), some (vlvB T g), some (snB R rc)], 0⟩
def opA (kd : Cell) (a b a' b' u m t : Int) : AV := .inl (.inr [kd, xintC .i64 a, xintC .i64 b, xintC .i64 a', xintC .i64 b', xintC .i64 u, xintC .i64 m, xintC .i64 t])
theorem step0_vc (K:AV→St→Prop) (n c:Nat) (L:Rws) (d:Nat) (M:Rws) (m:Int) (e f:Nat) (S:Rws) (g:Nat) (T:Rws) (k:Int) (k0 k1 k2 k3 k4 k5 k6 k7 k8:Bool) (u0 u1 u2 u3 u4 u5 u6 u7 u8:Int) (q rc:Nat) (R:Rws) (a b a' b' u mo t now:Int):(runR inv0 tW1 8 [ptr 0 0,ptr 3 0,opA (.inl (.int .i64 0)) a b a' b' u mo t,xi .i64 now] (bSt n c L d M m e f S g T k [k0,k1,k2,k3,k4,k5,k6,k7,k8] [u0,u1,u2,u3,u4,u5,u6,u7,u8] q rc R) K)=(∃ (y0:VUP),∃ (y1:VLP),(((c=c∧d=d∧n=n)∧f=f∧g=g∧e=e)∧U.Vw n c L d M e f S g T y0 y1∧m=8)∧(U.badP a u→u=u∧a=a∧u=u∧a=a∧∃ (y2:VLP),(rc=rc∧R=U.vlvs y2∧q=U.vllen y2∧q≤100000∧U.ubI [u0,u1,u2,u3,u4,u5,u6,u7,u8])∧(U.badP a u→u=u∧a=a∧u=u∧a=a∧∃ (y3:VLP),((0:Nat)=0∧(0:Nat)=0∧U.nilL=U.lks y3∧U.nilL=U.lks y3∧(0:Nat)=U.vllen y3∧(0:Nat)=U.vllen y3∧(0:Nat)≤100000)∧u=u∧a=a∧u=u∧a=a∧K (lit (.bool true)) ⟨[vwB,vuB (rslC ⟨0,1,0,n,c⟩) (rslC ⟨1,1,0,n,d⟩) m,vlB (rslC ⟨2,1,0,e,f⟩) (rslC ⟨3,5,0,e,g⟩) k,rvB [k0,k1,k2,k3,k4,k5,k6,k7,k8] [u0,u1,u2,u3,u4,u5,u6,u7,u8] (rslC ⟨4,5,0,q,rc⟩)],[],0,[some (vukB L c),some (vukB M d),some (vukB S f),some (vlvB T g),some (snB R rc)],0⟩)∧(¬U.badP a u→∀ (x04 x15 x26 x37 x48 x59 x610 x711 x812:Bool) (y013 y114 y215 y316 y417 y518 y619 y720 y821:Int),U.poE [k0,k1,k2,k3,k4,k5,k6,k7,k8] [x04,x15,x26,x37,x48,x59,x610,x711,x812] [u0,u1,u2,u3,u4,u5,u6,u7,u8] [y013,y114,y215,y316,y417,y518,y619,y720,y821] a u→∀ (G22:Rws) (gq23 gc24 hq25 hc26:Nat),G22=U.lks (U.gone (U.fBrkR [x04,x15,x26,x37,x48,x59,x610,x711,x812] [y013,y114,y215,y316,y417,y518,y619,y720,y821]) y2)→gq23=U.vllen (U.gone (U.fBrkR [x04,x15,x26,x37,x48,x59,x610,x711,x812] [y013,y114,y215,y316,y417,y518,y619,y720,y821]) y2)→gq23≤gc24→hq25=U.vllen (U.rest (U.fBrkR [x04,x15,x26,x37,x48,x59,x610,x711,x812] [y013,y114,y215,y316,y417,y518,y619,y720,y821]) y2)→hq25≤hc26→u=u∧a=a∧u=u∧a=a∧∃ (y27:VLP),((0:Nat)=0∧gc24=gc24∧U.nilL=U.lks y27∧G22=U.lks y27∧(0:Nat)=U.vllen y27∧gq23=U.vllen y27∧(0:Nat)≤100000)∧u=u∧a=a∧u=u∧a=a∧K (lit (.bool true)) ⟨[vwB,vuB (rslC ⟨0,1,0,n,c⟩) (rslC ⟨1,1,0,n,d⟩) m,vlB (rslC ⟨2,1,0,e,f⟩) (rslC ⟨3,5,0,e,g⟩) k,rvB [x04,x15,x26,x37,x48,x59,x610,x711,x812] [y013,y114,y215,y316,y417,y518,y619,y720,y821] (rslC ⟨5,5,0,hq25,hc26⟩)],[],0,[some (vukB L c),some (vukB M d),some (vukB S f),some (vlvB T g),some (snB R rc),some ⟨84,.o (.rows [.n .i64,.n .i64,.n .i64,.n .i64,.n .i64] (U.vlvs (U.rest (U.fBrkR [x04,x15,x26,x37,x48,x59,x610,x711,x812] [y013,y114,y215,y316,y417,y518,y619,y720,y821]) y2))),[],hc26,false⟩],0⟩))∧(¬U.badP a u→∀ (n'28 c'29:Nat) (L'30:Rws) (d'31:Nat) (M'32:Rws) (Pu'33:VUP) (e'34:Nat) (S'35 T'36:Rws) (Pl'37:VLP) (O38:Rws) (q39 qc40:Nat),U.vuPut y0 a { v0 := u } Pu'33→Pl'37=U.rest (U.fBrk Pu'33) y1→O38=U.lks (U.gone (U.fBrk Pu'33) y1)→q39=U.vllen (U.gone (U.fBrk Pu'33) y1)→q39≤qc40→U.Vw n'28 c'29 L'30 d'31 M'32 e'34 f S'35 g T'36 Pu'33 Pl'37→u=u∧a=a∧u=u∧a=a∧∃ (y41:VLP),(rc=rc∧R=U.vlvs y41∧q=U.vllen y41∧q≤100000∧U.ubI [u0,u1,u2,u3,u4,u5,u6,u7,u8])∧(U.badP a u→u=u∧a=a∧u=u∧a=a∧∃ (y42:VLP),(qc40=qc40∧(0:Nat)=0∧O38=U.lks y42∧U.nilL=U.lks y42∧q39=U.vllen y42∧(0:Nat)=U.vllen y42∧q39≤100000)∧u=u∧a=a∧u=u∧a=a∧K (lit (.bool true)) ⟨[vwB,vuB (rslC ⟨5,1,0,n'28,c'29⟩) (rslC ⟨6,1,0,n'28,d'31⟩) m,vlB (rslC ⟨2,1,0,e'34,f⟩) (rslC ⟨3,5,0,e'34,g⟩) k,rvB [k0,k1,k2,k3,k4,k5,k6,k7,k8] [u0,u1,u2,u3,u4,u5,u6,u7,u8] (rslC ⟨4,5,0,q,rc⟩)],[],0,[none,none,some (vukB S'35 f),some (vlvB T'36 g),some (snB R rc),some (vukB L'30 c'29),some (vukB M'32 d'31)],0⟩)∧(¬U.badP a u→∀ (x043 x144 x245 x346 x447 x548 x649 x750 x851:Bool) (y052 y153 y254 y355 y456 y557 y658 y759 y860:Int),U.poE [k0,k1,k2,k3,k4,k5,k6,k7,k8] [x043,x144,x245,x346,x447,x548,x649,x750,x851] [u0,u1,u2,u3,u4,u5,u6,u7,u8] [y052,y153,y254,y355,y456,y557,y658,y759,y860] a u→∀ (G61:Rws) (gq62 gc63 hq64 hc65:Nat),G61=U.lks (U.gone (U.fBrkR [x043,x144,x245,x346,x447,x548,x649,x750,x851] [y052,y153,y254,y355,y456,y557,y658,y759,y860]) y41)→gq62=U.vllen (U.gone (U.fBrkR [x043,x144,x245,x346,x447,x548,x649,x750,x851] [y052,y153,y254,y355,y456,y557,y658,y759,y860]) y41)→gq62≤gc63→hq64=U.vllen (U.rest (U.fBrkR [x043,x144,x245,x346,x447,x548,x649,x750,x851] [y052,y153,y254,y355,y456,y557,y658,y759,y860]) y41)→hq64≤hc65→u=u∧a=a∧u=u∧a=a∧∃ (y66:VLP),(qc40=qc40∧gc63=gc63∧O38=U.lks y66∧G61=U.lks y66∧q39=U.vllen y66∧gq62=U.vllen y66∧q39≤100000)∧u=u∧a=a∧u=u∧a=a∧K (lit (.bool true)) ⟨[vwB,vuB (rslC ⟨5,1,0,n'28,c'29⟩) (rslC ⟨6,1,0,n'28,d'31⟩) m,vlB (rslC ⟨2,1,0,e'34,f⟩) (rslC ⟨3,5,0,e'34,g⟩) k,rvB [x043,x144,x245,x346,x447,x548,x649,x750,x851] [y052,y153,y254,y355,y456,y557,y658,y759,y860] (rslC ⟨7,5,0,hq64,hc65⟩)],[],0,[none,none,some (vukB S'35 f),some (vlvB T'36 g),some (snB R rc),some (vukB L'30 c'29),some (vukB M'32 d'31),some ⟨84,.o (.rows [.n .i64,.n .i64,.n .i64,.n .i64,.n .i64] (U.vlvs (U.rest (U.fBrkR [x043,x144,x245,x346,x447,x548,x649,x750,x851] [y052,y153,y254,y355,y456,y557,y658,y759,y860]) y41))),[],hc65,false⟩],0⟩))) := by kernel_rfl
theorem step1_vc (K:AV→St→Prop) (n c:Nat) (L:Rws) (d:Nat) (M:Rws) (m:Int) (e f:Nat) (S:Rws) (g:Nat) (T:Rws) (k:Int) (k0 k1 k2 k3 k4 k5 k6 k7 k8:Bool) (u0 u1 u2 u3 u4 u5 u6 u7 u8:Int) (q rc:Nat) (R:Rws) (a b a' b' u mo t now:Int):(runR inv0 tW1 8 [ptr 0 0,ptr 3 0,opA (.inl (.int .i64 1)) a b a' b' u mo t,xi .i64 now] (bSt n c L d M m e f S g T k [k0,k1,k2,k3,k4,k5,k6,k7,k8] [u0,u1,u2,u3,u4,u5,u6,u7,u8] q rc R) K)=(∃ (y0:VUP),∃ (y1:VLP),(((c=c∧d=d∧n=n)∧f=f∧g=g∧e=e)∧U.Vw n c L d M e f S g T y0 y1∧k=32)∧(¬U.mayL y0 a b a' b'→∃ (y2:VLP),(rc=rc∧R=U.vlvs y2∧q=U.vllen y2∧q≤100000∧U.ubI [u0,u1,u2,u3,u4,u5,u6,u7,u8])∧(¬U.rMay [k0,k1,k2,k3,k4,k5,k6,k7,k8] [u0,u1,u2,u3,u4,u5,u6,u7,u8] a b a' b'→∃ (y3:VLP),((0:Nat)=0∧(0:Nat)=0∧U.nilL=U.lks y3∧U.nilL=U.lks y3∧(0:Nat)=U.vllen y3∧(0:Nat)=U.vllen y3∧(0:Nat)≤100000)∧K (lit (.bool true)) ⟨[vwB,vuB (rslC ⟨0,1,0,n,c⟩) (rslC ⟨1,1,0,n,d⟩) m,vlB (rslC ⟨2,1,0,e,f⟩) (rslC ⟨3,5,0,e,g⟩) k,rvB [k0,k1,k2,k3,k4,k5,k6,k7,k8] [u0,u1,u2,u3,u4,u5,u6,u7,u8] (rslC ⟨4,5,0,q,rc⟩)],[],0,[some (vukB L c),some (vukB M d),some (vukB S f),some (vlvB T g),some (snB R rc)],0⟩)∧(U.rMay [k0,k1,k2,k3,k4,k5,k6,k7,k8] [u0,u1,u2,u3,u4,u5,u6,u7,u8] a b a' b'→∀ (x4 y5 x'6 y'7:Int),U.or2 a b a' b' x4 y5 x'6 y'7→∀ (j8:Nat) (p9:Int × VLv),U.atP y2 j8 p9 x4 y5 x'6 y'7→∃ (y10:VLP),((0:Nat)=0∧(0:Nat)=0∧U.nilL=U.lks y10∧U.nilL=U.lks y10∧(0:Nat)=U.vllen y10∧(0:Nat)=U.vllen y10∧(0:Nat)≤100000)∧K (lit (.bool true)) ⟨[vwB,vuB (rslC ⟨0,1,0,n,c⟩) (rslC ⟨1,1,0,n,d⟩) m,vlB (rslC ⟨2,1,0,e,f⟩) (rslC ⟨3,5,0,e,g⟩) k,rvB [k0,k1,k2,k3,k4,k5,k6,k7,k8] [u0,u1,u2,u3,u4,u5,u6,u7,u8] (rslC ⟨4,5,0,q,rc⟩)],[],0,[some (vukB L c),some (vukB M d),some (vukB S f),some (vlvB T g),some ⟨84,.o (.rows [.n .i64,.n .i64,.n .i64,.n .i64,.n .i64] (U.put R j8 (4:Nat) [CV.i now])),[],rc,false⟩],0⟩)∧(U.rMay [k0,k1,k2,k3,k4,k5,k6,k7,k8] [u0,u1,u2,u3,u4,u5,u6,u7,u8] a b a' b'→∀ (x11 y12 x'13 y'14:Int),U.or2 a b a' b' x11 y12 x'13 y'14→U.noP y2 x11 y12 x'13 y'14→∀ (G15:Rws) (gq16 gc17:Nat) (H18:Rws) (hq19 hc20:Nat),G15=U.lks (U.gone (U.fEnd a b a' b') y2)→gq16=U.vllen (U.gone (U.fEnd a b a' b') y2)→gq16≤gc17→U.insH (U.rest (U.fEnd a b a' b') y2) x11 y12 x'13 y'14 now H18→hq19=List.length H18→hq19≤hc20→K (lit (.bool false)) ⟨[vwB,vuB (rslC ⟨0,1,0,n,c⟩) (rslC ⟨1,1,0,n,d⟩) m,vlB (rslC ⟨2,1,0,e,f⟩) (rslC ⟨3,5,0,e,g⟩) k,rvB [k0,k1,k2,k3,k4,k5,k6,k7,k8] [u0,u1,u2,u3,u4,u5,u6,u7,u8] (rslC ⟨5,5,0,hq19,hc20⟩)],[],0,[some (vukB L c),some (vukB M d),some (vukB S f),some (vlvB T g),some (snB R rc),some (snB H18 hc20)],0⟩))∧(∀ (x21 y22 x'23 y'24 t25:Int),U.mayL y0 a b a' b'→U.Ord a b a' b' x21 y22 x'23 y'24→List.Mem (U.num x21 y22,{ v0 := x21,v1 := y22,v2 := x'23,v3 := y'24,v4 := t25 }) y1→∀ (e'26 f'27:Nat) (S'28:Rws) (g'29:Nat) (T'30:Rws) (Pl'31:VLP),U.vlPut y1 (U.num x21 y22) { v0 := x21,v1 := y22,v2 := x'23,v3 := y'24,v4 := now } Pl'31→U.Vw n c L d M e'26 f'27 S'28 g'29 T'30 y0 Pl'31→∃ (y32:VLP),(rc=rc∧R=U.vlvs y32∧q=U.vllen y32∧q≤100000∧U.ubI [u0,u1,u2,u3,u4,u5,u6,u7,u8])∧(¬U.rMay [k0,k1,k2,k3,k4,k5,k6,k7,k8] [u0,u1,u2,u3,u4,u5,u6,u7,u8] a b a' b'→∃ (y33:VLP),((0:Nat)=0∧(0:Nat)=0∧U.nilL=U.lks y33∧U.nilL=U.lks y33∧(0:Nat)=U.vllen y33∧(0:Nat)=U.vllen y33∧(0:Nat)≤100000)∧K (lit (.bool true)) ⟨[vwB,vuB (rslC ⟨0,1,0,n,c⟩) (rslC ⟨1,1,0,n,d⟩) m,vlB (rslC ⟨5,1,0,e'26,f'27⟩) (rslC ⟨6,5,0,e'26,g'29⟩) k,rvB [k0,k1,k2,k3,k4,k5,k6,k7,k8] [u0,u1,u2,u3,u4,u5,u6,u7,u8] (rslC ⟨4,5,0,q,rc⟩)],[],0,[some (vukB L c),some (vukB M d),none,none,some (snB R rc),some (vukB S'28 f'27),some (vlvB T'30 g'29)],0⟩)∧(U.rMay [k0,k1,k2,k3,k4,k5,k6,k7,k8] [u0,u1,u2,u3,u4,u5,u6,u7,u8] a b a' b'→∀ (x34 y35 x'36 y'37:Int),U.or2 a b a' b' x34 y35 x'36 y'37→∀ (j38:Nat) (p39:Int × VLv),U.atP y32 j38 p39 x34 y35 x'36 y'37→∃ (y40:VLP),((0:Nat)=0∧(0:Nat)=0∧U.nilL=U.lks y40∧U.nilL=U.lks y40∧(0:Nat)=U.vllen y40∧(0:Nat)=U.vllen y40∧(0:Nat)≤100000)∧K (lit (.bool true)) ⟨[vwB,vuB (rslC ⟨0,1,0,n,c⟩) (rslC ⟨1,1,0,n,d⟩) m,vlB (rslC ⟨5,1,0,e'26,f'27⟩) (rslC ⟨6,5,0,e'26,g'29⟩) k,rvB [k0,k1,k2,k3,k4,k5,k6,k7,k8] [u0,u1,u2,u3,u4,u5,u6,u7,u8] (rslC ⟨4,5,0,q,rc⟩)],[],0,[some (vukB L c),some (vukB M d),none,none,some ⟨84,.o (.rows [.n .i64,.n .i64,.n .i64,.n .i64,.n .i64] (U.put R j38 (4:Nat) [CV.i now])),[],rc,false⟩,some (vukB S'28 f'27),some (vlvB T'30 g'29)],0⟩)∧(U.rMay [k0,k1,k2,k3,k4,k5,k6,k7,k8] [u0,u1,u2,u3,u4,u5,u6,u7,u8] a b a' b'→∀ (x41 y42 x'43 y'44:Int),U.or2 a b a' b' x41 y42 x'43 y'44→U.noP y32 x41 y42 x'43 y'44→∀ (G45:Rws) (gq46 gc47:Nat) (H48:Rws) (hq49 hc50:Nat),G45=U.lks (U.gone (U.fEnd a b a' b') y32)→gq46=U.vllen (U.gone (U.fEnd a b a' b') y32)→gq46≤gc47→U.insH (U.rest (U.fEnd a b a' b') y32) x41 y42 x'43 y'44 now H48→hq49=List.length H48→hq49≤hc50→K (lit (.bool false)) ⟨[vwB,vuB (rslC ⟨0,1,0,n,c⟩) (rslC ⟨1,1,0,n,d⟩) m,vlB (rslC ⟨5,1,0,e'26,f'27⟩) (rslC ⟨6,5,0,e'26,g'29⟩) k,rvB [k0,k1,k2,k3,k4,k5,k6,k7,k8] [u0,u1,u2,u3,u4,u5,u6,u7,u8] (rslC ⟨7,5,0,hq49,hc50⟩)],[],0,[some (vukB L c),some (vukB M d),none,none,some (snB R rc),some (vukB S'28 f'27),some (vlvB T'30 g'29),some (snB H48 hc50)],0⟩))∧∀ (x51 y52 x'53 y'54:Int),U.mayL y0 a b a' b'→U.Ord a b a' b' x51 y52 x'53 y'54→(∀ (t55:Int),¬List.Mem (U.num x51 y52,{ v0 := x51,v1 := y52,v2 := x'53,v3 := y'54,v4 := t55 }) y1)→∀ (e'56 f'57:Nat) (S'58:Rws) (g'59:Nat) (T'60:Rws) (Pl'61:VLP) (O62:Rws) (q63 qc64:Nat),O62=U.lks (U.gone (U.fEnd a b a' b') y1)→q63=U.vllen (U.gone (U.fEnd a b a' b') y1)→q63≤qc64→U.vlPut (U.rest (U.fEnd a b a' b') y1) (U.num x51 y52) { v0 := x51,v1 := y52,v2 := x'53,v3 := y'54,v4 := now } Pl'61→U.Vw n c L d M e'56 f'57 S'58 g'59 T'60 y0 Pl'61→∃ (y65:VLP),(rc=rc∧R=U.vlvs y65∧q=U.vllen y65∧q≤100000∧U.ubI [u0,u1,u2,u3,u4,u5,u6,u7,u8])∧(¬U.rMay [k0,k1,k2,k3,k4,k5,k6,k7,k8] [u0,u1,u2,u3,u4,u5,u6,u7,u8] a b a' b'→K (lit (.bool false)) ⟨[vwB,vuB (rslC ⟨0,1,0,n,c⟩) (rslC ⟨1,1,0,n,d⟩) m,vlB (rslC ⟨5,1,0,e'56,f'57⟩) (rslC ⟨6,5,0,e'56,g'59⟩) k,rvB [k0,k1,k2,k3,k4,k5,k6,k7,k8] [u0,u1,u2,u3,u4,u5,u6,u7,u8] (rslC ⟨4,5,0,q,rc⟩)],[],0,[some (vukB L c),some (vukB M d),none,none,some (snB R rc),some (vukB S'58 f'57),some (vlvB T'60 g'59)],0⟩)∧(U.rMay [k0,k1,k2,k3,k4,k5,k6,k7,k8] [u0,u1,u2,u3,u4,u5,u6,u7,u8] a b a' b'→∀ (x66 y67 x'68 y'69:Int),U.or2 a b a' b' x66 y67 x'68 y'69→∀ (j70:Nat) (p71:Int × VLv),U.atP y65 j70 p71 x66 y67 x'68 y'69→K (lit (.bool false)) ⟨[vwB,vuB (rslC ⟨0,1,0,n,c⟩) (rslC ⟨1,1,0,n,d⟩) m,vlB (rslC ⟨5,1,0,e'56,f'57⟩) (rslC ⟨6,5,0,e'56,g'59⟩) k,rvB [k0,k1,k2,k3,k4,k5,k6,k7,k8] [u0,u1,u2,u3,u4,u5,u6,u7,u8] (rslC ⟨4,5,0,q,rc⟩)],[],0,[some (vukB L c),some (vukB M d),none,none,some ⟨84,.o (.rows [.n .i64,.n .i64,.n .i64,.n .i64,.n .i64] (U.put R j70 (4:Nat) [CV.i now])),[],rc,false⟩,some (vukB S'58 f'57),some (vlvB T'60 g'59)],0⟩)∧(U.rMay [k0,k1,k2,k3,k4,k5,k6,k7,k8] [u0,u1,u2,u3,u4,u5,u6,u7,u8] a b a' b'→∀ (x72 y73 x'74 y'75:Int),U.or2 a b a' b' x72 y73 x'74 y'75→U.noP y65 x72 y73 x'74 y'75→∀ (G76:Rws) (gq77 gc78:Nat) (H79:Rws) (hq80 hc81:Nat),G76=U.lks (U.gone (U.fEnd a b a' b') y65)→gq77=U.vllen (U.gone (U.fEnd a b a' b') y65)→gq77≤gc78→U.insH (U.rest (U.fEnd a b a' b') y65) x72 y73 x'74 y'75 now H79→hq80=List.length H79→hq80≤hc81→∃ (y82:VLP),(qc64=qc64∧gc78=gc78∧O62=U.lks y82∧G76=U.lks y82∧q63=U.vllen y82∧gq77=U.vllen y82∧q63≤100000)∧K (lit (.bool true)) ⟨[vwB,vuB (rslC ⟨0,1,0,n,c⟩) (rslC ⟨1,1,0,n,d⟩) m,vlB (rslC ⟨5,1,0,e'56,f'57⟩) (rslC ⟨6,5,0,e'56,g'59⟩) k,rvB [k0,k1,k2,k3,k4,k5,k6,k7,k8] [u0,u1,u2,u3,u4,u5,u6,u7,u8] (rslC ⟨7,5,0,hq80,hc81⟩)],[],0,[some (vukB L c),some (vukB M d),none,none,some (snB R rc),some (vukB S'58 f'57),some (vlvB T'60 g'59),some (snB H79 hc81)],0⟩)) := by kernel_rfl
theorem step2_vc (K:AV→St→Prop) (n c:Nat) (L:Rws) (d:Nat) (M:Rws) (m:Int) (e f:Nat) (S:Rws) (g:Nat) (T:Rws) (k:Int) (k0 k1 k2 k3 k4 k5 k6 k7 k8:Bool) (u0 u1 u2 u3 u4 u5 u6 u7 u8:Int) (q rc:Nat) (R:Rws) (a b a' b' u mo t now:Int):(runR inv0 tW1 8 [ptr 0 0,ptr 3 0,opA (.inl (.int .i64 2)) a b a' b' u mo t,xi .i64 now] (bSt n c L d M m e f S g T k [k0,k1,k2,k3,k4,k5,k6,k7,k8] [u0,u1,u2,u3,u4,u5,u6,u7,u8] q rc R) K)=(∃ (y0:VUP),∃ (y1:VLP),(((c=c∧d=d∧n=n)∧f=f∧g=g∧e=e)∧U.Vw n c L d M e f S g T y0 y1∧k=32)∧(¬U.mayL y0 a b a' b'→∃ (y2:VLP),(rc=rc∧R=U.vlvs y2∧q=U.vllen y2∧q≤100000∧U.ubI [u0,u1,u2,u3,u4,u5,u6,u7,u8])∧(¬U.rMay [k0,k1,k2,k3,k4,k5,k6,k7,k8] [u0,u1,u2,u3,u4,u5,u6,u7,u8] a b a' b'→∃ (y3:VLP),((0:Nat)=0∧(0:Nat)=0∧U.nilL=U.lks y3∧U.nilL=U.lks y3∧(0:Nat)=U.vllen y3∧(0:Nat)=U.vllen y3∧(0:Nat)≤100000)∧K (lit (.bool true)) ⟨[vwB,vuB (rslC ⟨0,1,0,n,c⟩) (rslC ⟨1,1,0,n,d⟩) m,vlB (rslC ⟨2,1,0,e,f⟩) (rslC ⟨3,5,0,e,g⟩) k,rvB [k0,k1,k2,k3,k4,k5,k6,k7,k8] [u0,u1,u2,u3,u4,u5,u6,u7,u8] (rslC ⟨4,5,0,q,rc⟩)],[],0,[some (vukB L c),some (vukB M d),some (vukB S f),some (vlvB T g),some (snB R rc)],0⟩)∧(U.rMay [k0,k1,k2,k3,k4,k5,k6,k7,k8] [u0,u1,u2,u3,u4,u5,u6,u7,u8] a b a' b'→∀ (x4 y5 x'6 y'7:Int),U.or2 a b a' b' x4 y5 x'6 y'7→∀ (j8:Nat) (p9:Int × VLv),U.atP y2 j8 p9 x4 y5 x'6 y'7→∃ (y10:VLP),((0:Nat)=0∧(0:Nat)=0∧U.nilL=U.lks y10∧U.nilL=U.lks y10∧(0:Nat)=U.vllen y10∧(0:Nat)=U.vllen y10∧(0:Nat)≤100000)∧K (lit (.bool true)) ⟨[vwB,vuB (rslC ⟨0,1,0,n,c⟩) (rslC ⟨1,1,0,n,d⟩) m,vlB (rslC ⟨2,1,0,e,f⟩) (rslC ⟨3,5,0,e,g⟩) k,rvB [k0,k1,k2,k3,k4,k5,k6,k7,k8] [u0,u1,u2,u3,u4,u5,u6,u7,u8] (rslC ⟨4,5,0,q,rc⟩)],[],0,[some (vukB L c),some (vukB M d),some (vukB S f),some (vlvB T g),some ⟨84,.o (.rows [.n .i64,.n .i64,.n .i64,.n .i64,.n .i64] (U.put R j8 (4:Nat) [CV.i now])),[],rc,false⟩],0⟩)∧(U.rMay [k0,k1,k2,k3,k4,k5,k6,k7,k8] [u0,u1,u2,u3,u4,u5,u6,u7,u8] a b a' b'→∀ (x11 y12 x'13 y'14:Int),U.or2 a b a' b' x11 y12 x'13 y'14→U.noP y2 x11 y12 x'13 y'14→∀ (G15:Rws) (gq16 gc17:Nat) (H18:Rws) (hq19 hc20:Nat),G15=U.lks (U.gone (U.fEnd a b a' b') y2)→gq16=U.vllen (U.gone (U.fEnd a b a' b') y2)→gq16≤gc17→U.insH (U.rest (U.fEnd a b a' b') y2) x11 y12 x'13 y'14 now H18→hq19=List.length H18→hq19≤hc20→K (lit (.bool false)) ⟨[vwB,vuB (rslC ⟨0,1,0,n,c⟩) (rslC ⟨1,1,0,n,d⟩) m,vlB (rslC ⟨2,1,0,e,f⟩) (rslC ⟨3,5,0,e,g⟩) k,rvB [k0,k1,k2,k3,k4,k5,k6,k7,k8] [u0,u1,u2,u3,u4,u5,u6,u7,u8] (rslC ⟨5,5,0,hq19,hc20⟩)],[],0,[some (vukB L c),some (vukB M d),some (vukB S f),some (vlvB T g),some (snB R rc),some (snB H18 hc20)],0⟩))∧(∀ (x21 y22 x'23 y'24 t25:Int),U.mayL y0 a b a' b'→U.Ord a b a' b' x21 y22 x'23 y'24→List.Mem (U.num x21 y22,{ v0 := x21,v1 := y22,v2 := x'23,v3 := y'24,v4 := t25 }) y1→∀ (e'26 f'27:Nat) (S'28:Rws) (g'29:Nat) (T'30:Rws) (Pl'31:VLP),U.vlPut y1 (U.num x21 y22) { v0 := x21,v1 := y22,v2 := x'23,v3 := y'24,v4 := now } Pl'31→U.Vw n c L d M e'26 f'27 S'28 g'29 T'30 y0 Pl'31→∃ (y32:VLP),(rc=rc∧R=U.vlvs y32∧q=U.vllen y32∧q≤100000∧U.ubI [u0,u1,u2,u3,u4,u5,u6,u7,u8])∧(¬U.rMay [k0,k1,k2,k3,k4,k5,k6,k7,k8] [u0,u1,u2,u3,u4,u5,u6,u7,u8] a b a' b'→∃ (y33:VLP),((0:Nat)=0∧(0:Nat)=0∧U.nilL=U.lks y33∧U.nilL=U.lks y33∧(0:Nat)=U.vllen y33∧(0:Nat)=U.vllen y33∧(0:Nat)≤100000)∧K (lit (.bool true)) ⟨[vwB,vuB (rslC ⟨0,1,0,n,c⟩) (rslC ⟨1,1,0,n,d⟩) m,vlB (rslC ⟨5,1,0,e'26,f'27⟩) (rslC ⟨6,5,0,e'26,g'29⟩) k,rvB [k0,k1,k2,k3,k4,k5,k6,k7,k8] [u0,u1,u2,u3,u4,u5,u6,u7,u8] (rslC ⟨4,5,0,q,rc⟩)],[],0,[some (vukB L c),some (vukB M d),none,none,some (snB R rc),some (vukB S'28 f'27),some (vlvB T'30 g'29)],0⟩)∧(U.rMay [k0,k1,k2,k3,k4,k5,k6,k7,k8] [u0,u1,u2,u3,u4,u5,u6,u7,u8] a b a' b'→∀ (x34 y35 x'36 y'37:Int),U.or2 a b a' b' x34 y35 x'36 y'37→∀ (j38:Nat) (p39:Int × VLv),U.atP y32 j38 p39 x34 y35 x'36 y'37→∃ (y40:VLP),((0:Nat)=0∧(0:Nat)=0∧U.nilL=U.lks y40∧U.nilL=U.lks y40∧(0:Nat)=U.vllen y40∧(0:Nat)=U.vllen y40∧(0:Nat)≤100000)∧K (lit (.bool true)) ⟨[vwB,vuB (rslC ⟨0,1,0,n,c⟩) (rslC ⟨1,1,0,n,d⟩) m,vlB (rslC ⟨5,1,0,e'26,f'27⟩) (rslC ⟨6,5,0,e'26,g'29⟩) k,rvB [k0,k1,k2,k3,k4,k5,k6,k7,k8] [u0,u1,u2,u3,u4,u5,u6,u7,u8] (rslC ⟨4,5,0,q,rc⟩)],[],0,[some (vukB L c),some (vukB M d),none,none,some ⟨84,.o (.rows [.n .i64,.n .i64,.n .i64,.n .i64,.n .i64] (U.put R j38 (4:Nat) [CV.i now])),[],rc,false⟩,some (vukB S'28 f'27),some (vlvB T'30 g'29)],0⟩)∧(U.rMay [k0,k1,k2,k3,k4,k5,k6,k7,k8] [u0,u1,u2,u3,u4,u5,u6,u7,u8] a b a' b'→∀ (x41 y42 x'43 y'44:Int),U.or2 a b a' b' x41 y42 x'43 y'44→U.noP y32 x41 y42 x'43 y'44→∀ (G45:Rws) (gq46 gc47:Nat) (H48:Rws) (hq49 hc50:Nat),G45=U.lks (U.gone (U.fEnd a b a' b') y32)→gq46=U.vllen (U.gone (U.fEnd a b a' b') y32)→gq46≤gc47→U.insH (U.rest (U.fEnd a b a' b') y32) x41 y42 x'43 y'44 now H48→hq49=List.length H48→hq49≤hc50→K (lit (.bool false)) ⟨[vwB,vuB (rslC ⟨0,1,0,n,c⟩) (rslC ⟨1,1,0,n,d⟩) m,vlB (rslC ⟨5,1,0,e'26,f'27⟩) (rslC ⟨6,5,0,e'26,g'29⟩) k,rvB [k0,k1,k2,k3,k4,k5,k6,k7,k8] [u0,u1,u2,u3,u4,u5,u6,u7,u8] (rslC ⟨7,5,0,hq49,hc50⟩)],[],0,[some (vukB L c),some (vukB M d),none,none,some (snB R rc),some (vukB S'28 f'27),some (vlvB T'30 g'29),some (snB H48 hc50)],0⟩))∧∀ (x51 y52 x'53 y'54:Int),U.mayL y0 a b a' b'→U.Ord a b a' b' x51 y52 x'53 y'54→(∀ (t55:Int),¬List.Mem (U.num x51 y52,{ v0 := x51,v1 := y52,v2 := x'53,v3 := y'54,v4 := t55 }) y1)→∀ (e'56 f'57:Nat) (S'58:Rws) (g'59:Nat) (T'60:Rws) (Pl'61:VLP) (O62:Rws) (q63 qc64:Nat),O62=U.lks (U.gone (U.fEnd a b a' b') y1)→q63=U.vllen (U.gone (U.fEnd a b a' b') y1)→q63≤qc64→U.vlPut (U.rest (U.fEnd a b a' b') y1) (U.num x51 y52) { v0 := x51,v1 := y52,v2 := x'53,v3 := y'54,v4 := now } Pl'61→U.Vw n c L d M e'56 f'57 S'58 g'59 T'60 y0 Pl'61→∃ (y65:VLP),(rc=rc∧R=U.vlvs y65∧q=U.vllen y65∧q≤100000∧U.ubI [u0,u1,u2,u3,u4,u5,u6,u7,u8])∧(¬U.rMay [k0,k1,k2,k3,k4,k5,k6,k7,k8] [u0,u1,u2,u3,u4,u5,u6,u7,u8] a b a' b'→K (lit (.bool false)) ⟨[vwB,vuB (rslC ⟨0,1,0,n,c⟩) (rslC ⟨1,1,0,n,d⟩) m,vlB (rslC ⟨5,1,0,e'56,f'57⟩) (rslC ⟨6,5,0,e'56,g'59⟩) k,rvB [k0,k1,k2,k3,k4,k5,k6,k7,k8] [u0,u1,u2,u3,u4,u5,u6,u7,u8] (rslC ⟨4,5,0,q,rc⟩)],[],0,[some (vukB L c),some (vukB M d),none,none,some (snB R rc),some (vukB S'58 f'57),some (vlvB T'60 g'59)],0⟩)∧(U.rMay [k0,k1,k2,k3,k4,k5,k6,k7,k8] [u0,u1,u2,u3,u4,u5,u6,u7,u8] a b a' b'→∀ (x66 y67 x'68 y'69:Int),U.or2 a b a' b' x66 y67 x'68 y'69→∀ (j70:Nat) (p71:Int × VLv),U.atP y65 j70 p71 x66 y67 x'68 y'69→K (lit (.bool false)) ⟨[vwB,vuB (rslC ⟨0,1,0,n,c⟩) (rslC ⟨1,1,0,n,d⟩) m,vlB (rslC ⟨5,1,0,e'56,f'57⟩) (rslC ⟨6,5,0,e'56,g'59⟩) k,rvB [k0,k1,k2,k3,k4,k5,k6,k7,k8] [u0,u1,u2,u3,u4,u5,u6,u7,u8] (rslC ⟨4,5,0,q,rc⟩)],[],0,[some (vukB L c),some (vukB M d),none,none,some ⟨84,.o (.rows [.n .i64,.n .i64,.n .i64,.n .i64,.n .i64] (U.put R j70 (4:Nat) [CV.i now])),[],rc,false⟩,some (vukB S'58 f'57),some (vlvB T'60 g'59)],0⟩)∧(U.rMay [k0,k1,k2,k3,k4,k5,k6,k7,k8] [u0,u1,u2,u3,u4,u5,u6,u7,u8] a b a' b'→∀ (x72 y73 x'74 y'75:Int),U.or2 a b a' b' x72 y73 x'74 y'75→U.noP y65 x72 y73 x'74 y'75→∀ (G76:Rws) (gq77 gc78:Nat) (H79:Rws) (hq80 hc81:Nat),G76=U.lks (U.gone (U.fEnd a b a' b') y65)→gq77=U.vllen (U.gone (U.fEnd a b a' b') y65)→gq77≤gc78→U.insH (U.rest (U.fEnd a b a' b') y65) x72 y73 x'74 y'75 now H79→hq80=List.length H79→hq80≤hc81→∃ (y82:VLP),(qc64=qc64∧gc78=gc78∧O62=U.lks y82∧G76=U.lks y82∧q63=U.vllen y82∧gq77=U.vllen y82∧q63≤100000)∧K (lit (.bool true)) ⟨[vwB,vuB (rslC ⟨0,1,0,n,c⟩) (rslC ⟨1,1,0,n,d⟩) m,vlB (rslC ⟨5,1,0,e'56,f'57⟩) (rslC ⟨6,5,0,e'56,g'59⟩) k,rvB [k0,k1,k2,k3,k4,k5,k6,k7,k8] [u0,u1,u2,u3,u4,u5,u6,u7,u8] (rslC ⟨7,5,0,hq80,hc81⟩)],[],0,[some (vukB L c),some (vukB M d),none,none,some (snB R rc),some (vukB S'58 f'57),some (vlvB T'60 g'59),some (snB H79 hc81)],0⟩)) := by kernel_rfl
theorem step3_vc (K:AV→St→Prop) (n c:Nat) (L:Rws) (d:Nat) (M:Rws) (m:Int) (e f:Nat) (S:Rws) (g:Nat) (T:Rws) (k:Int) (k0 k1 k2 k3 k4 k5 k6 k7 k8:Bool) (u0 u1 u2 u3 u4 u5 u6 u7 u8:Int) (q rc:Nat) (R:Rws) (a b a' b' u mo t now:Int):(runR inv0 tW1 8 [ptr 0 0,ptr 3 0,opA (.inl (.int .i64 3)) a b a' b' u mo t,xi .i64 now] (bSt n c L d M m e f S g T k [k0,k1,k2,k3,k4,k5,k6,k7,k8] [u0,u1,u2,u3,u4,u5,u6,u7,u8] q rc R) K)=(∃ (y0:VUP),∃ (y1:VLP),(((c=c∧d=d∧n=n)∧f=f∧g=g∧e=e)∧U.Vw n c L d M e f S g T y0 y1∧k=32)∧(¬U.mayL y0 a b a' b'→∃ (y2:VLP),(rc=rc∧R=U.vlvs y2∧q=U.vllen y2∧q≤100000∧U.ubI [u0,u1,u2,u3,u4,u5,u6,u7,u8])∧(¬U.rMay [k0,k1,k2,k3,k4,k5,k6,k7,k8] [u0,u1,u2,u3,u4,u5,u6,u7,u8] a b a' b'→∃ (y3:VLP),((0:Nat)=0∧(0:Nat)=0∧U.nilL=U.lks y3∧U.nilL=U.lks y3∧(0:Nat)=U.vllen y3∧(0:Nat)=U.vllen y3∧(0:Nat)≤100000)∧K (lit (.bool true)) ⟨[vwB,vuB (rslC ⟨0,1,0,n,c⟩) (rslC ⟨1,1,0,n,d⟩) m,vlB (rslC ⟨2,1,0,e,f⟩) (rslC ⟨3,5,0,e,g⟩) k,rvB [k0,k1,k2,k3,k4,k5,k6,k7,k8] [u0,u1,u2,u3,u4,u5,u6,u7,u8] (rslC ⟨4,5,0,q,rc⟩)],[],0,[some (vukB L c),some (vukB M d),some (vukB S f),some (vlvB T g),some (snB R rc)],0⟩)∧(U.rMay [k0,k1,k2,k3,k4,k5,k6,k7,k8] [u0,u1,u2,u3,u4,u5,u6,u7,u8] a b a' b'→∀ (x4 y5 x'6 y'7:Int),U.or2 a b a' b' x4 y5 x'6 y'7→∀ (j8:Nat) (p9:Int × VLv),U.atP y2 j8 p9 x4 y5 x'6 y'7→∃ (y10:VLP),((0:Nat)=0∧(0:Nat)=0∧U.nilL=U.lks y10∧U.nilL=U.lks y10∧(0:Nat)=U.vllen y10∧(0:Nat)=U.vllen y10∧(0:Nat)≤100000)∧K (lit (.bool true)) ⟨[vwB,vuB (rslC ⟨0,1,0,n,c⟩) (rslC ⟨1,1,0,n,d⟩) m,vlB (rslC ⟨2,1,0,e,f⟩) (rslC ⟨3,5,0,e,g⟩) k,rvB [k0,k1,k2,k3,k4,k5,k6,k7,k8] [u0,u1,u2,u3,u4,u5,u6,u7,u8] (rslC ⟨4,5,0,q,rc⟩)],[],0,[some (vukB L c),some (vukB M d),some (vukB S f),some (vlvB T g),some ⟨84,.o (.rows [.n .i64,.n .i64,.n .i64,.n .i64,.n .i64] (U.put R j8 (4:Nat) [CV.i now])),[],rc,false⟩],0⟩)∧(U.rMay [k0,k1,k2,k3,k4,k5,k6,k7,k8] [u0,u1,u2,u3,u4,u5,u6,u7,u8] a b a' b'→∀ (x11 y12 x'13 y'14:Int),U.or2 a b a' b' x11 y12 x'13 y'14→U.noP y2 x11 y12 x'13 y'14→∀ (G15:Rws) (gq16 gc17:Nat) (H18:Rws) (hq19 hc20:Nat),G15=U.lks (U.gone (U.fEnd a b a' b') y2)→gq16=U.vllen (U.gone (U.fEnd a b a' b') y2)→gq16≤gc17→U.insH (U.rest (U.fEnd a b a' b') y2) x11 y12 x'13 y'14 now H18→hq19=List.length H18→hq19≤hc20→K (lit (.bool false)) ⟨[vwB,vuB (rslC ⟨0,1,0,n,c⟩) (rslC ⟨1,1,0,n,d⟩) m,vlB (rslC ⟨2,1,0,e,f⟩) (rslC ⟨3,5,0,e,g⟩) k,rvB [k0,k1,k2,k3,k4,k5,k6,k7,k8] [u0,u1,u2,u3,u4,u5,u6,u7,u8] (rslC ⟨5,5,0,hq19,hc20⟩)],[],0,[some (vukB L c),some (vukB M d),some (vukB S f),some (vlvB T g),some (snB R rc),some (snB H18 hc20)],0⟩))∧(∀ (x21 y22 x'23 y'24 t25:Int),U.mayL y0 a b a' b'→U.Ord a b a' b' x21 y22 x'23 y'24→List.Mem (U.num x21 y22,{ v0 := x21,v1 := y22,v2 := x'23,v3 := y'24,v4 := t25 }) y1→∀ (e'26 f'27:Nat) (S'28:Rws) (g'29:Nat) (T'30:Rws) (Pl'31:VLP),U.vlPut y1 (U.num x21 y22) { v0 := x21,v1 := y22,v2 := x'23,v3 := y'24,v4 := now } Pl'31→U.Vw n c L d M e'26 f'27 S'28 g'29 T'30 y0 Pl'31→∃ (y32:VLP),(rc=rc∧R=U.vlvs y32∧q=U.vllen y32∧q≤100000∧U.ubI [u0,u1,u2,u3,u4,u5,u6,u7,u8])∧(¬U.rMay [k0,k1,k2,k3,k4,k5,k6,k7,k8] [u0,u1,u2,u3,u4,u5,u6,u7,u8] a b a' b'→∃ (y33:VLP),((0:Nat)=0∧(0:Nat)=0∧U.nilL=U.lks y33∧U.nilL=U.lks y33∧(0:Nat)=U.vllen y33∧(0:Nat)=U.vllen y33∧(0:Nat)≤100000)∧K (lit (.bool true)) ⟨[vwB,vuB (rslC ⟨0,1,0,n,c⟩) (rslC ⟨1,1,0,n,d⟩) m,vlB (rslC ⟨5,1,0,e'26,f'27⟩) (rslC ⟨6,5,0,e'26,g'29⟩) k,rvB [k0,k1,k2,k3,k4,k5,k6,k7,k8] [u0,u1,u2,u3,u4,u5,u6,u7,u8] (rslC ⟨4,5,0,q,rc⟩)],[],0,[some (vukB L c),some (vukB M d),none,none,some (snB R rc),some (vukB S'28 f'27),some (vlvB T'30 g'29)],0⟩)∧(U.rMay [k0,k1,k2,k3,k4,k5,k6,k7,k8] [u0,u1,u2,u3,u4,u5,u6,u7,u8] a b a' b'→∀ (x34 y35 x'36 y'37:Int),U.or2 a b a' b' x34 y35 x'36 y'37→∀ (j38:Nat) (p39:Int × VLv),U.atP y32 j38 p39 x34 y35 x'36 y'37→∃ (y40:VLP),((0:Nat)=0∧(0:Nat)=0∧U.nilL=U.lks y40∧U.nilL=U.lks y40∧(0:Nat)=U.vllen y40∧(0:Nat)=U.vllen y40∧(0:Nat)≤100000)∧K (lit (.bool true)) ⟨[vwB,vuB (rslC ⟨0,1,0,n,c⟩) (rslC ⟨1,1,0,n,d⟩) m,vlB (rslC ⟨5,1,0,e'26,f'27⟩) (rslC ⟨6,5,0,e'26,g'29⟩) k,rvB [k0,k1,k2,k3,k4,k5,k6,k7,k8] [u0,u1,u2,u3,u4,u5,u6,u7,u8] (rslC ⟨4,5,0,q,rc⟩)],[],0,[some (vukB L c),some (vukB M d),none,none,some ⟨84,.o (.rows [.n .i64,.n .i64,.n .i64,.n .i64,.n .i64] (U.put R j38 (4:Nat) [CV.i now])),[],rc,false⟩,some (vukB S'28 f'27),some (vlvB T'30 g'29)],0⟩)∧(U.rMay [k0,k1,k2,k3,k4,k5,k6,k7,k8] [u0,u1,u2,u3,u4,u5,u6,u7,u8] a b a' b'→∀ (x41 y42 x'43 y'44:Int),U.or2 a b a' b' x41 y42 x'43 y'44→U.noP y32 x41 y42 x'43 y'44→∀ (G45:Rws) (gq46 gc47:Nat) (H48:Rws) (hq49 hc50:Nat),G45=U.lks (U.gone (U.fEnd a b a' b') y32)→gq46=U.vllen (U.gone (U.fEnd a b a' b') y32)→gq46≤gc47→U.insH (U.rest (U.fEnd a b a' b') y32) x41 y42 x'43 y'44 now H48→hq49=List.length H48→hq49≤hc50→K (lit (.bool false)) ⟨[vwB,vuB (rslC ⟨0,1,0,n,c⟩) (rslC ⟨1,1,0,n,d⟩) m,vlB (rslC ⟨5,1,0,e'26,f'27⟩) (rslC ⟨6,5,0,e'26,g'29⟩) k,rvB [k0,k1,k2,k3,k4,k5,k6,k7,k8] [u0,u1,u2,u3,u4,u5,u6,u7,u8] (rslC ⟨7,5,0,hq49,hc50⟩)],[],0,[some (vukB L c),some (vukB M d),none,none,some (snB R rc),some (vukB S'28 f'27),some (vlvB T'30 g'29),some (snB H48 hc50)],0⟩))∧∀ (x51 y52 x'53 y'54:Int),U.mayL y0 a b a' b'→U.Ord a b a' b' x51 y52 x'53 y'54→(∀ (t55:Int),¬List.Mem (U.num x51 y52,{ v0 := x51,v1 := y52,v2 := x'53,v3 := y'54,v4 := t55 }) y1)→∀ (e'56 f'57:Nat) (S'58:Rws) (g'59:Nat) (T'60:Rws) (Pl'61:VLP) (O62:Rws) (q63 qc64:Nat),O62=U.lks (U.gone (U.fEnd a b a' b') y1)→q63=U.vllen (U.gone (U.fEnd a b a' b') y1)→q63≤qc64→U.vlPut (U.rest (U.fEnd a b a' b') y1) (U.num x51 y52) { v0 := x51,v1 := y52,v2 := x'53,v3 := y'54,v4 := now } Pl'61→U.Vw n c L d M e'56 f'57 S'58 g'59 T'60 y0 Pl'61→∃ (y65:VLP),(rc=rc∧R=U.vlvs y65∧q=U.vllen y65∧q≤100000∧U.ubI [u0,u1,u2,u3,u4,u5,u6,u7,u8])∧(¬U.rMay [k0,k1,k2,k3,k4,k5,k6,k7,k8] [u0,u1,u2,u3,u4,u5,u6,u7,u8] a b a' b'→K (lit (.bool false)) ⟨[vwB,vuB (rslC ⟨0,1,0,n,c⟩) (rslC ⟨1,1,0,n,d⟩) m,vlB (rslC ⟨5,1,0,e'56,f'57⟩) (rslC ⟨6,5,0,e'56,g'59⟩) k,rvB [k0,k1,k2,k3,k4,k5,k6,k7,k8] [u0,u1,u2,u3,u4,u5,u6,u7,u8] (rslC ⟨4,5,0,q,rc⟩)],[],0,[some (vukB L c),some (vukB M d),none,none,some (snB R rc),some (vukB S'58 f'57),some (vlvB T'60 g'59)],0⟩)∧(U.rMay [k0,k1,k2,k3,k4,k5,k6,k7,k8] [u0,u1,u2,u3,u4,u5,u6,u7,u8] a b a' b'→∀ (x66 y67 x'68 y'69:Int),U.or2 a b a' b' x66 y67 x'68 y'69→∀ (j70:Nat) (p71:Int × VLv),U.atP y65 j70 p71 x66 y67 x'68 y'69→K (lit (.bool false)) ⟨[vwB,vuB (rslC ⟨0,1,0,n,c⟩) (rslC ⟨1,1,0,n,d⟩) m,vlB (rslC ⟨5,1,0,e'56,f'57⟩) (rslC ⟨6,5,0,e'56,g'59⟩) k,rvB [k0,k1,k2,k3,k4,k5,k6,k7,k8] [u0,u1,u2,u3,u4,u5,u6,u7,u8] (rslC ⟨4,5,0,q,rc⟩)],[],0,[some (vukB L c),some (vukB M d),none,none,some ⟨84,.o (.rows [.n .i64,.n .i64,.n .i64,.n .i64,.n .i64] (U.put R j70 (4:Nat) [CV.i now])),[],rc,false⟩,some (vukB S'58 f'57),some (vlvB T'60 g'59)],0⟩)∧(U.rMay [k0,k1,k2,k3,k4,k5,k6,k7,k8] [u0,u1,u2,u3,u4,u5,u6,u7,u8] a b a' b'→∀ (x72 y73 x'74 y'75:Int),U.or2 a b a' b' x72 y73 x'74 y'75→U.noP y65 x72 y73 x'74 y'75→∀ (G76:Rws) (gq77 gc78:Nat) (H79:Rws) (hq80 hc81:Nat),G76=U.lks (U.gone (U.fEnd a b a' b') y65)→gq77=U.vllen (U.gone (U.fEnd a b a' b') y65)→gq77≤gc78→U.insH (U.rest (U.fEnd a b a' b') y65) x72 y73 x'74 y'75 now H79→hq80=List.length H79→hq80≤hc81→∃ (y82:VLP),(qc64=qc64∧gc78=gc78∧O62=U.lks y82∧G76=U.lks y82∧q63=U.vllen y82∧gq77=U.vllen y82∧q63≤100000)∧K (lit (.bool true)) ⟨[vwB,vuB (rslC ⟨0,1,0,n,c⟩) (rslC ⟨1,1,0,n,d⟩) m,vlB (rslC ⟨5,1,0,e'56,f'57⟩) (rslC ⟨6,5,0,e'56,g'59⟩) k,rvB [k0,k1,k2,k3,k4,k5,k6,k7,k8] [u0,u1,u2,u3,u4,u5,u6,u7,u8] (rslC ⟨7,5,0,hq80,hc81⟩)],[],0,[some (vukB L c),some (vukB M d),none,none,some (snB R rc),some (vukB S'58 f'57),some (vlvB T'60 g'59),some (snB H79 hc81)],0⟩)) := by kernel_rfl
theorem step4_vc (K:AV→St→Prop) (n c:Nat) (L:Rws) (d:Nat) (M:Rws) (m:Int) (e f:Nat) (S:Rws) (g:Nat) (T:Rws) (k:Int) (k0 k1 k2 k3 k4 k5 k6 k7 k8:Bool) (u0 u1 u2 u3 u4 u5 u6 u7 u8:Int) (q rc:Nat) (R:Rws) (a b a' b' u mo t now:Int):(runR inv0 tW1 8 [ptr 0 0,ptr 3 0,opA (.inl (.int .i64 4)) a b a' b' u mo t,xi .i64 now] (bSt n c L d M m e f S g T k [k0,k1,k2,k3,k4,k5,k6,k7,k8] [u0,u1,u2,u3,u4,u5,u6,u7,u8] q rc R) K)=(∃ (y0:VUP),∃ (y1:VLP),(((c=c∧d=d∧n=n)∧f=f∧g=g∧e=e)∧U.Vw n c L d M e f S g T y0 y1)∧∀ (n'2:Nat) (L'3 M'4:Rws) (Pu'5:VUP) (e'6:Nat) (S'7 T'8:Rws) (Pl'9:VLP) (O10:Rws) (q11 qc12:Nat),U.vuRm y0 a Pu'5→Pl'9=U.rest (U.fBrk Pu'5) y1→O10=U.lks (U.gone (U.fBrk Pu'5) y1)→q11=U.vllen (U.gone (U.fBrk Pu'5) y1)→q11≤qc12→U.Vw n'2 c L'3 d M'4 e'6 f S'7 g T'8 Pu'5 Pl'9→a=a∧a=a∧∃ (y13:VLP),(rc=rc∧R=U.vlvs y13∧q=U.vllen y13∧q≤100000)∧∀ (x014 x115 x216 x317 x418 x519 x620 x721 x822:Bool) (y023 y124 y225 y326 y427 y528 y629 y730 y831:Int),U.drE [k0,k1,k2,k3,k4,k5,k6,k7,k8] [x014,x115,x216,x317,x418,x519,x620,x721,x822] [u0,u1,u2,u3,u4,u5,u6,u7,u8] [y023,y124,y225,y326,y427,y528,y629,y730,y831] a→∀ (G32:Rws) (gq33 gc34 hq35 hc36:Nat),G32=U.lks (U.gone (U.fSw a) y13)→gq33=U.vllen (U.gone (U.fSw a) y13)→gq33≤gc34→hq35=U.vllen (U.rest (U.fSw a) y13)→hq35≤hc36→a=a∧a=a∧∃ (y37:VLP),(qc12=qc12∧gc34=gc34∧O10=U.lks y37∧G32=U.lks y37∧q11=U.vllen y37∧gq33=U.vllen y37∧q11≤100000)∧a=a∧a=a∧K (lit (.bool true)) ⟨[vwB,vuB (rslC ⟨5,1,0,n'2,c⟩) (rslC ⟨6,1,0,n'2,d⟩) m,vlB (rslC ⟨2,1,0,e'6,f⟩) (rslC ⟨3,5,0,e'6,g⟩) k,rvB [x014,x115,x216,x317,x418,x519,x620,x721,x822] [y023,y124,y225,y326,y427,y528,y629,y730,y831] (rslC ⟨7,5,0,hq35,hc36⟩)],[],0,[none,none,some (vukB S'7 f),some (vlvB T'8 g),some (snB R rc),some (vukB L'3 c),some (vukB M'4 d),some ⟨84,.o (.rows [.n .i64,.n .i64,.n .i64,.n .i64,.n .i64] (U.vlvs (U.rest (U.fSw a) y13))),[],hc36,false⟩],0⟩) := by kernel_rfl
theorem step5_vc (K:AV→St→Prop) (n c:Nat) (L:Rws) (d:Nat) (M:Rws) (m:Int) (e f:Nat) (S:Rws) (g:Nat) (T:Rws) (k:Int) (k0 k1 k2 k3 k4 k5 k6 k7 k8:Bool) (u0 u1 u2 u3 u4 u5 u6 u7 u8:Int) (q rc:Nat) (R:Rws) (a b a' b' u mo t now:Int):(runR inv0 tW1 8 [ptr 0 0,ptr 3 0,opA (.inl (.int .i64 5)) a b a' b' u mo t,xi .i64 now] (bSt n c L d M m e f S g T k [k0,k1,k2,k3,k4,k5,k6,k7,k8] [u0,u1,u2,u3,u4,u5,u6,u7,u8] q rc R) K)=(∀ (z0:Int),z0=andI .i64 mo (1023:Int)→∃ (y1:VUP),∃ (y2:VLP),(((c=c∧d=d∧n=n)∧f=f∧g=g∧e=e)∧U.Vw n c L d M e f S g T y1 y2)∧∀ (e'3:Nat) (S'4 T'5:Rws) (Pl'6:VLP) (O7:Rws) (q8 qc9:Nat),Pl'6=U.rest (U.fAge now z0) y2→O7=U.lks (U.gone (U.fAge now z0) y2)→q8=U.vllen (U.gone (U.fAge now z0) y2)→q8≤qc9→U.Vw n c L d M e'3 f S'4 g T'5 y1 Pl'6→∃ (y10:VLP),(rc=rc∧R=U.vlvs y10∧q=U.vllen y10∧q≤100000)∧∀ (G11:Rws) (gq12 gc13 hq14 hc15:Nat),G11=U.lks (U.gone (U.fAge now z0) y10)→gq12=U.vllen (U.gone (U.fAge now z0) y10)→gq12≤gc13→hq14=U.vllen (U.rest (U.fAge now z0) y10)→hq14≤hc15→∃ (y16:VLP),(qc9=qc9∧gc13=gc13∧O7=U.lks y16∧G11=U.lks y16∧q8=U.vllen y16∧gq12=U.vllen y16∧q8≤100000)∧K (lit (.bool true)) ⟨[vwB,vuB (rslC ⟨0,1,0,n,c⟩) (rslC ⟨1,1,0,n,d⟩) m,vlB (rslC ⟨2,1,0,e'3,f⟩) (rslC ⟨3,5,0,e'3,g⟩) k,rvB [k0,k1,k2,k3,k4,k5,k6,k7,k8] [u0,u1,u2,u3,u4,u5,u6,u7,u8] (rslC ⟨5,5,0,hq14,hc15⟩)],[],0,[some (vukB L c),some (vukB M d),some (vukB S'4 f),some (vlvB T'5 g),some (snB R rc),some ⟨84,.o (.rows [.n .i64,.n .i64,.n .i64,.n .i64,.n .i64] (U.vlvs (U.rest (U.fAge now z0) y10))),[],hc15,false⟩],0⟩) := by kernel_rfl
theorem stepN_vc (K:AV→St→Prop) (n c:Nat) (L:Rws) (d:Nat) (M:Rws) (m:Int) (e f:Nat) (S:Rws) (g:Nat) (T:Rws) (k:Int) (k0 k1 k2 k3 k4 k5 k6 k7 k8:Bool) (u0 u1 u2 u3 u4 u5 u6 u7 u8:Int) (q rc:Nat) (R:Rws) (kd a b a' b' u mo t now:Int):(runR inv0 tNoW 8 [ptr 0 0,ptr 3 0,opA (xintC .i64 kd) a b a' b' u mo t,xi .i64 now] (bSt n c L d M m e f S g T k [k0,k1,k2,k3,k4,k5,k6,k7,k8] [u0,u1,u2,u3,u4,u5,u6,u7,u8] q rc R) K)=((kd=0→False)∧(¬kd=0→(kd=1→False)∧(¬kd=1→(kd=2→False)∧(¬kd=2→(kd=3→False)∧(¬kd=3→(kd=4→False)∧(¬kd=4→(kd=5→∀ (z0:Int),z0=andI .i64 mo (1023:Int)→False)∧(¬kd=5→K (lit (.bool true)) ⟨[vwB,vuB (rslC ⟨0,1,0,n,c⟩) (rslC ⟨1,1,0,n,d⟩) m,vlB (rslC ⟨2,1,0,e,f⟩) (rslC ⟨3,5,0,e,g⟩) k,rvB [k0,k1,k2,k3,k4,k5,k6,k7,k8] [u0,u1,u2,u3,u4,u5,u6,u7,u8] (rslC ⟨4,5,0,q,rc⟩)],[],0,[some (vukB L c),some (vukB M d),some (vukB S f),some (vlvB T g),some (snB R rc)],0⟩))))))) := by kernel_rfl
end Go.Proofs.Ytfhgnngdbbgogaa
end
section
set_option linter.unusedVariables false
set_option linter.unusedSimpArgs false
set_option maxRecDepth 10000
namespace Go.Proofs.Ytfhgnngdbbgogaa
open Go Reck Ost
structure U.VR (Pu : VUP) (Pl : VLP) (kn : List Bool) (us : List Int) (q : Nat) (R : Rws) : Prop where
  r : R = U.vlvs Pl
  hq : q = Pl.length
  hn : ∀ a : Int, 1 ≤ a → a ≤ 8 → (kn.getD a.toNat false = true ↔ ∃ v, (a, v) ∈ Pu)
  hu : ∀ a v, (a, v) ∈ Pu → us.getD a.toNat 0 = v.v0
  hb : U.ubI us
  l1 : kn.length = 9
  l2 : us.length = 9
  k0 : kn.getD 0 false = false
section
variable {Pu Pu' : VUP} {Pl Pl' Q : VLP} {kn kn' : List Bool} {us us' : List Int} {q : Nat} {R : Rws} {a b a' b' x y x' y' now sw up : Int}
theorem upp_iff (h : U.VR Pu Pl kn us q R) (hk : U.KU Pu) : U.Upp Pu a b ↔ U.rUp kn us a b := by
  constructor
  · intro hu
    obtain ⟨g, v, hv, hb⟩ := hu.out
    have ga := g.out.1
    exact ⟨g, (h.hn a ga.1 ga.2).2 ⟨_, hv⟩, by rw [h.hu a _ hv]; exact hb⟩
  · intro hu
    obtain ⟨g, h1, h2⟩ := hu.out
    have ga := g.out.1
    obtain ⟨⟨v⟩, hv⟩ := (h.hn a ga.1 ga.2).1 h1
    exact ⟨g, v, hv, by rw [h.hu a _ hv] at h2; exact h2⟩
theorem brk_eq (h : U.VR Pu Pl kn us q R) (hk : U.KU Pu) : U.fBrk Pu = U.fBrkR kn us := by
  funext p
  unfold U.fBrk U.fBrkR
  rw [show (¬ (U.Upp Pu p.2.v0 p.2.v1 ∧ U.Upp Pu p.2.v2 p.2.v3)) = (¬ (U.rUp kn us p.2.v0 p.2.v1 ∧ U.rUp kn us p.2.v2 p.2.v3)) from propext (by rw [upp_iff h hk, upp_iff h hk])]
theorem may_iff (h : U.VR Pu Pl kn us q R) (hk : U.KU Pu) : U.mayL Pu a b a' b' ↔ U.rMay kn us a b a' b' :=
  ⟨fun m => ⟨m.ne, (upp_iff h hk).1 m.u, (upp_iff h hk).1 m.u'⟩, fun m => ⟨m.ne, (upp_iff h hk).2 m.u, (upp_iff h hk).2 m.u'⟩⟩
theorem lss_num (g : U.Gd a b) (g' : U.Gd a' b') : U.Lss a b a' b' ↔ U.num a b < U.num a' b' := by
  have h1 := g.out
  have h2 := g'.out
  constructor
  · intro h
    have := h.out
    unfold U.num; omega
  · intro h
    unfold U.num at h
    exact ⟨by omega⟩
theorem ord_eq {z w z' w' : Int} (g : U.Gd a b) (g' : U.Gd a' b') (h : U.Ord a b a' b' x y x' y') (h' : U.or2 a b a' b' z w z' w') : (z = x ∧ w = y) ∧ z' = x' ∧ w' = y' := by
  have hl := lss_num g' g
  rcases h.out with ⟨h1, rfl, rfl, rfl, rfl⟩ | ⟨h1, rfl, rfl, rfl, rfl⟩ <;> rcases h'.out with ⟨h2, rfl, rfl, rfl, rfl⟩ | ⟨h2, rfl, rfl, rfl, rfl⟩
  · exact ⟨⟨rfl, rfl⟩, rfl, rfl⟩
  · exact absurd (hl.2 h1) h2
  · exact absurd (hl.1 h2) h1
  · exact ⟨⟨rfl, rfl⟩, rfl, rfl⟩
theorem getD_set {α : Type} (l : List α) (i j : Nat) (v d : α) (hi : i < l.length) : (l.set i v).getD j d = if i = j then v else l.getD j d := by
  rw [List.getD_eq_getElem?_getD, List.getElem?_set]
  by_cases e : i = j
  · subst e; rw [if_pos rfl, if_pos rfl, if_pos hi]; rfl
  · rw [if_neg e, if_neg e, List.getD_eq_getElem?_getD]
theorem vr_links (h : U.VR Pu Pl kn us q R) (Pl' : VLP) : U.VR Pu Pl' kn us Pl'.length (U.vlvs Pl') := ⟨rfl, rfl, h.hn, h.hu, h.hb, h.l1, h.l2, h.k0⟩
theorem vr_ports (h : U.VR Pu Pl kn us q R) (hk : U.KU Pu) (hs : 1 ≤ sw ∧ sw ≤ 8) (hup : 0 ≤ up ∧ up ≤ 255) (hp : U.vuPut Pu sw ⟨up⟩ Pu') (he : U.poE kn kn' us us' sw up) (Pl' : VLP) : U.VR Pu' Pl' kn' us' Pl'.length (U.vlvs Pl') := by
  have hk' := ku_put hk hs hup hp
  refine ⟨rfl, rfl, fun a h1 h2 => ?_, fun a v hv => ?_, by rw [he.u]; exact ub_set h.hb hup, by rw [he.k, List.length_set]; exact h.l1, by rw [he.u, List.length_set]; exact h.l2, ?_⟩
  · rw [he.k, getD_set _ _ _ _ _ (by rw [h.l1]; omega)]
    by_cases e : sw = a
    · subst e
      rw [if_pos rfl]
      exact ⟨fun _ => ⟨_, (hp.mem _ _).2 (.inl ⟨rfl, rfl⟩)⟩, fun _ => rfl⟩
    · rw [if_neg (by omega), h.hn a h1 h2]
      constructor
      · rintro ⟨v, hv⟩
        exact ⟨v, (hp.mem _ _).2 (.inr ⟨hv, fun h => e h.symm⟩)⟩
      · rintro ⟨v, hv⟩
        rcases (hp.mem _ _).1 hv with ⟨h, _⟩ | ⟨h, _⟩
        · exact absurd h.symm e
        · exact ⟨v, h⟩
  · have hb := (hk'.out a v hv).1
    rw [he.u, getD_set _ _ _ _ _ (by rw [h.l2]; omega)]
    rcases (hp.mem _ _).1 hv with ⟨rfl, rfl⟩ | ⟨hv, hne⟩
    · rw [if_pos rfl]
    · rw [if_neg (by omega)]; exact h.hu a v hv
  · rw [he.k, getD_set _ _ _ _ _ (by rw [h.l1]; omega), if_neg (by omega)]; exact h.k0
theorem vr_drop (h : U.VR Pu Pl kn us q R) (hk : U.KU Pu) (hp : U.vuRm Pu sw Pu') (he : U.drE kn kn' us us' sw) (Pl' : VLP) : U.VR Pu' Pl' kn' us' Pl'.length (U.vlvs Pl') := by
  have hk' := ku_rm hk hp
  rcases he.out with ⟨hs, rfl, rfl⟩ | ⟨hs, rfl, rfl⟩
  · refine ⟨rfl, rfl, fun a h1 h2 => ?_, fun a v hv => ?_, ub_set h.hb (x := 0) (by omega), by rw [List.length_set]; exact h.l1, by rw [List.length_set]; exact h.l2, ?_⟩
    · rw [getD_set _ _ _ _ _ (by rw [h.l1]; omega)]
      by_cases e : sw = a
      · subst e
        rw [if_pos rfl]
        exact ⟨fun h => absurd h (by decide), fun ⟨v, hv⟩ => absurd rfl ((hp.mem _ _).1 hv).2⟩
      · rw [if_neg (by omega), h.hn a h1 h2]
        exact ⟨fun ⟨v, hv⟩ => ⟨v, (hp.mem _ _).2 ⟨hv, fun h => e h.symm⟩⟩, fun ⟨v, hv⟩ => ⟨v, ((hp.mem _ _).1 hv).1⟩⟩
    · obtain ⟨hv', hne⟩ := (hp.mem _ _).1 hv
      have hb := (hk'.out a v hv).1
      rw [getD_set _ _ _ _ _ (by rw [h.l2]; omega), if_neg (by omega)]
      exact h.hu a v hv'
    · rw [getD_set _ _ _ _ _ (by rw [h.l1]; omega), if_neg (by omega)]; exact h.k0
  · refine ⟨rfl, rfl, fun a h1 h2 => ?_, fun a v hv => h.hu a v ((hp.mem _ _).1 hv).1, h.hb, h.l1, h.l2, h.k0⟩
    rw [h.hn a h1 h2]
    exact ⟨fun ⟨v, hv⟩ => ⟨v, (hp.mem _ _).2 ⟨hv, fun e => hs (by omega)⟩⟩, fun ⟨v, hv⟩ => ⟨v, ((hp.mem _ _).1 hv).1⟩⟩
theorem sw_brk (hl : U.LI Pu Pl) (hp : U.vuRm Pu sw Pu') : ∀ p ∈ Pl, U.fBrk Pu' p = U.fSw sw p := by
  intro p hpl
  obtain ⟨_, u0, u2, _⟩ := hl.wf p.1 p.2 hpl
  have key : ∀ {a b : Int}, U.Upp Pu a b → (U.Upp Pu' a b ↔ a ≠ sw) := fun {a b} hu => by
    obtain ⟨g, v, hv, hb⟩ := hu.out
    constructor
    · intro h e
      obtain ⟨_, w, hw, _⟩ := h.out
      exact ((hp.mem _ _).1 hw).2 e
    · intro e
      exact ⟨g, v, (hp.mem _ _).2 ⟨hv, e⟩, hb⟩
  unfold U.fBrk U.fSw
  rw [show (¬ (U.Upp Pu' p.2.v0 p.2.v1 ∧ U.Upp Pu' p.2.v2 p.2.v3)) = (p.2.v0 = sw ∨ p.2.v2 = sw) from propext (by
    rw [key u0, key u2]
    constructor
    · intro h
      by_cases e : p.2.v0 = sw
      · exact .inl e
      · by_cases e2 : p.2.v2 = sw
        · exact .inr e2
        · exact absurd ⟨e, e2⟩ h
    · rintro (h | h) ⟨h1, h2⟩
      · exact h1 h
      · exact h2 h)]
theorem gone_congr {F G : Int × VLv → Bool} (h : ∀ p ∈ Pl, F p = G p) : U.gone F Pl = U.gone G Pl ∧ U.rest F Pl = U.rest G Pl :=
  ⟨List.filter_congr h, List.filter_congr fun p hp => by rw [h p hp]⟩
theorem vlsrt_eq : ∀ {P Q : VLP}, U.vlSrt P → U.vlSrt Q → (∀ x, x ∈ P ↔ x ∈ Q) → P = Q
  | [], [], _, _, _ => rfl
  | [], b :: Q, _, _, h => by have := (h b).2 (List.mem_cons_self ..); cases this
  | a :: P, [], _, _, h => by have := (h a).1 (List.mem_cons_self ..); cases this
  | a :: P, b :: Q, hp, hq, h => by
    have p1 := List.pairwise_cons.1 hp.out
    have q1 := List.pairwise_cons.1 hq.out
    have e : a = b := by
      rcases List.mem_cons.1 ((h a).1 (List.mem_cons_self ..)) with e | e
      · exact e
      · rcases List.mem_cons.1 ((h b).2 (List.mem_cons_self ..)) with f | f
        · exact f.symm
        · have := q1.1 a e
          have := p1.1 b f
          omega
    subst e
    rw [vlsrt_eq ⟨p1.2⟩ ⟨q1.2⟩ fun x => ?_]
    constructor
    · intro hx
      rcases List.mem_cons.1 ((h x).1 (List.mem_cons_of_mem _ hx)) with e | e
      · subst e; have := p1.1 x hx; omega
      · exact e
    · intro hx
      rcases List.mem_cons.1 ((h x).2 (List.mem_cons_of_mem _ hx)) with e | e
      · subst e; have := q1.1 x hx; omega
      · exact e
theorem put_row {j : Nat} {p : Int × VLv} (hs : U.vlSrt Pl) (hl : U.LI Pu Pl) (hp : Pl[j]? = some p) (he : (p.2.v0 = x ∧ p.2.v1 = y) ∧ p.2.v2 = x' ∧ p.2.v3 = y') (hP : U.vlPut Pl (U.num x y) ⟨x, y, x', y', now⟩ Pl') : U.put (U.vlvs Pl) j 4 [.i now] = U.vlvs Pl' ∧ Pl'.length = Pl.length := by
  obtain ⟨hjl, hpe⟩ := List.getElem?_eq_some_iff.1 hp
  have hm : p ∈ Pl := List.mem_of_getElem? hp
  have hk := (hl.wf p.1 p.2 hm).1
  obtain ⟨⟨e0, e1⟩, e2, e3⟩ := he
  have hk' : p.1 = U.num x y := by rw [hk, e0, e1]
  have hset : Pl' = Pl.set j (U.num x y, ⟨x, y, x', y', now⟩) := by
    have hpw := List.pairwise_iff_getElem.1 hs.out
    refine vlsrt_eq hP.srt ⟨?_⟩ fun z => ?_
    · rw [List.pairwise_iff_getElem]
      intro i k hi hk2 hik
      rw [List.length_set] at hi hk2
      have a1 : ((Pl.set j (U.num x y, (⟨x, y, x', y', now⟩ : VLv)))[i]'(by rw [List.length_set]; exact hi)).1 = (Pl[i]).1 := by
        rw [List.getElem_set]; split
        · rename_i h; subst h; rw [hpe]; exact hk'.symm
        · rfl
      have a2 : ((Pl.set j (U.num x y, (⟨x, y, x', y', now⟩ : VLv)))[k]'(by rw [List.length_set]; exact hk2)).1 = (Pl[k]).1 := by
        rw [List.getElem_set]; split
        · rename_i h; subst h; rw [hpe]; exact hk'.symm
        · rfl
      rw [a1, a2]; exact hpw i k hi hk2 hik
    · rw [show z = (z.1, z.2) from rfl, hP.mem]
      constructor
      · rintro (⟨h1, h2⟩ | ⟨h1, h2⟩)
        · rw [h1, h2]
          exact List.mem_iff_getElem?.2 ⟨j, by rw [List.getElem?_set_self hjl]⟩
        · obtain ⟨i, hi⟩ := List.getElem?_of_mem h1
          refine List.mem_iff_getElem?.2 ⟨i, ?_⟩
          rw [List.getElem?_set_ne (fun e => ?_)]
          · exact hi
          · subst e
            have e5 := congrArg Prod.fst (Option.some.inj (hp.symm.trans hi))
            exact h2 (e5.symm.trans hk')
      · intro h
        obtain ⟨i, hi⟩ := List.getElem?_of_mem h
        by_cases e : j = i
        · subst e
          rw [List.getElem?_set_self hjl] at hi
          have e5 := Option.some.inj hi
          exact .inl ⟨(congrArg Prod.fst e5).symm, (congrArg Prod.snd e5).symm⟩
        · rw [List.getElem?_set_ne e] at hi
          refine .inr ⟨List.mem_of_getElem? hi, fun h2 => ?_⟩
          obtain ⟨il, ie⟩ := List.getElem?_eq_some_iff.1 hi
          rcases Nat.lt_trichotomy i j with g | g | g
          · have := hpw i j il hjl g; rw [ie, hpe] at this; dsimp only at h2 this; omega
          · exact e g.symm
          · have := hpw j i hjl il g; rw [ie, hpe] at this; dsimp only at h2 this; omega
  refine ⟨?_, by rw [hset, List.length_set]⟩
  have hrow : (U.vlvs Pl).getD j [] = p.2.row := (vlat hp).1
  unfold U.put
  rw [hrow, hset]
  unfold U.vlvs
  rw [List.map_set]
  congr 1
  obtain ⟨k, ⟨v0, v1, v2, v3, v4⟩⟩ := p
  dsimp only at e0 e1 e2 e3
  subst e0; subst e1; subst e2; subst e3
  rfl
theorem ins_row {H : Rws} (hs : U.vlSrt Q) (hl : U.LI Pu Q) (g : U.Gd x y) (hno : ∀ k v, (k, v) ∈ Q → U.num x y ≠ k) (hi : U.insH Q x y x' y' now H) (hP : U.vlPut Q (U.num x y) ⟨x, y, x', y', now⟩ Pl') : H = U.vlvs Pl' := by
  obtain ⟨z, z1, z2, z3, z4⟩ := hi.out
  have hpw := List.pairwise_iff_getElem.1 hs.out
  have lo : ∀ p ∈ Q.take z, p.1 < U.num x y := fun p hp => by
    obtain ⟨m, hm⟩ := List.getElem?_of_mem hp
    rw [List.getElem?_take] at hm
    split at hm
    · rename_i hmz
      have hpm := List.mem_of_getElem? hm
      obtain ⟨e, u0, _, _⟩ := hl.wf p.1 p.2 hpm
      have := z2 m hmz p hm
      rw [lss_num g u0.out.1, ← e] at this
      have := hno p.1 p.2 hpm
      omega
    · cases hm
  have hi' : ∀ p ∈ Q.drop z, U.num x y < p.1 := fun p hp => by
    obtain ⟨m, hm⟩ := List.getElem?_of_mem hp
    rw [List.getElem?_drop] at hm
    obtain ⟨hml, hme⟩ := List.getElem?_eq_some_iff.1 hm
    have hzl : z < Q.length := by omega
    have hz := List.getElem?_eq_getElem hzl
    obtain ⟨e, u0, _, _⟩ := hl.wf Q[z].1 Q[z].2 (List.getElem_mem hzl)
    have h3 := z3 _ hz
    rw [lss_num g u0.out.1, ← e] at h3
    by_cases em : m = 0
    · subst em
      have : p = Q[z] := by rw [← hme]; rfl
      rw [this]; exact h3
    · have := hpw z (z + m) hzl hml (by omega)
      rw [hme] at this; omega
  have hset : Pl' = Q.take z ++ [(U.num x y, ⟨x, y, x', y', now⟩)] ++ Q.drop z := by
    refine vlsrt_eq hP.srt ⟨?_⟩ fun w => ?_
    · rw [List.pairwise_append, List.pairwise_append]
      refine ⟨⟨hs.out.sublist (List.take_sublist _ _), List.pairwise_singleton _ _, fun p hp w hw => ?_⟩, hs.out.sublist (List.drop_sublist _ _), fun p hp w hw => ?_⟩
      · rw [List.mem_singleton] at hw; subst hw; exact lo p hp
      · have h1 := hi' w hw
        rcases List.mem_append.1 hp with h | h
        · have := lo p h; omega
        · rw [List.mem_singleton] at h; subst h; exact h1
    · rw [show w = (w.1, w.2) from rfl, hP.mem, List.mem_append, List.mem_append, List.mem_singleton]
      have hsplit : (w.1, w.2) ∈ Q ↔ (w.1, w.2) ∈ Q.take z ∨ (w.1, w.2) ∈ Q.drop z := by rw [← List.mem_append, List.take_append_drop]
      constructor
      · rintro (⟨h1, h2⟩ | ⟨h1, h2⟩)
        · exact .inl (.inr (by rw [h1, h2]))
        · rcases hsplit.1 h1 with h | h
          · exact .inl (.inl h)
          · exact .inr h
      · rintro ((h | h) | h)
        · exact .inr ⟨hsplit.2 (.inl h), fun e => by have := lo _ h; dsimp only at this; omega⟩
        · exact .inl ⟨congrArg Prod.fst h, congrArg Prod.snd h⟩
        · exact .inr ⟨hsplit.2 (.inr h), fun e => by have := hi' _ h; dsimp only at this; omega⟩
  rw [z4, hset, vlvs_app, vlvs_app, vlvs_app, vlvs_app]; rfl
end
end Go.Proofs.Ytfhgnngdbbgogaa
end
section
set_option linter.unusedVariables false
set_option linter.unusedSimpArgs false
set_option maxRecDepth 10000
namespace Go.Proofs.Ytfhgnngdbbgogaa
open Go Reck Ost
structure U.B (n c : Nat) (L : Rws) (d : Nat) (M : Rws) (e f : Nat) (S : Rws) (g : Nat) (T : Rws) (kn : List Bool) (us : List Int) (q : Nat) (R : Rws) : Prop where
  out : ∃ Pu Pl, U.Vw n c L d M e f S g T Pu Pl ∧ U.VR Pu Pl kn us q R
structure SKv (K : AV → St → Prop) (n c : Nat) (L : Rws) (d : Nat) (M : Rws) (m : Int) (e f : Nat) (S : Rws) (g : Nat) (T : Rws) (k : Int) (kn : List Bool) (us : List Int) (q rc : Nat) (R : Rws) : Prop where
  a : K (lit (.bool true)) (bSt n c L d M m e f S g T k kn us q rc R)
  b : ∀ (e' : Nat) (S' T' : Rws) (hq hc : Nat) (H : Rws), U.B n c L d M e' f S' g T' kn us hq H → hq ≤ hc → K (lit (.bool true)) ⟨[vwB, vuB (rslC ⟨0, 1, 0, n, c⟩) (rslC ⟨1, 1, 0, n, d⟩) m, vlB (rslC ⟨2, 1, 0, e', f⟩) (rslC ⟨3, 5, 0, e', g⟩) k, rvB kn us (rslC ⟨5, 5, 0, hq, hc⟩)], [], 0, [some (vukB L c), some (vuvB M d), some (vlkB S' f), some (vlvB T' g), some (snB R rc), some (snB H hc)], 0⟩
  p : ∀ (n' c' : Nat) (L' : Rws) (d' : Nat) (M' : Rws) (e' : Nat) (S' T' : Rws) (x0 x1 x2 x3 x4 x5 x6 x7 x8 : Bool) (y0 y1 y2 y3 y4 y5 y6 y7 y8 : Int) (hq hc : Nat) (H : Rws), U.B n' c' L' d' M' e' f S' g T' [x0, x1, x2, x3, x4, x5, x6, x7, x8] [y0, y1, y2, y3, y4, y5, y6, y7, y8] hq H → hq ≤ hc → K (lit (.bool true)) ⟨[vwB, vuB (rslC ⟨5, 1, 0, n', c'⟩) (rslC ⟨6, 1, 0, n', d'⟩) m, vlB (rslC ⟨2, 1, 0, e', f⟩) (rslC ⟨3, 5, 0, e', g⟩) k, rvB [x0, x1, x2, x3, x4, x5, x6, x7, x8] [y0, y1, y2, y3, y4, y5, y6, y7, y8] (rslC ⟨7, 5, 0, hq, hc⟩)], [], 0, [none, none, some (vlkB S' f), some (vlvB T' g), some (snB R rc), some (vukB L' c'), some (vuvB M' d'), some (snB H hc)], 0⟩
  l : ∀ (e' f' : Nat) (S' : Rws) (g' : Nat) (T' R' : Rws), U.B n c L d M e' f' S' g' T' kn us q R' → K (lit (.bool true)) ⟨[vwB, vuB (rslC ⟨0, 1, 0, n, c⟩) (rslC ⟨1, 1, 0, n, d⟩) m, vlB (rslC ⟨5, 1, 0, e', f'⟩) (rslC ⟨6, 5, 0, e', g'⟩) k, rvB kn us (rslC ⟨4, 5, 0, q, rc⟩)], [], 0, [some (vukB L c), some (vuvB M d), none, none, some (snB R' rc), some (vlkB S' f'), some (vlvB T' g')], 0⟩
  w : ∀ (e' f' : Nat) (S' : Rws) (g' : Nat) (T' : Rws) (hq hc : Nat) (H : Rws), U.B n c L d M e' f' S' g' T' kn us hq H → hq ≤ hc → K (lit (.bool true)) ⟨[vwB, vuB (rslC ⟨0, 1, 0, n, c⟩) (rslC ⟨1, 1, 0, n, d⟩) m, vlB (rslC ⟨5, 1, 0, e', f'⟩) (rslC ⟨6, 5, 0, e', g'⟩) k, rvB kn us (rslC ⟨7, 5, 0, hq, hc⟩)], [], 0, [some (vukB L c), some (vuvB M d), none, none, some (snB R rc), some (vlkB S' f'), some (vlvB T' g'), some (snB H hc)], 0⟩
theorem gone_le (F : Int × VLv → Bool) {P : VLP} (h : P.length ≤ 32) : U.vllen (U.gone F P) ≤ 100000 := by
  have := List.length_filter_le F P
  unfold U.vllen U.gone; omega
section
variable (K : AV → St → Prop) (n c : Nat) (L : Rws) (d : Nat) (M : Rws) (m : Int) (e f : Nat) (S : Rws) (g : Nat) (T : Rws) (k : Int) (k0 k1 k2 k3 k4 k5 k6 k7 k8 : Bool) (u0 u1 u2 u3 u4 u5 u6 u7 u8 : Int) (q rc : Nat) (R : Rws)
set_option maxHeartbeats 4000000 in
theorem step5_run (a b a' b' u mo t now : Int) (hB : U.B n c L d M e f S g T [k0, k1, k2, k3, k4, k5, k6, k7, k8] [u0, u1, u2, u3, u4, u5, u6, u7, u8] q R) (hK : SKv K n c L d M m e f S g T k [k0, k1, k2, k3, k4, k5, k6, k7, k8] [u0, u1, u2, u3, u4, u5, u6, u7, u8] q rc R) : runR inv0 tW1 8 [ptr 0 0, ptr 3 0, opA (.inl (.int .i64 5)) a b a' b' u mo t, xi .i64 now] (bSt n c L d M m e f S g T k [k0, k1, k2, k3, k4, k5, k6, k7, k8] [u0, u1, u2, u3, u4, u5, u6, u7, u8] q rc R) K := by
  obtain ⟨Pu, Pl, hV, hR⟩ := hB.out
  have h32 := li_32 hV.li hV.l.srt
  have hq5 : q ≤ 100000 := by have := hR.hq; omega
  rw [step5_vc]
  intro z0 h0
  refine ⟨Pu, Pl, (by repeat' (first | exact rfl | exact hV | exact hm | exact hk | exact hR.r | exact hR.hq | exact hR.hb | exact hq5 | assumption | with_reducible apply And.intro)), fun e' S' T' P' O q8 qc y1 y2 y3 y4 V' => ⟨Pl, (by repeat' (first | exact rfl | exact hV | exact hm | exact hk | exact hR.r | exact hR.hq | exact hR.hb | exact hq5 | assumption | with_reducible apply And.intro)), fun G gq gc hq hc z1 z2 z3 z4 z5 => ?_⟩⟩
  have g5 := gone_le (U.fAge now z0) h32
  have g6 : q8 ≤ 100000 := by rw [y3]; exact g5
  refine ⟨U.gone (U.fAge now z0) Pl, (by repeat' (first | exact rfl | exact hV | exact hm | exact hk | exact hR.r | exact hR.hq | exact hR.hb | exact hq5 | assumption | with_reducible apply And.intro)), ?_⟩
  subst y1
  have hr := vr_links hR (U.rest (U.fAge now z0) Pl)
  rw [show (U.rest (U.fAge now z0) Pl).length = hq from z4.symm] at hr
  exact hK.b _ _ _ _ _ _ ⟨Pu, _, V', hr⟩ z5
set_option maxHeartbeats 4000000 in
theorem step4_run (a b a' b' u mo t now : Int) (hB : U.B n c L d M e f S g T [k0, k1, k2, k3, k4, k5, k6, k7, k8] [u0, u1, u2, u3, u4, u5, u6, u7, u8] q R) (hK : SKv K n c L d M m e f S g T k [k0, k1, k2, k3, k4, k5, k6, k7, k8] [u0, u1, u2, u3, u4, u5, u6, u7, u8] q rc R) : runR inv0 tW1 8 [ptr 0 0, ptr 3 0, opA (.inl (.int .i64 4)) a b a' b' u mo t, xi .i64 now] (bSt n c L d M m e f S g T k [k0, k1, k2, k3, k4, k5, k6, k7, k8] [u0, u1, u2, u3, u4, u5, u6, u7, u8] q rc R) K := by
  obtain ⟨Pu, Pl, hV, hR⟩ := hB.out
  have h32 := li_32 hV.li hV.l.srt
  have hq5 : q ≤ 100000 := by have := hR.hq; omega
  rw [step4_vc]
  refine ⟨Pu, Pl, (by repeat' (first | exact rfl | exact hV | exact hm | exact hk | exact hR.r | exact hR.hq | exact hR.hb | exact hq5 | assumption | with_reducible apply And.intro)), fun n' L' M' Pu' e' S' T' P' O q8 qc y0 y1 y2 y3 y4 V' => ?_⟩
  repeat (refine ⟨rfl, ?_⟩)
  refine ⟨Pl, (by repeat' (first | exact rfl | exact hV | exact hm | exact hk | exact hR.r | exact hR.hq | exact hR.hb | exact hq5 | assumption | with_reducible apply And.intro)), ?_⟩
  obtain ⟨w1, w2⟩ := gone_congr (sw_brk hV.li y0)
  intro r0 r1 r2 r3 r4 r5 r6 r7 r8 s0 s1 s2 s3 s4 s5 s6 s7 s8 hE G gq gc hq hc z1 z2 z3 z4 z5
  have g5 := gone_le (U.fSw a) h32
  rw [w1] at y2 y3
  rw [w2] at y1
  have g6 : q8 ≤ 100000 := by rw [y3]; exact g5
  repeat (refine ⟨rfl, ?_⟩)
  refine ⟨U.gone (U.fSw a) Pl, (by repeat' (first | exact rfl | exact hV | exact hm | exact hk | exact hR.r | exact hR.hq | exact hR.hb | exact hq5 | assumption | with_reducible apply And.intro)), ?_⟩
  repeat (refine ⟨rfl, ?_⟩)
  subst y1
  have hr := vr_drop hR hV.ku y0 hE (U.rest (U.fSw a) Pl)
  rw [show (U.rest (U.fSw a) Pl).length = hq from z4.symm] at hr
  exact hK.p _ _ _ _ _ _ _ _ r0 r1 r2 r3 r4 r5 r6 r7 r8 s0 s1 s2 s3 s4 s5 s6 s7 s8 _ _ _ ⟨Pu', _, V', hr⟩ z5
set_option maxHeartbeats 4000000 in
theorem step0_run (a b a' b' u mo t now : Int) (hm : m = 8) (hB : U.B n c L d M e f S g T [k0, k1, k2, k3, k4, k5, k6, k7, k8] [u0, u1, u2, u3, u4, u5, u6, u7, u8] q R) (hK : SKv K n c L d M m e f S g T k [k0, k1, k2, k3, k4, k5, k6, k7, k8] [u0, u1, u2, u3, u4, u5, u6, u7, u8] q rc R) : runR inv0 tW1 8 [ptr 0 0, ptr 3 0, opA (.inl (.int .i64 0)) a b a' b' u mo t, xi .i64 now] (bSt n c L d M m e f S g T k [k0, k1, k2, k3, k4, k5, k6, k7, k8] [u0, u1, u2, u3, u4, u5, u6, u7, u8] q rc R) K := by
  obtain ⟨Pu, Pl, hV, hR⟩ := hB.out
  have h32 := li_32 hV.li hV.l.srt
  have hq5 : q ≤ 100000 := by have := hR.hq; omega
  rw [step0_vc]
  refine ⟨Pu, Pl, (by repeat' (first | exact rfl | exact hV | exact hm | exact hk | exact hR.r | exact hR.hq | exact hR.hb | exact hq5 | assumption | with_reducible apply And.intro)), fun hb => ?_, fun hb n' c' L' d' M' Pu' e' S' T' P' O q8 qc y0 y1 y2 y3 y4 V' => ?_⟩
  · repeat (refine ⟨rfl, ?_⟩)
    refine ⟨Pl, (by repeat' (first | exact rfl | exact hV | exact hm | exact hk | exact hR.r | exact hR.hq | exact hR.hb | exact hq5 | assumption | with_reducible apply And.intro)), fun _ => ?_, fun hn => absurd hb hn⟩
    repeat (refine ⟨rfl, ?_⟩)
    refine ⟨[], by repeat' (first | exact rfl | exact Nat.zero_le _ | with_reducible apply And.intro), ?_⟩
    repeat (refine ⟨rfl, ?_⟩)
    exact hK.a
  repeat (refine ⟨rfl, ?_⟩)
  refine ⟨Pl, (by repeat' (first | exact rfl | exact hV | exact hm | exact hk | exact hR.r | exact hR.hq | exact hR.hb | exact hq5 | assumption | with_reducible apply And.intro)), fun hb' => absurd hb' hb, fun _ => ?_⟩
  have hr : 1 ≤ a ∧ a ≤ 8 ∧ 0 ≤ u ∧ u ≤ 255 := ⟨Int.not_lt.1 fun g => hb ⟨.inl g⟩, Int.not_lt.1 fun g => hb ⟨.inr (.inl g)⟩, Int.not_lt.1 fun g => hb ⟨.inr (.inr (.inl g))⟩, Int.not_lt.1 fun g => hb ⟨.inr (.inr (.inr g))⟩⟩
  intro r0 r1 r2 r3 r4 r5 r6 r7 r8 s0 s1 s2 s3 s4 s5 s6 s7 s8 hE G gq gc hq hc z1 z2 z3 z4 z5
  have hr0 := vr_ports hR hV.ku ⟨hr.1, hr.2.1⟩ hr.2.2 y0 hE Pl
  have he := brk_eq hr0 V'.ku
  rw [he] at y1 y2 y3
  have g5 := gone_le (U.fBrkR [r0, r1, r2, r3, r4, r5, r6, r7, r8] [s0, s1, s2, s3, s4, s5, s6, s7, s8]) h32
  have g6 : q8 ≤ 100000 := by rw [y3]; exact g5
  repeat (refine ⟨rfl, ?_⟩)
  refine ⟨U.gone (U.fBrkR [r0, r1, r2, r3, r4, r5, r6, r7, r8] [s0, s1, s2, s3, s4, s5, s6, s7, s8]) Pl, (by repeat' (first | exact rfl | exact hV | exact hm | exact hk | exact hR.r | exact hR.hq | exact hR.hb | exact hq5 | assumption | with_reducible apply And.intro)), ?_⟩
  repeat (refine ⟨rfl, ?_⟩)
  subst y1
  have hr2 := vr_ports hR hV.ku ⟨hr.1, hr.2.1⟩ hr.2.2 y0 hE (U.rest (U.fBrkR [r0, r1, r2, r3, r4, r5, r6, r7, r8] [s0, s1, s2, s3, s4, s5, s6, s7, s8]) Pl)
  rw [show (U.rest (U.fBrkR [r0, r1, r2, r3, r4, r5, r6, r7, r8] [s0, s1, s2, s3, s4, s5, s6, s7, s8]) Pl).length = hq from z4.symm] at hr2
  exact hK.p _ _ _ _ _ _ _ _ r0 r1 r2 r3 r4 r5 r6 r7 r8 s0 s1 s2 s3 s4 s5 s6 s7 s8 _ _ _ ⟨Pu', _, V', hr2⟩ z5
set_option maxHeartbeats 4000000 in
theorem step1_run (a b a' b' u mo t now : Int) (hk : k = 32) (hB : U.B n c L d M e f S g T [k0, k1, k2, k3, k4, k5, k6, k7, k8] [u0, u1, u2, u3, u4, u5, u6, u7, u8] q R) (hK : SKv K n c L d M m e f S g T k [k0, k1, k2, k3, k4, k5, k6, k7, k8] [u0, u1, u2, u3, u4, u5, u6, u7, u8] q rc R) : runR inv0 tW1 8 [ptr 0 0, ptr 3 0, opA (.inl (.int .i64 1)) a b a' b' u mo t, xi .i64 now] (bSt n c L d M m e f S g T k [k0, k1, k2, k3, k4, k5, k6, k7, k8] [u0, u1, u2, u3, u4, u5, u6, u7, u8] q rc R) K := by
  obtain ⟨Pu, Pl, hV, hR⟩ := hB.out
  have h32 := li_32 hV.li hV.l.srt
  have hq5 : q ≤ 100000 := by have := hR.hq; omega
  have hmay := may_iff (a := a) (b := b) (a' := a') (b' := b') hR hV.ku
  have memk : ∀ {x y x' y' t : Int}, (U.num x y, (⟨x, y, x', y', t⟩ : VLv)) ∈ Pl → ∃ p ∈ Pl, ((p.2.v0 = x ∧ p.2.v1 = y) ∧ p.2.v2 = x' ∧ p.2.v3 = y') := fun h => ⟨_, h, ⟨rfl, rfl⟩, rfl, rfl⟩
  have kmem : ∀ {x y x' y' : Int} {j : Nat} {p : Int × VLv}, Pl[j]? = some p → ((p.2.v0 = x ∧ p.2.v1 = y) ∧ p.2.v2 = x' ∧ p.2.v3 = y') → (U.num x y, (⟨x, y, x', y', p.2.v4⟩ : VLv)) ∈ Pl := fun {x y x' y' j p} hp he => by
    have hm := List.mem_of_getElem? hp
    have hk := (hV.li.wf p.1 p.2 hm).1
    obtain ⟨⟨rfl, rfl⟩, rfl, rfl⟩ := he
    rw [← hk]; exact hm
  rw [step1_vc]
  refine ⟨Pu, Pl, (by repeat' (first | exact rfl | exact hV | exact hm | exact hk | exact hR.r | exact hR.hq | exact hR.hb | exact hq5 | assumption | with_reducible apply And.intro)), fun hn => ⟨Pl, (by repeat' (first | exact rfl | exact hV | exact hm | exact hk | exact hR.r | exact hR.hq | exact hR.hb | exact hq5 | assumption | with_reducible apply And.intro)), fun _ => ⟨[], by repeat' (first | exact rfl | exact Nat.zero_le _ | with_reducible apply And.intro), hK.a⟩, fun hr => absurd (hmay.2 hr) hn, fun hr => absurd (hmay.2 hr) hn⟩, fun x y x' y' t0 hml ho hmem e' f' S' g' T' P' hput V' => ⟨Pl, (by repeat' (first | exact rfl | exact hV | exact hm | exact hk | exact hR.r | exact hR.hq | exact hR.hb | exact hq5 | assumption | with_reducible apply And.intro)), fun hn => absurd (hmay.1 hml) hn, fun _ x2 y2 x2' y2' ho2 j p hpe => ?_, fun _ x2 y2 x2' y2' ho2 hnone => ?_⟩, fun x y x' y' hml ho hun e' f' S' g' T' P' O q65 qc66 o1 o2 o3 hput V' => ⟨Pl, (by repeat' (first | exact rfl | exact hV | exact hm | exact hk | exact hR.r | exact hR.hq | exact hR.hb | exact hq5 | assumption | with_reducible apply And.intro)), fun hn => absurd (hmay.1 hml) hn, fun _ x2 y2 x2' y2' ho2 j p hpe => ?_, fun _ x2 y2 x2' y2' ho2 hnone G gq gc H hq hc z1 z2 z3 hins z4 z5 => ?_⟩⟩
  · obtain ⟨⟨rfl, rfl⟩, rfl, rfl⟩ := ord_eq hml.u.out.1 hml.u'.out.1 ho ho2
    have hR' := hR.r
    subst hR'
    repeat (refine ⟨rfl, ?_⟩)
    refine ⟨[], by repeat' (first | exact rfl | exact Nat.zero_le _ | with_reducible apply And.intro), ?_⟩
    obtain ⟨p1, p2⟩ := put_row hV.l.srt hV.li hpe.at' hpe.eq hput
    have hr := vr_links hR P'
    rw [p2, ← hR.hq, ← p1] at hr
    exact hK.l _ _ _ _ _ _ ⟨Pu, _, V', hr⟩
  · obtain ⟨⟨rfl, rfl⟩, rfl, rfl⟩ := ord_eq hml.u.out.1 hml.u'.out.1 ho ho2
    obtain ⟨p, hp, he⟩ := memk hmem
    exact absurd he (hnone.out p hp)
  · obtain ⟨⟨rfl, rfl⟩, rfl, rfl⟩ := ord_eq hml.u.out.1 hml.u'.out.1 ho ho2
    exact absurd (kmem hpe.at' hpe.eq) (hun _)
  · obtain ⟨⟨rfl, rfl⟩, rfl, rfl⟩ := ord_eq hml.u.out.1 hml.u'.out.1 ho ho2
    have g5 := gone_le (U.fEnd a b a' b') h32
    have g6 : q65 ≤ 100000 := by rw [o2]; exact g5
    refine ⟨U.gone (U.fEnd a b a' b') Pl, (by repeat' (first | exact rfl | exact hV | exact hm | exact hk | exact hR.r | exact hR.hq | exact hR.hb | exact hq5 | assumption | with_reducible apply And.intro)), ?_⟩
    obtain ⟨u1, u2, u3⟩ := ord_may hml ho
    have hsub : U.LI Pu (U.rest (U.fEnd a b a' b') Pl) := li_sub hV.li fun p hx => (rest_mem.1 hx).1
    have hno : ∀ k v, (k, v) ∈ U.rest (U.fEnd a b a' b') Pl → U.num x2 y2 ≠ k := fun k v hx => by
      have := rest_end hV.li hml hx
      rcases ho.out with ⟨_, h1, h2, _⟩ | ⟨_, h1, h2, _⟩
      · rw [h1, h2]; exact this.2.1
      · rw [h1, h2]; exact this.1.1
    have hH := ins_row (rest_srt hV.l.srt) hsub u1.out.1 hno hins hput
    have hr := vr_links hR P'
    rw [← hH] at hr
    have hl : P'.length = hq := by rw [z4, hH]; simp [U.vlvs]
    rw [hl] at hr
    exact hK.w _ _ _ _ _ _ _ _ ⟨Pu, _, V', hr⟩ z5
set_option maxHeartbeats 4000000 in
theorem step2_run (a b a' b' u mo t now : Int) (hk : k = 32) (hB : U.B n c L d M e f S g T [k0, k1, k2, k3, k4, k5, k6, k7, k8] [u0, u1, u2, u3, u4, u5, u6, u7, u8] q R) (hK : SKv K n c L d M m e f S g T k [k0, k1, k2, k3, k4, k5, k6, k7, k8] [u0, u1, u2, u3, u4, u5, u6, u7, u8] q rc R) : runR inv0 tW1 8 [ptr 0 0, ptr 3 0, opA (.inl (.int .i64 2)) a b a' b' u mo t, xi .i64 now] (bSt n c L d M m e f S g T k [k0, k1, k2, k3, k4, k5, k6, k7, k8] [u0, u1, u2, u3, u4, u5, u6, u7, u8] q rc R) K := by
  obtain ⟨Pu, Pl, hV, hR⟩ := hB.out
  have h32 := li_32 hV.li hV.l.srt
  have hq5 : q ≤ 100000 := by have := hR.hq; omega
  have hmay := may_iff (a := a) (b := b) (a' := a') (b' := b') hR hV.ku
  have memk : ∀ {x y x' y' t : Int}, (U.num x y, (⟨x, y, x', y', t⟩ : VLv)) ∈ Pl → ∃ p ∈ Pl, ((p.2.v0 = x ∧ p.2.v1 = y) ∧ p.2.v2 = x' ∧ p.2.v3 = y') := fun h => ⟨_, h, ⟨rfl, rfl⟩, rfl, rfl⟩
  have kmem : ∀ {x y x' y' : Int} {j : Nat} {p : Int × VLv}, Pl[j]? = some p → ((p.2.v0 = x ∧ p.2.v1 = y) ∧ p.2.v2 = x' ∧ p.2.v3 = y') → (U.num x y, (⟨x, y, x', y', p.2.v4⟩ : VLv)) ∈ Pl := fun {x y x' y' j p} hp he => by
    have hm := List.mem_of_getElem? hp
    have hk := (hV.li.wf p.1 p.2 hm).1
    obtain ⟨⟨rfl, rfl⟩, rfl, rfl⟩ := he
    rw [← hk]; exact hm
  rw [step2_vc]
  refine ⟨Pu, Pl, (by repeat' (first | exact rfl | exact hV | exact hm | exact hk | exact hR.r | exact hR.hq | exact hR.hb | exact hq5 | assumption | with_reducible apply And.intro)), fun hn => ⟨Pl, (by repeat' (first | exact rfl | exact hV | exact hm | exact hk | exact hR.r | exact hR.hq | exact hR.hb | exact hq5 | assumption | with_reducible apply And.intro)), fun _ => ⟨[], by repeat' (first | exact rfl | exact Nat.zero_le _ | with_reducible apply And.intro), hK.a⟩, fun hr => absurd (hmay.2 hr) hn, fun hr => absurd (hmay.2 hr) hn⟩, fun x y x' y' t0 hml ho hmem e' f' S' g' T' P' hput V' => ⟨Pl, (by repeat' (first | exact rfl | exact hV | exact hm | exact hk | exact hR.r | exact hR.hq | exact hR.hb | exact hq5 | assumption | with_reducible apply And.intro)), fun hn => absurd (hmay.1 hml) hn, fun _ x2 y2 x2' y2' ho2 j p hpe => ?_, fun _ x2 y2 x2' y2' ho2 hnone => ?_⟩, fun x y x' y' hml ho hun e' f' S' g' T' P' O q65 qc66 o1 o2 o3 hput V' => ⟨Pl, (by repeat' (first | exact rfl | exact hV | exact hm | exact hk | exact hR.r | exact hR.hq | exact hR.hb | exact hq5 | assumption | with_reducible apply And.intro)), fun hn => absurd (hmay.1 hml) hn, fun _ x2 y2 x2' y2' ho2 j p hpe => ?_, fun _ x2 y2 x2' y2' ho2 hnone G gq gc H hq hc z1 z2 z3 hins z4 z5 => ?_⟩⟩
  · obtain ⟨⟨rfl, rfl⟩, rfl, rfl⟩ := ord_eq hml.u.out.1 hml.u'.out.1 ho ho2
    have hR' := hR.r
    subst hR'
    repeat (refine ⟨rfl, ?_⟩)
    refine ⟨[], by repeat' (first | exact rfl | exact Nat.zero_le _ | with_reducible apply And.intro), ?_⟩
    obtain ⟨p1, p2⟩ := put_row hV.l.srt hV.li hpe.at' hpe.eq hput
    have hr := vr_links hR P'
    rw [p2, ← hR.hq, ← p1] at hr
    exact hK.l _ _ _ _ _ _ ⟨Pu, _, V', hr⟩
  · obtain ⟨⟨rfl, rfl⟩, rfl, rfl⟩ := ord_eq hml.u.out.1 hml.u'.out.1 ho ho2
    obtain ⟨p, hp, he⟩ := memk hmem
    exact absurd he (hnone.out p hp)
  · obtain ⟨⟨rfl, rfl⟩, rfl, rfl⟩ := ord_eq hml.u.out.1 hml.u'.out.1 ho ho2
    exact absurd (kmem hpe.at' hpe.eq) (hun _)
  · obtain ⟨⟨rfl, rfl⟩, rfl, rfl⟩ := ord_eq hml.u.out.1 hml.u'.out.1 ho ho2
    have g5 := gone_le (U.fEnd a b a' b') h32
    have g6 : q65 ≤ 100000 := by rw [o2]; exact g5
    refine ⟨U.gone (U.fEnd a b a' b') Pl, (by repeat' (first | exact rfl | exact hV | exact hm | exact hk | exact hR.r | exact hR.hq | exact hR.hb | exact hq5 | assumption | with_reducible apply And.intro)), ?_⟩
    obtain ⟨u1, u2, u3⟩ := ord_may hml ho
    have hsub : U.LI Pu (U.rest (U.fEnd a b a' b') Pl) := li_sub hV.li fun p hx => (rest_mem.1 hx).1
    have hno : ∀ k v, (k, v) ∈ U.rest (U.fEnd a b a' b') Pl → U.num x2 y2 ≠ k := fun k v hx => by
      have := rest_end hV.li hml hx
      rcases ho.out with ⟨_, h1, h2, _⟩ | ⟨_, h1, h2, _⟩
      · rw [h1, h2]; exact this.2.1
      · rw [h1, h2]; exact this.1.1
    have hH := ins_row (rest_srt hV.l.srt) hsub u1.out.1 hno hins hput
    have hr := vr_links hR P'
    rw [← hH] at hr
    have hl : P'.length = hq := by rw [z4, hH]; simp [U.vlvs]
    rw [hl] at hr
    exact hK.w _ _ _ _ _ _ _ _ ⟨Pu, _, V', hr⟩ z5
set_option maxHeartbeats 4000000 in
theorem step3_run (a b a' b' u mo t now : Int) (hk : k = 32) (hB : U.B n c L d M e f S g T [k0, k1, k2, k3, k4, k5, k6, k7, k8] [u0, u1, u2, u3, u4, u5, u6, u7, u8] q R) (hK : SKv K n c L d M m e f S g T k [k0, k1, k2, k3, k4, k5, k6, k7, k8] [u0, u1, u2, u3, u4, u5, u6, u7, u8] q rc R) : runR inv0 tW1 8 [ptr 0 0, ptr 3 0, opA (.inl (.int .i64 3)) a b a' b' u mo t, xi .i64 now] (bSt n c L d M m e f S g T k [k0, k1, k2, k3, k4, k5, k6, k7, k8] [u0, u1, u2, u3, u4, u5, u6, u7, u8] q rc R) K := by
  obtain ⟨Pu, Pl, hV, hR⟩ := hB.out
  have h32 := li_32 hV.li hV.l.srt
  have hq5 : q ≤ 100000 := by have := hR.hq; omega
  have hmay := may_iff (a := a) (b := b) (a' := a') (b' := b') hR hV.ku
  have memk : ∀ {x y x' y' t : Int}, (U.num x y, (⟨x, y, x', y', t⟩ : VLv)) ∈ Pl → ∃ p ∈ Pl, ((p.2.v0 = x ∧ p.2.v1 = y) ∧ p.2.v2 = x' ∧ p.2.v3 = y') := fun h => ⟨_, h, ⟨rfl, rfl⟩, rfl, rfl⟩
  have kmem : ∀ {x y x' y' : Int} {j : Nat} {p : Int × VLv}, Pl[j]? = some p → ((p.2.v0 = x ∧ p.2.v1 = y) ∧ p.2.v2 = x' ∧ p.2.v3 = y') → (U.num x y, (⟨x, y, x', y', p.2.v4⟩ : VLv)) ∈ Pl := fun {x y x' y' j p} hp he => by
    have hm := List.mem_of_getElem? hp
    have hk := (hV.li.wf p.1 p.2 hm).1
    obtain ⟨⟨rfl, rfl⟩, rfl, rfl⟩ := he
    rw [← hk]; exact hm
  rw [step3_vc]
  refine ⟨Pu, Pl, (by repeat' (first | exact rfl | exact hV | exact hm | exact hk | exact hR.r | exact hR.hq | exact hR.hb | exact hq5 | assumption | with_reducible apply And.intro)), fun hn => ⟨Pl, (by repeat' (first | exact rfl | exact hV | exact hm | exact hk | exact hR.r | exact hR.hq | exact hR.hb | exact hq5 | assumption | with_reducible apply And.intro)), fun _ => ⟨[], by repeat' (first | exact rfl | exact Nat.zero_le _ | with_reducible apply And.intro), hK.a⟩, fun hr => absurd (hmay.2 hr) hn, fun hr => absurd (hmay.2 hr) hn⟩, fun x y x' y' t0 hml ho hmem e' f' S' g' T' P' hput V' => ⟨Pl, (by repeat' (first | exact rfl | exact hV | exact hm | exact hk | exact hR.r | exact hR.hq | exact hR.hb | exact hq5 | assumption | with_reducible apply And.intro)), fun hn => absurd (hmay.1 hml) hn, fun _ x2 y2 x2' y2' ho2 j p hpe => ?_, fun _ x2 y2 x2' y2' ho2 hnone => ?_⟩, fun x y x' y' hml ho hun e' f' S' g' T' P' O q65 qc66 o1 o2 o3 hput V' => ⟨Pl, (by repeat' (first | exact rfl | exact hV | exact hm | exact hk | exact hR.r | exact hR.hq | exact hR.hb | exact hq5 | assumption | with_reducible apply And.intro)), fun hn => absurd (hmay.1 hml) hn, fun _ x2 y2 x2' y2' ho2 j p hpe => ?_, fun _ x2 y2 x2' y2' ho2 hnone G gq gc H hq hc z1 z2 z3 hins z4 z5 => ?_⟩⟩
  · obtain ⟨⟨rfl, rfl⟩, rfl, rfl⟩ := ord_eq hml.u.out.1 hml.u'.out.1 ho ho2
    have hR' := hR.r
    subst hR'
    repeat (refine ⟨rfl, ?_⟩)
    refine ⟨[], by repeat' (first | exact rfl | exact Nat.zero_le _ | with_reducible apply And.intro), ?_⟩
    obtain ⟨p1, p2⟩ := put_row hV.l.srt hV.li hpe.at' hpe.eq hput
    have hr := vr_links hR P'
    rw [p2, ← hR.hq, ← p1] at hr
    exact hK.l _ _ _ _ _ _ ⟨Pu, _, V', hr⟩
  · obtain ⟨⟨rfl, rfl⟩, rfl, rfl⟩ := ord_eq hml.u.out.1 hml.u'.out.1 ho ho2
    obtain ⟨p, hp, he⟩ := memk hmem
    exact absurd he (hnone.out p hp)
  · obtain ⟨⟨rfl, rfl⟩, rfl, rfl⟩ := ord_eq hml.u.out.1 hml.u'.out.1 ho ho2
    exact absurd (kmem hpe.at' hpe.eq) (hun _)
  · obtain ⟨⟨rfl, rfl⟩, rfl, rfl⟩ := ord_eq hml.u.out.1 hml.u'.out.1 ho ho2
    have g5 := gone_le (U.fEnd a b a' b') h32
    have g6 : q65 ≤ 100000 := by rw [o2]; exact g5
    refine ⟨U.gone (U.fEnd a b a' b') Pl, (by repeat' (first | exact rfl | exact hV | exact hm | exact hk | exact hR.r | exact hR.hq | exact hR.hb | exact hq5 | assumption | with_reducible apply And.intro)), ?_⟩
    obtain ⟨u1, u2, u3⟩ := ord_may hml ho
    have hsub : U.LI Pu (U.rest (U.fEnd a b a' b') Pl) := li_sub hV.li fun p hx => (rest_mem.1 hx).1
    have hno : ∀ k v, (k, v) ∈ U.rest (U.fEnd a b a' b') Pl → U.num x2 y2 ≠ k := fun k v hx => by
      have := rest_end hV.li hml hx
      rcases ho.out with ⟨_, h1, h2, _⟩ | ⟨_, h1, h2, _⟩
      · rw [h1, h2]; exact this.2.1
      · rw [h1, h2]; exact this.1.1
    have hH := ins_row (rest_srt hV.l.srt) hsub u1.out.1 hno hins hput
    have hr := vr_links hR P'
    rw [← hH] at hr
    have hl : P'.length = hq := by rw [z4, hH]; simp [U.vlvs]
    rw [hl] at hr
    exact hK.w _ _ _ _ _ _ _ _ ⟨Pu, _, V', hr⟩ z5
theorem stepN_run (a b a' b' u mo t now kd : Int) (h0 : ¬ kd = 0 ∧ ¬ kd = 1 ∧ ¬ kd = 2 ∧ ¬ kd = 3 ∧ ¬ kd = 4 ∧ ¬ kd = 5) (hK : SKv K n c L d M m e f S g T k [k0, k1, k2, k3, k4, k5, k6, k7, k8] [u0, u1, u2, u3, u4, u5, u6, u7, u8] q rc R) : runR inv0 tNoW 8 [ptr 0 0, ptr 3 0, opA (xintC .i64 kd) a b a' b' u mo t, xi .i64 now] (bSt n c L d M m e f S g T k [k0, k1, k2, k3, k4, k5, k6, k7, k8] [u0, u1, u2, u3, u4, u5, u6, u7, u8] q rc R) K := by
  obtain ⟨g0, g1, g2, g3, g4, g5⟩ := h0
  rw [stepN_vc]
  repeat' (first | exact hK.a | with_reducible apply And.intro | intro _)
  all_goals first | exact absurd (by assumption) g0 | exact absurd (by assumption) g1 | exact absurd (by assumption) g2 | exact absurd (by assumption) g3 | exact absurd (by assumption) g4 | exact absurd (by assumption) g5
end
end Go.Proofs.Ytfhgnngdbbgogaa
end
section
namespace Go.Proofs.Ytfhgnngdbbgogaa
open Go Reck Ost
set_option linter.unusedVariables false
set_option maxRecDepth 100000
def U.gb (l : List Bool) (i : Nat) : Bool := l.getD i false
def U.gi (l : List Int) (i : Nat) : Int := l.getD i 0
abbrev n9 (l : List Bool) : List Bool := [U.gb l 0, U.gb l 1, U.gb l 2, U.gb l 3, U.gb l 4, U.gb l 5, U.gb l 6, U.gb l 7, U.gb l 8]
abbrev m9 (l : List Int) : List Int := [U.gi l 0, U.gi l 1, U.gi l 2, U.gi l 3, U.gi l 4, U.gi l 5, U.gi l 6, U.gi l 7, U.gi l 8]
def bC (σ : St) : Option ((Nat × Nat × Rws × Nat × Rws × Int × Nat × Nat × Rws × Nat × Rws × Int) × (List Bool × List Int × Nat × Nat × Rws)) := match σ with
  | ⟨[v, p, s, some ⟨30, [c0, c1, c2, c3, c4, c5, c6, c7, c8, d0, d1, d2, d3, d4, d5, d6, d7, d8, x], none, 19, false⟩], [], 0, [a1, a2, a3, a4, some ⟨84, .o (.rows ks R), [], rc, false⟩], 0⟩ => match vwC ⟨[v, p, s], [], 0, [a1, a2, a3, a4], 0⟩, seqO ([c0, c1, c2, c3, c4, c5, c6, c7, c8].map cBool), seqO ([d0, d1, d2, d3, d4, d5, d6, d7, d8].map cInt), cRsl x, sameK ks vlvK with
    | some V, some kn, some us, some ⟨4, 5, 0, q, _⟩, true => some (V, kn, us, q, rc, R)
    | _, _, _, _, _ => none
  | _ => none
def bD (σ : St) : Prop := match σ with
  | ⟨[v, p, s, some ⟨_, [_, _, _, _, _, _, _, _, _, _, _, _, _, _, _, _, _, _, x], _, _, _⟩], _, _, [a1, a2, a3, a4, some ⟨_, _, _, rc, _⟩], _⟩ => vwD ⟨[v, p, s], [], 0, [a1, a2, a3, a4], 0⟩ ∧ (match cRsl x with
    | some ⟨_, _, _, _, c⟩ => c = rc
    | none => False)
  | _ => False
theorem bC_eq {σ : St} {n c : Nat} {L : Rws} {d : Nat} {M : Rws} {m : Int} {e f : Nat} {S : Rws} {g : Nat} {T : Rws} {k : Int} {kn : List Bool} {us : List Int} {q rc : Nat} {R : Rws} (h : bC σ = some ((n, c, L, d, M, m, e, f, S, g, T, k), kn, us, q, rc, R)) (hy : bD σ) : σ = bSt n c L d M m e f S g T k kn us q rc R ∧ kn.length = 9 ∧ us.length = 9 := by
  unfold bC at h
  split at h
  · split at h
    · rename_i h0 h1 h2 h3 h4
      simp only [Option.some.injEq, Prod.mk.injEq] at h
      obtain ⟨rfl, rfl, rfl, rfl, rfl, rfl⟩ := h
      obtain ⟨y1, y2⟩ := hy
      simp only [h3] at y2
      subst y2
      have e0 := vwC_eq h0 y1
      simp only [vwSt, St.mk.injEq, List.cons.injEq, and_true, true_and] at e0
      obtain ⟨⟨g1, g2, g3⟩, g4, g5, g6, g7⟩ := e0
      have e1 := cBools_eq h1
      have e2 := cInts_eq h2
      have l1 := congrArg List.length e1
      have l2 := congrArg List.length e2
      rw [List.length_map] at l1 l2
      refine ⟨?_, l1.symm, l2.symm⟩
      unfold bSt rvB
      rw [← e1, ← e2, cRsl_eq h3, sameK_eq h4, g1, g2, g3, g4, g5, g6, g7]
      rfl
    · cases h
  · cases h
def pStepV : Pat := fun args σ => match args with
  | [.inl (.inl (.inr (.inl (0, 0)))), .inl (.inl (.inr (.inl (3, 0)))), .inl (.inr [z0, z1, z2, z3, z4, z5, z6, z7]), y] => match bC σ, xiX (cell z0), xiX (cell z1), xiX (cell z2), xiX (cell z3), xiX (cell z4), xiX (cell z5), xiX (cell z6), xiX (cell z7), aInt y with
    | some ((n, c, L, d, M, m, e, f, S, g, T, k), kn, us, q, rc, R), some (.i64, kd), some (.i64, a), some (.i64, b), some (.i64, a'), some (.i64, b'), some (.i64, u), some (.i64, mo), some (.i64, t), some now => some fun K => (bD σ ∧ U.B n c L d M e f S g T kn us q R ∧ m = 8 ∧ k = 32) ∧ K (lit (.bool true)) (bSt n c L d M m e f S g T k kn us q rc R) ∧
      (∀ (e' : Nat) (S' T' : Rws) (hq hc : Nat) (H : Rws), U.B n c L d M e' f S' g T' kn us hq H → hq ≤ hc → K (lit (.bool true)) ⟨[vwB, vuB (rslC ⟨0, 1, 0, n, c⟩) (rslC ⟨1, 1, 0, n, d⟩) m, vlB (rslC ⟨2, 1, 0, e', f⟩) (rslC ⟨3, 5, 0, e', g⟩) k, rvB kn us (rslC ⟨5, 5, 0, hq, hc⟩)], [], 0, [some (vukB L c), some (vuvB M d), some (vlkB S' f), some (vlvB T' g), some (snB R rc), some (snB H hc)], 0⟩) ∧
      (∀ (n' c' : Nat) (L' : Rws) (d' : Nat) (M' : Rws) (e' : Nat) (S' T' : Rws) (kn2 : List Bool) (us2 : List Int) (hq hc : Nat) (H : Rws), U.B n' c' L' d' M' e' f S' g T' (n9 kn2) (m9 us2) hq H → hq ≤ hc → K (lit (.bool true)) ⟨[vwB, vuB (rslC ⟨5, 1, 0, n', c'⟩) (rslC ⟨6, 1, 0, n', d'⟩) m, vlB (rslC ⟨2, 1, 0, e', f⟩) (rslC ⟨3, 5, 0, e', g⟩) k, rvB (n9 kn2) (m9 us2) (rslC ⟨7, 5, 0, hq, hc⟩)], [], 0, [none, none, some (vlkB S' f), some (vlvB T' g), some (snB R rc), some (vukB L' c'), some (vuvB M' d'), some (snB H hc)], 0⟩) ∧
      (∀ (e' f' : Nat) (S' : Rws) (g' : Nat) (T' R' : Rws), U.B n c L d M e' f' S' g' T' kn us q R' → K (lit (.bool true)) ⟨[vwB, vuB (rslC ⟨0, 1, 0, n, c⟩) (rslC ⟨1, 1, 0, n, d⟩) m, vlB (rslC ⟨5, 1, 0, e', f'⟩) (rslC ⟨6, 5, 0, e', g'⟩) k, rvB kn us (rslC ⟨4, 5, 0, q, rc⟩)], [], 0, [some (vukB L c), some (vuvB M d), none, none, some (snB R' rc), some (vlkB S' f'), some (vlvB T' g')], 0⟩) ∧
      (∀ (e' f' : Nat) (S' : Rws) (g' : Nat) (T' : Rws) (hq hc : Nat) (H : Rws), U.B n c L d M e' f' S' g' T' kn us hq H → hq ≤ hc → K (lit (.bool true)) ⟨[vwB, vuB (rslC ⟨0, 1, 0, n, c⟩) (rslC ⟨1, 1, 0, n, d⟩) m, vlB (rslC ⟨5, 1, 0, e', f'⟩) (rslC ⟨6, 5, 0, e', g'⟩) k, rvB kn us (rslC ⟨7, 5, 0, hq, hc⟩)], [], 0, [some (vukB L c), some (vuvB M d), none, none, some (snB R rc), some (vlkB S' f'), some (vlvB T' g'), some (snB H hc)], 0⟩)
    | _, _, _, _, _, _, _, _, _, _ => none
  | _ => none
theorem cell_inj {c d : Cell} (h : cell c = cell d) : c = d := by simpa [cell] using h
theorem pStepV_ok : PatOk 8 pStepV := by
  intro tm σ C h K hK w0 e w hk vs hvs
  unfold pStepV at h
  split at h
  · split at h
    · rename_i n c L d M m e0 f S g T k kn us q rc R kd a b a' b' u mo t now hσ h0 h1 h2 h3 h4 h5 h6 h7 hy
      obtain rfl := cell_inj (xiX_eq h0)
      obtain rfl := cell_inj (xiX_eq h1)
      obtain rfl := cell_inj (xiX_eq h2)
      obtain rfl := cell_inj (xiX_eq h3)
      obtain rfl := cell_inj (xiX_eq h4)
      obtain rfl := cell_inj (xiX_eq h5)
      obtain rfl := cell_inj (xiX_eq h6)
      obtain rfl := cell_inj (xiX_eq h7)
      simp only [Option.some.injEq] at h; subst h
      obtain ⟨⟨hd, hB, hm, hk2⟩, ha, hb, hp, hl, hw⟩ := hK
      obtain ⟨rfl, l1, l2⟩ := bC_eq hσ hd
      obtain ⟨k0, k1, k2, k3, k4, k5, k6, k7, k8, rfl⟩ := nine l1
      obtain ⟨u0, u1, u2, u3, u4, u5, u6, u7, u8, rfl⟩ := nine l2
      have hRK : SKv K n c L d M m e0 f S g T k [k0, k1, k2, k3, k4, k5, k6, k7, k8] [u0, u1, u2, u3, u4, u5, u6, u7, u8] q rc R := ⟨ha, hb, fun n' c' L' d' M' e' S' T' x0 x1 x2 x3 x4 x5 x6 x7 x8 y0 y1 y2 y3 y4 y5 y6 y7 y8 hq hc H h1 h2 => hp n' c' L' d' M' e' S' T' [x0, x1, x2, x3, x4, x5, x6, x7, x8] [y0, y1, y2, y3, y4, y5, y6, y7, y8] hq hc H h1 h2, hl, hw⟩
      obtain ⟨v1, v2, v3, v4, rfl, q1, q2, q3, q4⟩ := fours hvs
      have q4 := as_aInt hy q4
      by_cases g0 : kd = 0
      · subst g0
        exact knownC noOv names (conOk_ofR tW1_ok) (step0_run K n c L d M m e0 f S g T k _ _ _ _ _ _ _ _ _ _ _ _ _ _ _ _ _ _ q rc R a b a' b' u mo t now hm hB hRK) w0 e w hk _ (four_map q1 q2 q3 q4)
      by_cases g1 : kd = 1
      · subst g1
        exact knownC noOv names (conOk_ofR tW1_ok) (step1_run K n c L d M m e0 f S g T k _ _ _ _ _ _ _ _ _ _ _ _ _ _ _ _ _ _ q rc R a b a' b' u mo t now hk2 hB hRK) w0 e w hk _ (four_map q1 q2 q3 q4)
      by_cases g2 : kd = 2
      · subst g2
        exact knownC noOv names (conOk_ofR tW1_ok) (step2_run K n c L d M m e0 f S g T k _ _ _ _ _ _ _ _ _ _ _ _ _ _ _ _ _ _ q rc R a b a' b' u mo t now hk2 hB hRK) w0 e w hk _ (four_map q1 q2 q3 q4)
      by_cases g3 : kd = 3
      · subst g3
        exact knownC noOv names (conOk_ofR tW1_ok) (step3_run K n c L d M m e0 f S g T k _ _ _ _ _ _ _ _ _ _ _ _ _ _ _ _ _ _ q rc R a b a' b' u mo t now hk2 hB hRK) w0 e w hk _ (four_map q1 q2 q3 q4)
      by_cases g4 : kd = 4
      · subst g4
        exact knownC noOv names (conOk_ofR tW1_ok) (step4_run K n c L d M m e0 f S g T k _ _ _ _ _ _ _ _ _ _ _ _ _ _ _ _ _ _ q rc R a b a' b' u mo t now hB hRK) w0 e w hk _ (four_map q1 q2 q3 q4)
      by_cases g5 : kd = 5
      · subst g5
        exact knownC noOv names (conOk_ofR tW1_ok) (step5_run K n c L d M m e0 f S g T k _ _ _ _ _ _ _ _ _ _ _ _ _ _ _ _ _ _ q rc R a b a' b' u mo t now hB hRK) w0 e w hk _ (four_map q1 q2 q3 q4)
      exact knownC noOv names (conOk_ofR tNoW_ok) (stepN_run K n c L d M m e0 f S g T k _ _ _ _ _ _ _ _ _ _ _ _ _ _ _ _ _ _ q rc R a b a' b' u mo t now kd ⟨g0, g1, g2, g3, g4, g5⟩ hRK) w0 e w hk _ (four_map q1 q2 q3 q4)
    · cases h
  · cases h
def pLinks : Pat := fun args σ => match args with
  | [.inl (.inl (.inr (.inl (0, 0))))] => match vwC σ with
    | some (n, c, L, d, M, m, e, f, S, g, T, k) => some fun K => ∃ Pl : VLP, (vwD σ ∧ U.vlshI e f S g T Pl ∧ e ≤ 100000) ∧ ∀ (O : Rws) (q qc : Nat), O = U.lks Pl → q = U.vllen Pl → q ≤ qc → K (liA4 q qc) (vwA n c L d M m e f S g T k O qc)
    | _ => none
  | _ => none
theorem pLinks_ok : PatOk 11 pLinks := by
  intro tm σ C h K hK w0 e w hk vs hvs
  unfold pLinks at h
  split at h
  · split at h
    · rename_i n c L d M m e0 f S g T k hσ
      simp only [Option.some.injEq] at h; subst h
      obtain ⟨Pl, ⟨hd, h1, h2⟩, h3⟩ := hK
      obtain rfl := vwC_eq hσ hd
      obtain ⟨v, rfl, q1⟩ := ones hvs
      have hr : runR inv0 tV9 11 [ptr 0 0] (vwSt n c L d M m e0 f S g T k) K := by
        rw [links_vc]
        have hn := vlshI_n h1
        exact ⟨Pl, ⟨⟨rfl, rfl, rfl⟩, h1⟩, fun L5 n5 c5 a1 a2 a3 => ⟨Pl, ⟨rfl, a3, a1.trans hn.symm, by omega⟩, fun O6 q6 c6 b1 b2 b3 => h3 O6 q6 c6 b1 (b2.trans (a1.trans hn.symm)) b3⟩⟩
      exact knownC noOv names (conOk_ofR tV9_ok) hr w0 e w hk _ (map1 q1)
    · cases h
  · cases h
def tVL : Tbl := tblOr (tblIf 8 pStepV) (tblOr (tblIf 11 pLinks) (tblOr tAw21 tW1))
theorem tVL_ok : TblOk Try.prog tVL := tblOr_ok (tblIf_ok pStepV_ok) (tblOr_ok (tblIf_ok pLinks_ok) (tblOr_ok tAw21_ok tW1_ok))
end Go.Proofs.Ytfhgnngdbbgogaa
end
