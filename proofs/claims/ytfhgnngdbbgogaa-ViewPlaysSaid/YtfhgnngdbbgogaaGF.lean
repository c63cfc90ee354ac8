/- Parts of a proof, one behind the other: VV6 VV7 VV8 VV9. No condition. -/
import Derived.Test.YtfhgnngdbbgogaaGE
section
namespace Go.Proofs.Ytfhgnngdbbgogaa
open Go Reck Ost
set_option linter.unusedVariables false
set_option maxRecDepth 100000
theorem vw3_eq {v p l : Option Blk} {arrs : List (Option ABlk)} {n c : Nat} {L : Rws} {d : Nat} {M : Rws} {m : Int} {e f : Nat} {S : Rws} {g : Nat} {T : Rws} {k : Int} (h : vwC ⟨[v, p, l], [], 0, arrs, 0⟩ = some (n, c, L, d, M, m, e, f, S, g, T, k)) (hy : vwD ⟨[v, p, l], [], 0, arrs, 0⟩) (H : List (Option Blk)) : (⟨v :: p :: l :: H, [], 0, arrs, 0⟩ : St) = vwSx n c L d M m e f S g T k H := by
  have := vwC_eq h hy
  unfold vwSt at this
  simp only [St.mk.injEq, List.cons.injEq, and_true, true_and] at this
  obtain ⟨⟨rfl, rfl, rfl⟩, rfl⟩ := this
  rfl
def pLoseA : Pat := fun args σ => match args, σ with
  | [.inl (.inl (.inr (.inl (0, 0)))), .inl (.inl (.inr (.inr (.inr (.inr (.inl (u, [(3, 0), (4, 0)])))))))], ⟨[v, p, l, some ⟨2, [x], none, 1, false⟩, some ⟨2, [y], none, 1, false⟩], [], 0, arrs, 0⟩ => if u == 46 then match cInt x, cInt y, vwC ⟨[v, p, l], [], 0, arrs, 0⟩ with
    | some now, some most, some (n, c, L, d, M, m, e, f, S, g, T, k) => some fun K => ∃ P : VLP, (vwD ⟨[v, p, l], [], 0, arrs, 0⟩ ∧ U.vlshI e f S g T P ∧ e ≤ 100000) ∧ ∀ (e' : Nat) (S' T' : Rws) (P' : VLP) (O : Rws) (q qc : Nat), e' = U.vllen P' → P' = U.rest (U.fAge now most) P → U.vlshI e' f S' g T' P' → O = U.lks (U.gone (U.fAge now most) P) → q = U.vllen (U.gone (U.fAge now most) P) → q ≤ qc →
        K (cell (rslC ⟨4, 4, 0, q, qc⟩)) ⟨vwB :: vuB (rslC ⟨0, 1, 0, n, c⟩) (rslC ⟨1, 1, 0, n, d⟩) m :: vlB (rslC ⟨2, 1, 0, e', f⟩) (rslC ⟨3, 5, 0, e', g⟩) k :: [bxI now, bxI most], [], 0, [some (vukB L c), some (vuvB M d), some (vlkB S' f), some (vlvB T' g), some (liB O qc)], 0⟩
    | _, _, _ => none
    else none
  | _, _ => none
theorem pLoseA_ok : PatOk 41 pLoseA := by
  intro tm σ C h K hK w0 e w hk vs hvs
  unfold pLoseA at h
  split at h
  · split at h
    · rename_i hu
      split at h
      · rename_i hx hy hσ
        simp only [Option.some.injEq] at h; subst h
        obtain ⟨P, ⟨hd, h1, h2⟩, h3⟩ := hK
        obtain rfl := cInt_eq hx
        obtain rfl := cInt_eq hy
        have hk := Eq.mp (congrArg (fun s => Ok w0 e s w) (vw3_eq hσ hd [bxI _, bxI _])) hk
        rw [eq_of_beq hu] at hvs
        exact knownD noOv names opMK_ok (conOk_ofR tV4_ok) (loseA_run K P _ _ _ _ _ _ _ _ _ _ _ _ h1 h2 _ _ ⟨h3⟩) w0 e w hk vs hvs
      · cases h
    · cases h
  · cases h
def pLoseE : Pat := fun args σ => match args, σ with
  | [.inl (.inl (.inr (.inl (0, 0)))), .inl (.inl (.inr (.inr (.inr (.inr (.inl (u, [(3, 0), (4, 0)])))))))], ⟨[v, p, l, some ⟨32, [x, y], none, 2, false⟩, some ⟨32, [x', y'], none, 2, false⟩], [], 0, arrs, 0⟩ => if u == 42 then match cInt x, cInt y, cInt x', cInt y', vwC ⟨[v, p, l], [], 0, arrs, 0⟩ with
    | some a, some b, some a', some b', some (n, c, L, d, M, m, e, f, S, g, T, k) => some fun K => ∃ P : VLP, (vwD ⟨[v, p, l], [], 0, arrs, 0⟩ ∧ U.vlshI e f S g T P ∧ e ≤ 100000) ∧ ∀ (e' : Nat) (S' T' : Rws) (P' : VLP) (O : Rws) (q qc : Nat), e' = U.vllen P' → P' = U.rest (U.fEnd a b a' b') P → U.vlshI e' f S' g T' P' → O = U.lks (U.gone (U.fEnd a b a' b') P) → q = U.vllen (U.gone (U.fEnd a b a' b') P) → q ≤ qc →
        K (cell (rslC ⟨4, 4, 0, q, qc⟩)) ⟨vwB :: vuB (rslC ⟨0, 1, 0, n, c⟩) (rslC ⟨1, 1, 0, n, d⟩) m :: vlB (rslC ⟨2, 1, 0, e', f⟩) (rslC ⟨3, 5, 0, e', g⟩) k :: [bxP a b, bxP a' b'], [], 0, [some (vukB L c), some (vuvB M d), some (vlkB S' f), some (vlvB T' g), some (liB O qc)], 0⟩
    | _, _, _, _, _ => none
    else none
  | _, _ => none
theorem pLoseE_ok : PatOk 41 pLoseE := by
  intro tm σ C h K hK w0 e w hk vs hvs
  unfold pLoseE at h
  split at h
  · split at h
    · rename_i hu
      split at h
      · rename_i hx hy hx' hy' hσ
        simp only [Option.some.injEq] at h; subst h
        obtain ⟨P, ⟨hd, h1, h2⟩, h3⟩ := hK
        obtain rfl := cInt_eq hx
        obtain rfl := cInt_eq hy
        obtain rfl := cInt_eq hx'
        obtain rfl := cInt_eq hy'
        have hk := Eq.mp (congrArg (fun s => Ok w0 e s w) (vw3_eq hσ hd [bxP _ _, bxP _ _])) hk
        rw [eq_of_beq hu] at hvs
        exact knownD noOv names opMK_ok (conOk_ofR tV4_ok) (loseE_run K P _ _ _ _ _ _ _ _ _ _ _ _ h1 h2 _ _ _ _ ⟨h3⟩) w0 e w hk vs hvs
      · cases h
    · cases h
  · cases h
def pLoseB : Pat := fun args σ => match args with
  | [.inl (.inl (.inr (.inl (0, 0)))), .inl (.inl (.inr (.inr (.inr (.inr (.inl (u, [(0, 0)])))))))] => if u == 1048576 + 44 then match vwC σ with
    | some (n, c, L, d, M, m, e, f, S, g, T, k) => some fun K => ∃ Pu : VUP, ∃ P : VLP, (vwD σ ∧ U.vlshI e f S g T P ∧ e ≤ 100000 ∧ U.vushI n c L d M Pu ∧ n ≤ 8 ∧ U.KU Pu) ∧ ∀ (e' : Nat) (S' T' : Rws) (P' : VLP) (O : Rws) (q qc : Nat), e' = U.vllen P' → P' = U.rest (U.fBrk Pu) P → U.vlshI e' f S' g T' P' → O = U.lks (U.gone (U.fBrk Pu) P) → q = U.vllen (U.gone (U.fBrk Pu) P) → q ≤ qc →
        K (cell (rslC ⟨4, 4, 0, q, qc⟩)) ⟨vwB :: vuB (rslC ⟨0, 1, 0, n, c⟩) (rslC ⟨1, 1, 0, n, d⟩) m :: vlB (rslC ⟨2, 1, 0, e', f⟩) (rslC ⟨3, 5, 0, e', g⟩) k :: [], [], 0, [some (vukB L c), some (vuvB M d), some (vlkB S' f), some (vlvB T' g), some (liB O qc)], 0⟩
    | _ => none
    else none
  | _ => none
theorem pLoseB_ok : PatOk 41 pLoseB := by
  intro tm σ C h K hK w0 e w hk vs hvs
  unfold pLoseB at h
  split at h
  · split at h
    · rename_i hu
      split at h
      · rename_i hσ
        simp only [Option.some.injEq] at h; subst h
        obtain ⟨Pu, P, ⟨hd, h1, h2, g1, g2, g3⟩, h3⟩ := hK
        obtain rfl := vwC_eq hσ hd
        rw [eq_of_beq hu] at hvs
        exact knownD noOv names opMK_ok (conOk_ofR tV4_ok) (loseB_run K P _ _ _ _ _ _ _ _ _ _ _ _ h1 h2 Pu g1 g2 g3 ⟨h3⟩) w0 e w hk vs hvs
      · cases h
    · cases h
  · cases h
def tV6 : Tbl := tblOr (tblIf 41 pLoseA) (tblOr (tblIf 41 pLoseE) (tblOr (tblIf 41 pLoseB) (tblOr (tblIf 14 pEdge) tV4)))
theorem tV6_ok : TblOk Try.prog tV6 := tblOr_ok (tblIf_ok pLoseA_ok) (tblOr_ok (tblIf_ok pLoseE_ok) (tblOr_ok (tblIf_ok pLoseB_ok) (tblOr_ok (tblIf_ok pEdge_ok) tV4_ok)))
theorem age_vc (K:AV→St→Prop) (n c:Nat) (L:Rws) (d:Nat) (M:Rws) (m:Int) (e f:Nat) (S:Rws) (g:Nat) (T:Rws) (k:Int) (now most:Int):(runR inv0 tV6 18 [ptr 0 0,xi .i64 now,xi .i64 most] (vwSt n c L d M m e f S g T k) K)=(∃ (y0:VLP),(((c=c∧d=d∧n=n)∧f=f∧g=g∧e=e)∧U.vlshI e f S g T y0∧e≤100000)∧∀ (e'1:Nat) (S'2 T'3:Rws) (P'4:VLP) (O5:Rws) (q6 qc7:Nat),e'1=U.vllen P'4→P'4=U.rest (U.fAge now most) y0→U.vlshI e'1 f S'2 g T'3 P'4→O5=U.lks (U.gone (U.fAge now most) y0)→q6=U.vllen (U.gone (U.fAge now most) y0)→q6≤qc7→K (Sum.inl (Sum.inl (rslC ⟨4,4,0,q6,qc7⟩))) ⟨[vwB,vuB (rslC ⟨0,1,0,n,c⟩) (rslC ⟨1,1,0,n,d⟩) m,vlB (rslC ⟨2,1,0,e'1,f⟩) (rslC ⟨3,5,0,e'1,g⟩) k],[],0,[some (vukB L c),some (vukB M d),some (vukB S'2 f),some (vlvB T'3 g),some (liB O5 qc7)],0⟩) := by kernel_rfl
theorem ports_vc (K:AV→St→Prop) (n c:Nat) (L:Rws) (d:Nat) (M:Rws) (m:Int) (e f:Nat) (S:Rws) (g:Nat) (T:Rws) (k:Int) (sw up:Int):(runR inv0 tV6 16 [ptr 0 0,xi .i64 sw,xi .i64 up] (vwSt n c L d M m e f S g T k) K)=((sw<1→K (Sum.inl (Sum.inl (rslC ⟨4,(3:Nat) + (1:Nat),0,0,0⟩))) ⟨[vwB,vuB (rslC ⟨0,1,0,n,c⟩) (rslC ⟨1,1,0,n,d⟩) m,vlB (rslC ⟨2,1,0,e,f⟩) (rslC ⟨3,5,0,e,g⟩) k],[],0,[some (vukB L c),some (vukB M d),some (vukB S f),some (vlvB T g),some (liB U.nilL 0)],0⟩)∧(¬sw<1→(8<sw→K (Sum.inl (Sum.inl (rslC ⟨4,(3:Nat) + (1:Nat),0,0,0⟩))) ⟨[vwB,vuB (rslC ⟨0,1,0,n,c⟩) (rslC ⟨1,1,0,n,d⟩) m,vlB (rslC ⟨2,1,0,e,f⟩) (rslC ⟨3,5,0,e,g⟩) k],[],0,[some (vukB L c),some (vukB M d),some (vukB S f),some (vlvB T g),some (liB U.nilL 0)],0⟩)∧(¬8<sw→(up<0→K (Sum.inl (Sum.inl (rslC ⟨4,(3:Nat) + (1:Nat),0,0,0⟩))) ⟨[vwB,vuB (rslC ⟨0,1,0,n,c⟩) (rslC ⟨1,1,0,n,d⟩) m,vlB (rslC ⟨2,1,0,e,f⟩) (rslC ⟨3,5,0,e,g⟩) k],[],0,[some (vukB L c),some (vukB M d),some (vukB S f),some (vlvB T g),some (liB U.nilL 0)],0⟩)∧(¬up<0→(255<up→K (Sum.inl (Sum.inl (rslC ⟨4,(3:Nat) + (1:Nat),0,0,0⟩))) ⟨[vwB,vuB (rslC ⟨0,1,0,n,c⟩) (rslC ⟨1,1,0,n,d⟩) m,vlB (rslC ⟨2,1,0,e,f⟩) (rslC ⟨3,5,0,e,g⟩) k],[],0,[some (vukB L c),some (vukB M d),some (vukB S f),some (vlvB T g),some (liB U.nilL 0)],0⟩)∧(¬255<up→∃ (y0:VUP),((c=c∧d=d∧n=n)∧U.vushI n c L d M y0∧n≤100000)∧(U.vuRoom y0 sw m→∀ (L'1:Rws) (n'2 c'3:Nat) (M'4:Rws) (d'5:Nat) (P'6:VUP),n'2=U.vulen P'6→U.vuPut y0 sw { v0 := up } P'6→U.vushI n'2 c'3 L'1 d'5 M'4 P'6→∃ (y7:VUP),∃ (y8:VLP),(((c'3=c'3∧d'5=d'5∧n'2=n'2)∧f=f∧g=g∧e=e)∧U.vlshI e f S g T y8∧e≤100000∧U.vushI n'2 c'3 L'1 d'5 M'4 y7∧n'2≤8∧U.KU y7)∧∀ (e'9:Nat) (S'10 T'11:Rws) (P'12:VLP) (O13:Rws) (q14 qc15:Nat),e'9=U.vllen P'12→P'12=U.rest (U.fBrk y7) y8→U.vlshI e'9 f S'10 g T'11 P'12→O13=U.lks (U.gone (U.fBrk y7) y8)→q14=U.vllen (U.gone (U.fBrk y7) y8)→q14≤qc15→K (Sum.inl (Sum.inl (rslC ⟨4,4,0,q14,qc15⟩))) ⟨[vwB,vuB (rslC ⟨5,1,0,n'2,c'3⟩) (rslC ⟨6,1,0,n'2,d'5⟩) m,vlB (rslC ⟨2,1,0,e'9,f⟩) (rslC ⟨3,5,0,e'9,g⟩) k],[],0,[none,none,some (vukB S'10 f),some (vlvB T'11 g),some (liB O13 qc15),some (vukB L'1 c'3),some (vukB M'4 d'5)],0⟩)∧(¬U.vuRoom y0 sw m→∃ (y16:VUP),∃ (y17:VLP),(((c=c∧d=d∧n=n)∧f=f∧g=g∧e=e)∧U.vlshI e f S g T y17∧e≤100000∧U.vushI n c L d M y16∧n≤8∧U.KU y16)∧∀ (e'18:Nat) (S'19 T'20:Rws) (P'21:VLP) (O22:Rws) (q23 qc24:Nat),e'18=U.vllen P'21→P'21=U.rest (U.fBrk y16) y17→U.vlshI e'18 f S'19 g T'20 P'21→O22=U.lks (U.gone (U.fBrk y16) y17)→q23=U.vllen (U.gone (U.fBrk y16) y17)→q23≤qc24→K (Sum.inl (Sum.inl (rslC ⟨4,4,0,q23,qc24⟩))) ⟨[vwB,vuB (rslC ⟨0,1,0,n,c⟩) (rslC ⟨1,1,0,n,d⟩) m,vlB (rslC ⟨2,1,0,e'18,f⟩) (rslC ⟨3,5,0,e'18,g⟩) k],[],0,[some (vukB L c),some (vukB M d),some (vukB S'19 f),some (vlvB T'20 g),some (liB O22 qc24)],0⟩)))))) := by kernel_rfl
theorem dropV_vc (K:AV→St→Prop) (n c:Nat) (L:Rws) (d:Nat) (M:Rws) (m:Int) (e f:Nat) (S:Rws) (g:Nat) (T:Rws) (k:Int) (sw:Int):(runR inv0 tV6 17 [ptr 0 0,xi .i64 sw] (vwSt n c L d M m e f S g T k) K)=(∃ (y0:VUP),((c=c∧d=d∧n=n)∧U.vushI n c L d M y0∧n≤100000)∧∀ (z1:Int) (L'2:Rws) (n'3:Nat) (M'4:Rws) (P'5:VUP),n'3=U.vulen P'5→U.vuRmN y0 sw z1→U.vuRm y0 sw P'5→U.vushI n'3 c L'2 d M'4 P'5→∃ (y6:VUP),∃ (y7:VLP),(((c=c∧d=d∧n'3=n'3)∧f=f∧g=g∧e=e)∧U.vlshI e f S g T y7∧e≤100000∧U.vushI n'3 c L'2 d M'4 y6∧n'3≤8∧U.KU y6)∧∀ (e'8:Nat) (S'9 T'10:Rws) (P'11:VLP) (O12:Rws) (q13 qc14:Nat),e'8=U.vllen P'11→P'11=U.rest (U.fBrk y6) y7→U.vlshI e'8 f S'9 g T'10 P'11→O12=U.lks (U.gone (U.fBrk y6) y7)→q13=U.vllen (U.gone (U.fBrk y6) y7)→q13≤qc14→K (Sum.inl (Sum.inl (rslC ⟨4,4,0,q13,qc14⟩))) ⟨[vwB,vuB (rslC ⟨5,1,0,n'3,c⟩) (rslC ⟨6,1,0,n'3,d⟩) m,vlB (rslC ⟨2,1,0,e'8,f⟩) (rslC ⟨3,5,0,e'8,g⟩) k],[],0,[none,none,some ⟨(3:TypeId),.o (.rows [.n .i64] S'9),[],f,false⟩,some (vlvB T'10 g),some (liB O12 qc14),some ⟨(3:TypeId),.o (.rows [.n .i64] L'2),[],c,false⟩,some ⟨(3:TypeId),.o (.rows [.n .i64] M'4),[],d,false⟩],0⟩) := by kernel_rfl
theorem learn_vc (K:AV→St→Prop) (n c:Nat) (L:Rws) (d:Nat) (M:Rws) (m:Int) (e f:Nat) (S:Rws) (g:Nat) (T:Rws) (k:Int) (a b a' b' now:Int):(runR inv0 tV6 15 [ptr 0 0,plA a b,plA a' b',xi .i64 now] (vwSt n c L d M m e f S g T k) K)=((a=a'∧b=b'∧True→K (Sum.inr [Sum.inl (rslC ⟨4,(3:Nat) + (1:Nat),0,0,0⟩),Sum.inl (Sum.inl (Value.bool false))]) ⟨[vwB,vuB (rslC ⟨0,1,0,n,c⟩) (rslC ⟨1,1,0,n,d⟩) m,vlB (rslC ⟨2,1,0,e,f⟩) (rslC ⟨3,5,0,e,g⟩) k],[],0,[some ⟨(3:TypeId),.o (.rows [.n .i64] L),[],c,false⟩,some ⟨(3:TypeId),.o (.rows [.n .i64] M),[],d,false⟩,some ⟨(3:TypeId),.o (.rows [.n .i64] S),[],f,false⟩,some (vlvB T g),some (liB U.nilL 0)],0⟩)∧(¬(a=a'∧b=b'∧True)→∃ (y0:VUP),(((c=c∧d=d∧n=n)∧f=f∧g=g∧e=e)∧U.vushI n c L d M y0∧n≤8∧U.KU y0)∧(U.Upp y0 a b→∃ (y1:VUP),(((c=c∧d=d∧n=n)∧f=f∧g=g∧e=e)∧U.vushI n c L d M y1∧n≤8∧U.KU y1)∧(U.Upp y1 a' b'→(U.Gd a b∧U.Gd a' b')∧(U.num a' b'<U.num a b→(U.Gd a' b'∧∀ (z2:Int),z2=U.num a' b'→a'=a'∧b'=b'∧(∃ (y3:VLP),((f=f∧g=g∧e=e)∧U.vlshI e f S g T y3∧e≤100000)∧(∀ (v04 v15 v26 v37 v48:Int),U.vlHasE y3 z2 v04 v15 v26 v37 v48→a'=a'∧b'=b'∧a'=a'∧b'=b'∧((v04=a'∧v15=b'∧True)∧(v26=a∧v37=b∧True)∧True→U.Gd a' b'∧∀ (z9:Int),z9=U.num a' b'→a'=a'∧b'=b'∧a=a∧b=b∧now=now∧a'=a'∧b'=b'∧∃ (y10:VLP),((f=f∧g=g∧e=e)∧U.vlshI e f S g T y10∧e≤100000)∧(U.vlRoom y10 z9 k→∀ (L'11:Rws) (n'12 c'13:Nat) (M'14:Rws) (d'15:Nat) (P'16:VLP),n'12=U.vllen P'16→U.vlPut y10 z9 { v0 := a',v1 := b',v2 := a,v3 := b,v4 := now } P'16→U.vlshI n'12 c'13 L'11 d'15 M'14 P'16→a'=a'∧b'=b'∧a=a∧b=b∧now=now∧a'=a'∧b'=b'∧K (Sum.inr [Sum.inl (rslC ⟨4,(3:Nat) + (1:Nat),0,0,0⟩),Sum.inl (Sum.inl (Value.bool false))]) ⟨[vwB,vuB (rslC ⟨0,1,0,n,c⟩) (rslC ⟨1,1,0,n,d⟩) m,vlB (rslC ⟨5,1,0,n'12,c'13⟩) (rslC ⟨6,5,0,n'12,d'15⟩) k],[],0,[some ⟨(3:TypeId),.o (.rows [.n .i64] L),[],c,false⟩,some ⟨(3:TypeId),.o (.rows [.n .i64] M),[],d,false⟩,none,none,some (liB U.nilL 0),some ⟨(3:TypeId),.o (.rows [.n .i64] L'11),[],c'13,false⟩,some ⟨(58:TypeId),.o (.rows [.n .i64,.n .i64,.n .i64,.n .i64,.n .i64] M'14),[],d'15,false⟩],0⟩)∧(¬U.vlRoom y10 z9 k→a'=a'∧b'=b'∧a=a∧b=b∧now=now∧a'=a'∧b'=b'∧K (Sum.inr [Sum.inl (rslC ⟨4,(3:Nat) + (1:Nat),0,0,0⟩),Sum.inl (Sum.inl (Value.bool false))]) ⟨[vwB,vuB (rslC ⟨0,1,0,n,c⟩) (rslC ⟨1,1,0,n,d⟩) m,vlB (rslC ⟨2,1,0,e,f⟩) (rslC ⟨3,5,0,e,g⟩) k],[],0,[some ⟨(3:TypeId),.o (.rows [.n .i64] L),[],c,false⟩,some ⟨(3:TypeId),.o (.rows [.n .i64] M),[],d,false⟩,some ⟨(3:TypeId),.o (.rows [.n .i64] S),[],f,false⟩,some ⟨(58:TypeId),.o (.rows [.n .i64,.n .i64,.n .i64,.n .i64,.n .i64] T),[],g,false⟩,some (liB U.nilL 0)],0⟩))∧(¬((v04=a'∧v15=b'∧True)∧(v26=a∧v37=b∧True)∧True)→∃ (y17:VLP),(((c=c∧d=d∧n=n)∧f=f∧g=g∧e=e)∧U.vlshI e f S g T y17∧e≤100000)∧∀ (e'18:Nat) (S'19 T'20:Rws) (P'21:VLP) (O22:Rws) (q23 qc24:Nat),e'18=U.vllen P'21→P'21=U.rest (U.fEnd a b a' b') y17→U.vlshI e'18 f S'19 g T'20 P'21→O22=U.lks (U.gone (U.fEnd a b a' b') y17)→q23=U.vllen (U.gone (U.fEnd a b a' b') y17)→q23≤qc24→U.Gd a' b'∧∀ (z25:Int),z25=U.num a' b'→a'=a'∧b'=b'∧a=a∧b=b∧now=now∧a'=a'∧b'=b'∧∃ (y26:VLP),((f=f∧g=g∧e'18=e'18)∧U.vlshI e'18 f S'19 g T'20 y26∧e'18≤100000)∧(U.vlRoom y26 z25 k→∀ (L'27:Rws) (n'28 c'29:Nat) (M'30:Rws) (d'31:Nat) (P'32:VLP),n'28=U.vllen P'32→U.vlPut y26 z25 { v0 := a',v1 := b',v2 := a,v3 := b,v4 := now } P'32→U.vlshI n'28 c'29 L'27 d'31 M'30 P'32→a'=a'∧b'=b'∧a=a∧b=b∧now=now∧a'=a'∧b'=b'∧K (Sum.inr [Sum.inl (rslC ⟨4,4,0,q23,qc24⟩),Sum.inl (Sum.inl (Value.bool true))]) ⟨[vwB,vuB (rslC ⟨0,1,0,n,c⟩) (rslC ⟨1,1,0,n,d⟩) m,vlB (rslC ⟨5,1,0,n'28,c'29⟩) (rslC ⟨6,5,0,n'28,d'31⟩) k],[],0,[some ⟨(3:TypeId),.o (.rows [.n .i64] L),[],c,false⟩,some ⟨(3:TypeId),.o (.rows [.n .i64] M),[],d,false⟩,none,none,some (liB O22 qc24),some ⟨(3:TypeId),.o (.rows [.n .i64] L'27),[],c'29,false⟩,some ⟨(58:TypeId),.o (.rows [.n .i64,.n .i64,.n .i64,.n .i64,.n .i64] M'30),[],d'31,false⟩],0⟩)∧(¬U.vlRoom y26 z25 k→a'=a'∧b'=b'∧a=a∧b=b∧now=now∧a'=a'∧b'=b'∧K (Sum.inr [Sum.inl (rslC ⟨4,4,0,q23,qc24⟩),Sum.inl (Sum.inl (Value.bool true))]) ⟨[vwB,vuB (rslC ⟨0,1,0,n,c⟩) (rslC ⟨1,1,0,n,d⟩) m,vlB (rslC ⟨2,1,0,e'18,f⟩) (rslC ⟨3,5,0,e'18,g⟩) k],[],0,[some ⟨(3:TypeId),.o (.rows [.n .i64] L),[],c,false⟩,some ⟨(3:TypeId),.o (.rows [.n .i64] M),[],d,false⟩,some ⟨(3:TypeId),.o (.rows [.n .i64] S'19),[],f,false⟩,some ⟨(58:TypeId),.o (.rows [.n .i64,.n .i64,.n .i64,.n .i64,.n .i64] T'20),[],g,false⟩,some (liB O22 qc24)],0⟩)))∧(¬U.vlHasK y3 z2→a'=a'∧b'=b'∧a'=a'∧b'=b'∧∃ (y33:VLP),(((c=c∧d=d∧n=n)∧f=f∧g=g∧e=e)∧U.vlshI e f S g T y33∧e≤100000)∧∀ (e'34:Nat) (S'35 T'36:Rws) (P'37:VLP) (O38:Rws) (q39 qc40:Nat),e'34=U.vllen P'37→P'37=U.rest (U.fEnd a b a' b') y33→U.vlshI e'34 f S'35 g T'36 P'37→O38=U.lks (U.gone (U.fEnd a b a' b') y33)→q39=U.vllen (U.gone (U.fEnd a b a' b') y33)→q39≤qc40→U.Gd a' b'∧∀ (z41:Int),z41=U.num a' b'→a'=a'∧b'=b'∧a=a∧b=b∧now=now∧a'=a'∧b'=b'∧∃ (y42:VLP),((f=f∧g=g∧e'34=e'34)∧U.vlshI e'34 f S'35 g T'36 y42∧e'34≤100000)∧(U.vlRoom y42 z41 k→∀ (L'43:Rws) (n'44 c'45:Nat) (M'46:Rws) (d'47:Nat) (P'48:VLP),n'44=U.vllen P'48→U.vlPut y42 z41 { v0 := a',v1 := b',v2 := a,v3 := b,v4 := now } P'48→U.vlshI n'44 c'45 L'43 d'47 M'46 P'48→a'=a'∧b'=b'∧a=a∧b=b∧now=now∧a'=a'∧b'=b'∧K (Sum.inr [Sum.inl (rslC ⟨4,4,0,q39,qc40⟩),Sum.inl (Sum.inl (Value.bool true))]) ⟨[vwB,vuB (rslC ⟨0,1,0,n,c⟩) (rslC ⟨1,1,0,n,d⟩) m,vlB (rslC ⟨5,1,0,n'44,c'45⟩) (rslC ⟨6,5,0,n'44,d'47⟩) k],[],0,[some ⟨(3:TypeId),.o (.rows [.n .i64] L),[],c,false⟩,some ⟨(3:TypeId),.o (.rows [.n .i64] M),[],d,false⟩,none,none,some (liB O38 qc40),some ⟨(3:TypeId),.o (.rows [.n .i64] L'43),[],c'45,false⟩,some ⟨(58:TypeId),.o (.rows [.n .i64,.n .i64,.n .i64,.n .i64,.n .i64] M'46),[],d'47,false⟩],0⟩)∧(¬U.vlRoom y42 z41 k→a'=a'∧b'=b'∧a=a∧b=b∧now=now∧a'=a'∧b'=b'∧K (Sum.inr [Sum.inl (rslC ⟨4,4,0,q39,qc40⟩),Sum.inl (Sum.inl (Value.bool true))]) ⟨[vwB,vuB (rslC ⟨0,1,0,n,c⟩) (rslC ⟨1,1,0,n,d⟩) m,vlB (rslC ⟨2,1,0,e'34,f⟩) (rslC ⟨3,5,0,e'34,g⟩) k],[],0,[some ⟨(3:TypeId),.o (.rows [.n .i64] L),[],c,false⟩,some ⟨(3:TypeId),.o (.rows [.n .i64] M),[],d,false⟩,some ⟨(3:TypeId),.o (.rows [.n .i64] S'35),[],f,false⟩,some ⟨(58:TypeId),.o (.rows [.n .i64,.n .i64,.n .i64,.n .i64,.n .i64] T'36),[],g,false⟩,some (liB O38 qc40)],0⟩)))∧a'=a'∧b'=b'∧∃ (y49:VLP),((f=f∧g=g∧e=e)∧U.vlshI e f S g T y49∧e≤100000)∧(∀ (v050 v151 v252 v353 v454:Int),U.vlHasE y49 z2 v050 v151 v252 v353 v454→a'=a'∧b'=b'∧((v050=a'∧v151=b'∧True)∧(v252=a∧v353=b∧True)∧True→U.Gd a' b'∧∀ (z55:Int),z55=U.num a' b'→a'=a'∧b'=b'∧a=a∧b=b∧now=now∧a'=a'∧b'=b'∧∃ (y56:VLP),((f=f∧g=g∧e=e)∧U.vlshI e f S g T y56∧e≤100000)∧(U.vlRoom y56 z55 k→∀ (L'57:Rws) (n'58 c'59:Nat) (M'60:Rws) (d'61:Nat) (P'62:VLP),n'58=U.vllen P'62→U.vlPut y56 z55 { v0 := a',v1 := b',v2 := a,v3 := b,v4 := now } P'62→U.vlshI n'58 c'59 L'57 d'61 M'60 P'62→a'=a'∧b'=b'∧a=a∧b=b∧now=now∧a'=a'∧b'=b'∧K (Sum.inr [Sum.inl (rslC ⟨4,(3:Nat) + (1:Nat),0,0,0⟩),Sum.inl (Sum.inl (Value.bool false))]) ⟨[vwB,vuB (rslC ⟨0,1,0,n,c⟩) (rslC ⟨1,1,0,n,d⟩) m,vlB (rslC ⟨5,1,0,n'58,c'59⟩) (rslC ⟨6,5,0,n'58,d'61⟩) k],[],0,[some ⟨(3:TypeId),.o (.rows [.n .i64] L),[],c,false⟩,some ⟨(3:TypeId),.o (.rows [.n .i64] M),[],d,false⟩,none,none,some (liB U.nilL 0),some ⟨(3:TypeId),.o (.rows [.n .i64] L'57),[],c'59,false⟩,some ⟨(58:TypeId),.o (.rows [.n .i64,.n .i64,.n .i64,.n .i64,.n .i64] M'60),[],d'61,false⟩],0⟩)∧(¬U.vlRoom y56 z55 k→a'=a'∧b'=b'∧a=a∧b=b∧now=now∧a'=a'∧b'=b'∧K (Sum.inr [Sum.inl (rslC ⟨4,(3:Nat) + (1:Nat),0,0,0⟩),Sum.inl (Sum.inl (Value.bool false))]) ⟨[vwB,vuB (rslC ⟨0,1,0,n,c⟩) (rslC ⟨1,1,0,n,d⟩) m,vlB (rslC ⟨2,1,0,e,f⟩) (rslC ⟨3,5,0,e,g⟩) k],[],0,[some ⟨(3:TypeId),.o (.rows [.n .i64] L),[],c,false⟩,some ⟨(3:TypeId),.o (.rows [.n .i64] M),[],d,false⟩,some ⟨(3:TypeId),.o (.rows [.n .i64] S),[],f,false⟩,some ⟨(58:TypeId),.o (.rows [.n .i64,.n .i64,.n .i64,.n .i64,.n .i64] T),[],g,false⟩,some (liB U.nilL 0)],0⟩))∧(¬((v050=a'∧v151=b'∧True)∧(v252=a∧v353=b∧True)∧True)→∃ (y63:VLP),(((c=c∧d=d∧n=n)∧f=f∧g=g∧e=e)∧U.vlshI e f S g T y63∧e≤100000)∧∀ (e'64:Nat) (S'65 T'66:Rws) (P'67:VLP) (O68:Rws) (q69 qc70:Nat),e'64=U.vllen P'67→P'67=U.rest (U.fEnd a b a' b') y63→U.vlshI e'64 f S'65 g T'66 P'67→O68=U.lks (U.gone (U.fEnd a b a' b') y63)→q69=U.vllen (U.gone (U.fEnd a b a' b') y63)→q69≤qc70→U.Gd a' b'∧∀ (z71:Int),z71=U.num a' b'→a'=a'∧b'=b'∧a=a∧b=b∧now=now∧a'=a'∧b'=b'∧∃ (y72:VLP),((f=f∧g=g∧e'64=e'64)∧U.vlshI e'64 f S'65 g T'66 y72∧e'64≤100000)∧(U.vlRoom y72 z71 k→∀ (L'73:Rws) (n'74 c'75:Nat) (M'76:Rws) (d'77:Nat) (P'78:VLP),n'74=U.vllen P'78→U.vlPut y72 z71 { v0 := a',v1 := b',v2 := a,v3 := b,v4 := now } P'78→U.vlshI n'74 c'75 L'73 d'77 M'76 P'78→a'=a'∧b'=b'∧a=a∧b=b∧now=now∧a'=a'∧b'=b'∧K (Sum.inr [Sum.inl (rslC ⟨4,4,0,q69,qc70⟩),Sum.inl (Sum.inl (Value.bool true))]) ⟨[vwB,vuB (rslC ⟨0,1,0,n,c⟩) (rslC ⟨1,1,0,n,d⟩) m,vlB (rslC ⟨5,1,0,n'74,c'75⟩) (rslC ⟨6,5,0,n'74,d'77⟩) k],[],0,[some ⟨(3:TypeId),.o (.rows [.n .i64] L),[],c,false⟩,some ⟨(3:TypeId),.o (.rows [.n .i64] M),[],d,false⟩,none,none,some (liB O68 qc70),some ⟨(3:TypeId),.o (.rows [.n .i64] L'73),[],c'75,false⟩,some ⟨(58:TypeId),.o (.rows [.n .i64,.n .i64,.n .i64,.n .i64,.n .i64] M'76),[],d'77,false⟩],0⟩)∧(¬U.vlRoom y72 z71 k→a'=a'∧b'=b'∧a=a∧b=b∧now=now∧a'=a'∧b'=b'∧K (Sum.inr [Sum.inl (rslC ⟨4,4,0,q69,qc70⟩),Sum.inl (Sum.inl (Value.bool true))]) ⟨[vwB,vuB (rslC ⟨0,1,0,n,c⟩) (rslC ⟨1,1,0,n,d⟩) m,vlB (rslC ⟨2,1,0,e'64,f⟩) (rslC ⟨3,5,0,e'64,g⟩) k],[],0,[some ⟨(3:TypeId),.o (.rows [.n .i64] L),[],c,false⟩,some ⟨(3:TypeId),.o (.rows [.n .i64] M),[],d,false⟩,some ⟨(3:TypeId),.o (.rows [.n .i64] S'65),[],f,false⟩,some ⟨(58:TypeId),.o (.rows [.n .i64,.n .i64,.n .i64,.n .i64,.n .i64] T'66),[],g,false⟩,some (liB O68 qc70)],0⟩)))∧(¬U.vlHasK y49 z2→a'=a'∧b'=b'∧∃ (y79:VLP),(((c=c∧d=d∧n=n)∧f=f∧g=g∧e=e)∧U.vlshI e f S g T y79∧e≤100000)∧∀ (e'80:Nat) (S'81 T'82:Rws) (P'83:VLP) (O84:Rws) (q85 qc86:Nat),e'80=U.vllen P'83→P'83=U.rest (U.fEnd a b a' b') y79→U.vlshI e'80 f S'81 g T'82 P'83→O84=U.lks (U.gone (U.fEnd a b a' b') y79)→q85=U.vllen (U.gone (U.fEnd a b a' b') y79)→q85≤qc86→U.Gd a' b'∧∀ (z87:Int),z87=U.num a' b'→a'=a'∧b'=b'∧a=a∧b=b∧now=now∧a'=a'∧b'=b'∧∃ (y88:VLP),((f=f∧g=g∧e'80=e'80)∧U.vlshI e'80 f S'81 g T'82 y88∧e'80≤100000)∧(U.vlRoom y88 z87 k→∀ (L'89:Rws) (n'90 c'91:Nat) (M'92:Rws) (d'93:Nat) (P'94:VLP),n'90=U.vllen P'94→U.vlPut y88 z87 { v0 := a',v1 := b',v2 := a,v3 := b,v4 := now } P'94→U.vlshI n'90 c'91 L'89 d'93 M'92 P'94→a'=a'∧b'=b'∧a=a∧b=b∧now=now∧a'=a'∧b'=b'∧K (Sum.inr [Sum.inl (rslC ⟨4,4,0,q85,qc86⟩),Sum.inl (Sum.inl (Value.bool true))]) ⟨[vwB,vuB (rslC ⟨0,1,0,n,c⟩) (rslC ⟨1,1,0,n,d⟩) m,vlB (rslC ⟨5,1,0,n'90,c'91⟩) (rslC ⟨6,5,0,n'90,d'93⟩) k],[],0,[some ⟨(3:TypeId),.o (.rows [.n .i64] L),[],c,false⟩,some ⟨(3:TypeId),.o (.rows [.n .i64] M),[],d,false⟩,none,none,some (liB O84 qc86),some ⟨(3:TypeId),.o (.rows [.n .i64] L'89),[],c'91,false⟩,some ⟨(58:TypeId),.o (.rows [.n .i64,.n .i64,.n .i64,.n .i64,.n .i64] M'92),[],d'93,false⟩],0⟩)∧(¬U.vlRoom y88 z87 k→a'=a'∧b'=b'∧a=a∧b=b∧now=now∧a'=a'∧b'=b'∧K (Sum.inr [Sum.inl (rslC ⟨4,4,0,q85,qc86⟩),Sum.inl (Sum.inl (Value.bool true))]) ⟨[vwB,vuB (rslC ⟨0,1,0,n,c⟩) (rslC ⟨1,1,0,n,d⟩) m,vlB (rslC ⟨2,1,0,e'80,f⟩) (rslC ⟨3,5,0,e'80,g⟩) k],[],0,[some ⟨(3:TypeId),.o (.rows [.n .i64] L),[],c,false⟩,some ⟨(3:TypeId),.o (.rows [.n .i64] M),[],d,false⟩,some ⟨(3:TypeId),.o (.rows [.n .i64] S'81),[],f,false⟩,some ⟨(58:TypeId),.o (.rows [.n .i64,.n .i64,.n .i64,.n .i64,.n .i64] T'82),[],g,false⟩,some (liB O84 qc86)],0⟩)))∧a'=a'∧b'=b'∧U.Gd a' b'∧∀ (z95:Int),z95=U.num a' b'→a'=a'∧b'=b'∧∃ (y96:VLP),((f=f∧g=g∧e=e)∧U.vlshI e f S g T y96∧e≤100000)∧(∀ (v097 v198 v299 v3100 v4101:Int),U.vlHasE y96 z95 v097 v198 v299 v3100 v4101→a'=a'∧b'=b'∧((v097=a'∧v198=b'∧True)∧(v299=a∧v3100=b∧True)∧True→U.Gd a' b'∧∀ (z102:Int),z102=U.num a' b'→a'=a'∧b'=b'∧a=a∧b=b∧now=now∧a'=a'∧b'=b'∧∃ (y103:VLP),((f=f∧g=g∧e=e)∧U.vlshI e f S g T y103∧e≤100000)∧(U.vlRoom y103 z102 k→∀ (L'104:Rws) (n'105 c'106:Nat) (M'107:Rws) (d'108:Nat) (P'109:VLP),n'105=U.vllen P'109→U.vlPut y103 z102 { v0 := a',v1 := b',v2 := a,v3 := b,v4 := now } P'109→U.vlshI n'105 c'106 L'104 d'108 M'107 P'109→a'=a'∧b'=b'∧a=a∧b=b∧now=now∧a'=a'∧b'=b'∧K (Sum.inr [Sum.inl (rslC ⟨4,(3:Nat) + (1:Nat),0,0,0⟩),Sum.inl (Sum.inl (Value.bool false))]) ⟨[vwB,vuB (rslC ⟨0,1,0,n,c⟩) (rslC ⟨1,1,0,n,d⟩) m,vlB (rslC ⟨5,1,0,n'105,c'106⟩) (rslC ⟨6,5,0,n'105,d'108⟩) k],[],0,[some ⟨(3:TypeId),.o (.rows [.n .i64] L),[],c,false⟩,some ⟨(3:TypeId),.o (.rows [.n .i64] M),[],d,false⟩,none,none,some (liB U.nilL 0),some ⟨(3:TypeId),.o (.rows [.n .i64] L'104),[],c'106,false⟩,some ⟨(58:TypeId),.o (.rows [.n .i64,.n .i64,.n .i64,.n .i64,.n .i64] M'107),[],d'108,false⟩],0⟩)∧(¬U.vlRoom y103 z102 k→a'=a'∧b'=b'∧a=a∧b=b∧now=now∧a'=a'∧b'=b'∧K (Sum.inr [Sum.inl (rslC ⟨4,(3:Nat) + (1:Nat),0,0,0⟩),Sum.inl (Sum.inl (Value.bool false))]) ⟨[vwB,vuB (rslC ⟨0,1,0,n,c⟩) (rslC ⟨1,1,0,n,d⟩) m,vlB (rslC ⟨2,1,0,e,f⟩) (rslC ⟨3,5,0,e,g⟩) k],[],0,[some ⟨(3:TypeId),.o (.rows [.n .i64] L),[],c,false⟩,some ⟨(3:TypeId),.o (.rows [.n .i64] M),[],d,false⟩,some ⟨(3:TypeId),.o (.rows [.n .i64] S),[],f,false⟩,some ⟨(58:TypeId),.o (.rows [.n .i64,.n .i64,.n .i64,.n .i64,.n .i64] T),[],g,false⟩,some (liB U.nilL 0)],0⟩))∧(¬((v097=a'∧v198=b'∧True)∧(v299=a∧v3100=b∧True)∧True)→∃ (y110:VLP),(((c=c∧d=d∧n=n)∧f=f∧g=g∧e=e)∧U.vlshI e f S g T y110∧e≤100000)∧∀ (e'111:Nat) (S'112 T'113:Rws) (P'114:VLP) (O115:Rws) (q116 qc117:Nat),e'111=U.vllen P'114→P'114=U.rest (U.fEnd a b a' b') y110→U.vlshI e'111 f S'112 g T'113 P'114→O115=U.lks (U.gone (U.fEnd a b a' b') y110)→q116=U.vllen (U.gone (U.fEnd a b a' b') y110)→q116≤qc117→U.Gd a' b'∧∀ (z118:Int),z118=U.num a' b'→a'=a'∧b'=b'∧a=a∧b=b∧now=now∧a'=a'∧b'=b'∧∃ (y119:VLP),((f=f∧g=g∧e'111=e'111)∧U.vlshI e'111 f S'112 g T'113 y119∧e'111≤100000)∧(U.vlRoom y119 z118 k→∀ (L'120:Rws) (n'121 c'122:Nat) (M'123:Rws) (d'124:Nat) (P'125:VLP),n'121=U.vllen P'125→U.vlPut y119 z118 { v0 := a',v1 := b',v2 := a,v3 := b,v4 := now } P'125→U.vlshI n'121 c'122 L'120 d'124 M'123 P'125→a'=a'∧b'=b'∧a=a∧b=b∧now=now∧a'=a'∧b'=b'∧K (Sum.inr [Sum.inl (rslC ⟨4,4,0,q116,qc117⟩),Sum.inl (Sum.inl (Value.bool true))]) ⟨[vwB,vuB (rslC ⟨0,1,0,n,c⟩) (rslC ⟨1,1,0,n,d⟩) m,vlB (rslC ⟨5,1,0,n'121,c'122⟩) (rslC ⟨6,5,0,n'121,d'124⟩) k],[],0,[some ⟨(3:TypeId),.o (.rows [.n .i64] L),[],c,false⟩,some ⟨(3:TypeId),.o (.rows [.n .i64] M),[],d,false⟩,none,none,some (liB O115 qc117),some ⟨(3:TypeId),.o (.rows [.n .i64] L'120),[],c'122,false⟩,some ⟨(58:TypeId),.o (.rows [.n .i64,.n .i64,.n .i64,.n .i64,.n .i64] M'123),[],d'124,false⟩],0⟩)∧(¬U.vlRoom y119 z118 k→a'=a'∧b'=b'∧a=a∧b=b∧now=now∧a'=a'∧b'=b'∧K (Sum.inr [Sum.inl (rslC ⟨4,4,0,q116,qc117⟩),Sum.inl (Sum.inl (Value.bool true))]) ⟨[vwB,vuB (rslC ⟨0,1,0,n,c⟩) (rslC ⟨1,1,0,n,d⟩) m,vlB (rslC ⟨2,1,0,e'111,f⟩) (rslC ⟨3,5,0,e'111,g⟩) k],[],0,[some ⟨(3:TypeId),.o (.rows [.n .i64] L),[],c,false⟩,some ⟨(3:TypeId),.o (.rows [.n .i64] M),[],d,false⟩,some ⟨(3:TypeId),.o (.rows [.n .i64] S'112),[],f,false⟩,some ⟨(58:TypeId),.o (.rows [.n .i64,.n .i64,.n .i64,.n .i64,.n .i64] T'113),[],g,false⟩,some (liB O115 qc117)],0⟩)))∧(¬U.vlHasK y96 z95→a'=a'∧b'=b'∧∃ (y126:VLP),(((c=c∧d=d∧n=n)∧f=f∧g=g∧e=e)∧U.vlshI e f S g T y126∧e≤100000)∧∀ (e'127:Nat) (S'128 T'129:Rws) (P'130:VLP) (O131:Rws) (q132 qc133:Nat),e'127=U.vllen P'130→P'130=U.rest (U.fEnd a b a' b') y126→U.vlshI e'127 f S'128 g T'129 P'130→O131=U.lks (U.gone (U.fEnd a b a' b') y126)→q132=U.vllen (U.gone (U.fEnd a b a' b') y126)→q132≤qc133→U.Gd a' b'∧∀ (z134:Int),z134=U.num a' b'→a'=a'∧b'=b'∧a=a∧b=b∧now=now∧a'=a'∧b'=b'∧∃ (y135:VLP),((f=f∧g=g∧e'127=e'127)∧U.vlshI e'127 f S'128 g T'129 y135∧e'127≤100000)∧(U.vlRoom y135 z134 k→∀ (L'136:Rws) (n'137 c'138:Nat) (M'139:Rws) (d'140:Nat) (P'141:VLP),n'137=U.vllen P'141→U.vlPut y135 z134 { v0 := a',v1 := b',v2 := a,v3 := b,v4 := now } P'141→U.vlshI n'137 c'138 L'136 d'140 M'139 P'141→a'=a'∧b'=b'∧a=a∧b=b∧now=now∧a'=a'∧b'=b'∧K (Sum.inr [Sum.inl (rslC ⟨4,4,0,q132,qc133⟩),Sum.inl (Sum.inl (Value.bool true))]) ⟨[vwB,vuB (rslC ⟨0,1,0,n,c⟩) (rslC ⟨1,1,0,n,d⟩) m,vlB (rslC ⟨5,1,0,n'137,c'138⟩) (rslC ⟨6,5,0,n'137,d'140⟩) k],[],0,[some ⟨(3:TypeId),.o (.rows [.n .i64] L),[],c,false⟩,some ⟨(3:TypeId),.o (.rows [.n .i64] M),[],d,false⟩,none,none,some (liB O131 qc133),some ⟨(3:TypeId),.o (.rows [.n .i64] L'136),[],c'138,false⟩,some ⟨(58:TypeId),.o (.rows [.n .i64,.n .i64,.n .i64,.n .i64,.n .i64] M'139),[],d'140,false⟩],0⟩)∧(¬U.vlRoom y135 z134 k→a'=a'∧b'=b'∧a=a∧b=b∧now=now∧a'=a'∧b'=b'∧K (Sum.inr [Sum.inl (rslC ⟨4,4,0,q132,qc133⟩),Sum.inl (Sum.inl (Value.bool true))]) ⟨[vwB,vuB (rslC ⟨0,1,0,n,c⟩) (rslC ⟨1,1,0,n,d⟩) m,vlB (rslC ⟨2,1,0,e'127,f⟩) (rslC ⟨3,5,0,e'127,g⟩) k],[],0,[some ⟨(3:TypeId),.o (.rows [.n .i64] L),[],c,false⟩,some ⟨(3:TypeId),.o (.rows [.n .i64] M),[],d,false⟩,some ⟨(3:TypeId),.o (.rows [.n .i64] S'128),[],f,false⟩,some ⟨(58:TypeId),.o (.rows [.n .i64,.n .i64,.n .i64,.n .i64,.n .i64] T'129),[],g,false⟩,some (liB O131 qc133)],0⟩)))∧(¬U.num a' b'<U.num a b→(U.Gd a b∧∀ (z142:Int),z142=U.num a b→a=a∧b=b∧(∃ (y143:VLP),((f=f∧g=g∧e=e)∧U.vlshI e f S g T y143∧e≤100000)∧(∀ (v0144 v1145 v2146 v3147 v4148:Int),U.vlHasE y143 z142 v0144 v1145 v2146 v3147 v4148→a=a∧b=b∧a=a∧b=b∧((v0144=a∧v1145=b∧True)∧(v2146=a'∧v3147=b'∧True)∧True→U.Gd a b∧∀ (z149:Int),z149=U.num a b→a=a∧b=b∧a'=a'∧b'=b'∧now=now∧a=a∧b=b∧∃ (y150:VLP),((f=f∧g=g∧e=e)∧U.vlshI e f S g T y150∧e≤100000)∧(U.vlRoom y150 z149 k→∀ (L'151:Rws) (n'152 c'153:Nat) (M'154:Rws) (d'155:Nat) (P'156:VLP),n'152=U.vllen P'156→U.vlPut y150 z149 { v0 := a,v1 := b,v2 := a',v3 := b',v4 := now } P'156→U.vlshI n'152 c'153 L'151 d'155 M'154 P'156→a=a∧b=b∧a'=a'∧b'=b'∧now=now∧a=a∧b=b∧K (Sum.inr [Sum.inl (rslC ⟨4,(3:Nat) + (1:Nat),0,0,0⟩),Sum.inl (Sum.inl (Value.bool false))]) ⟨[vwB,vuB (rslC ⟨0,1,0,n,c⟩) (rslC ⟨1,1,0,n,d⟩) m,vlB (rslC ⟨5,1,0,n'152,c'153⟩) (rslC ⟨6,5,0,n'152,d'155⟩) k],[],0,[some ⟨(3:TypeId),.o (.rows [.n .i64] L),[],c,false⟩,some ⟨(3:TypeId),.o (.rows [.n .i64] M),[],d,false⟩,none,none,some (liB U.nilL 0),some ⟨(3:TypeId),.o (.rows [.n .i64] L'151),[],c'153,false⟩,some ⟨(58:TypeId),.o (.rows [.n .i64,.n .i64,.n .i64,.n .i64,.n .i64] M'154),[],d'155,false⟩],0⟩)∧(¬U.vlRoom y150 z149 k→a=a∧b=b∧a'=a'∧b'=b'∧now=now∧a=a∧b=b∧K (Sum.inr [Sum.inl (rslC ⟨4,(3:Nat) + (1:Nat),0,0,0⟩),Sum.inl (Sum.inl (Value.bool false))]) ⟨[vwB,vuB (rslC ⟨0,1,0,n,c⟩) (rslC ⟨1,1,0,n,d⟩) m,vlB (rslC ⟨2,1,0,e,f⟩) (rslC ⟨3,5,0,e,g⟩) k],[],0,[some ⟨(3:TypeId),.o (.rows [.n .i64] L),[],c,false⟩,some ⟨(3:TypeId),.o (.rows [.n .i64] M),[],d,false⟩,some ⟨(3:TypeId),.o (.rows [.n .i64] S),[],f,false⟩,some ⟨(58:TypeId),.o (.rows [.n .i64,.n .i64,.n .i64,.n .i64,.n .i64] T),[],g,false⟩,some (liB U.nilL 0)],0⟩))∧(¬((v0144=a∧v1145=b∧True)∧(v2146=a'∧v3147=b'∧True)∧True)→∃ (y157:VLP),(((c=c∧d=d∧n=n)∧f=f∧g=g∧e=e)∧U.vlshI e f S g T y157∧e≤100000)∧∀ (e'158:Nat) (S'159 T'160:Rws) (P'161:VLP) (O162:Rws) (q163 qc164:Nat),e'158=U.vllen P'161→P'161=U.rest (U.fEnd a b a' b') y157→U.vlshI e'158 f S'159 g T'160 P'161→O162=U.lks (U.gone (U.fEnd a b a' b') y157)→q163=U.vllen (U.gone (U.fEnd a b a' b') y157)→q163≤qc164→U.Gd a b∧∀ (z165:Int),z165=U.num a b→a=a∧b=b∧a'=a'∧b'=b'∧now=now∧a=a∧b=b∧∃ (y166:VLP),((f=f∧g=g∧e'158=e'158)∧U.vlshI e'158 f S'159 g T'160 y166∧e'158≤100000)∧(U.vlRoom y166 z165 k→∀ (L'167:Rws) (n'168 c'169:Nat) (M'170:Rws) (d'171:Nat) (P'172:VLP),n'168=U.vllen P'172→U.vlPut y166 z165 { v0 := a,v1 := b,v2 := a',v3 := b',v4 := now } P'172→U.vlshI n'168 c'169 L'167 d'171 M'170 P'172→a=a∧b=b∧a'=a'∧b'=b'∧now=now∧a=a∧b=b∧K (Sum.inr [Sum.inl (rslC ⟨4,4,0,q163,qc164⟩),Sum.inl (Sum.inl (Value.bool true))]) ⟨[vwB,vuB (rslC ⟨0,1,0,n,c⟩) (rslC ⟨1,1,0,n,d⟩) m,vlB (rslC ⟨5,1,0,n'168,c'169⟩) (rslC ⟨6,5,0,n'168,d'171⟩) k],[],0,[some ⟨(3:TypeId),.o (.rows [.n .i64] L),[],c,false⟩,some ⟨(3:TypeId),.o (.rows [.n .i64] M),[],d,false⟩,none,none,some (liB O162 qc164),some ⟨(3:TypeId),.o (.rows [.n .i64] L'167),[],c'169,false⟩,some ⟨(58:TypeId),.o (.rows [.n .i64,.n .i64,.n .i64,.n .i64,.n .i64] M'170),[],d'171,false⟩],0⟩)∧(¬U.vlRoom y166 z165 k→a=a∧b=b∧a'=a'∧b'=b'∧now=now∧a=a∧b=b∧K (Sum.inr [Sum.inl (rslC ⟨4,4,0,q163,qc164⟩),Sum.inl (Sum.inl (Value.bool true))]) ⟨[vwB,vuB (rslC ⟨0,1,0,n,c⟩) (rslC ⟨1,1,0,n,d⟩) m,vlB (rslC ⟨2,1,0,e'158,f⟩) (rslC ⟨3,5,0,e'158,g⟩) k],[],0,[some ⟨(3:TypeId),.o (.rows [.n .i64] L),[],c,false⟩,some ⟨(3:TypeId),.o (.rows [.n .i64] M),[],d,false⟩,some ⟨(3:TypeId),.o (.rows [.n .i64] S'159),[],f,false⟩,some ⟨(58:TypeId),.o (.rows [.n .i64,.n .i64,.n .i64,.n .i64,.n .i64] T'160),[],g,false⟩,some (liB O162 qc164)],0⟩)))∧(¬U.vlHasK y143 z142→a=a∧b=b∧a=a∧b=b∧∃ (y173:VLP),(((c=c∧d=d∧n=n)∧f=f∧g=g∧e=e)∧U.vlshI e f S g T y173∧e≤100000)∧∀ (e'174:Nat) (S'175 T'176:Rws) (P'177:VLP) (O178:Rws) (q179 qc180:Nat),e'174=U.vllen P'177→P'177=U.rest (U.fEnd a b a' b') y173→U.vlshI e'174 f S'175 g T'176 P'177→O178=U.lks (U.gone (U.fEnd a b a' b') y173)→q179=U.vllen (U.gone (U.fEnd a b a' b') y173)→q179≤qc180→U.Gd a b∧∀ (z181:Int),z181=U.num a b→a=a∧b=b∧a'=a'∧b'=b'∧now=now∧a=a∧b=b∧∃ (y182:VLP),((f=f∧g=g∧e'174=e'174)∧U.vlshI e'174 f S'175 g T'176 y182∧e'174≤100000)∧(U.vlRoom y182 z181 k→∀ (L'183:Rws) (n'184 c'185:Nat) (M'186:Rws) (d'187:Nat) (P'188:VLP),n'184=U.vllen P'188→U.vlPut y182 z181 { v0 := a,v1 := b,v2 := a',v3 := b',v4 := now } P'188→U.vlshI n'184 c'185 L'183 d'187 M'186 P'188→a=a∧b=b∧a'=a'∧b'=b'∧now=now∧a=a∧b=b∧K (Sum.inr [Sum.inl (rslC ⟨4,4,0,q179,qc180⟩),Sum.inl (Sum.inl (Value.bool true))]) ⟨[vwB,vuB (rslC ⟨0,1,0,n,c⟩) (rslC ⟨1,1,0,n,d⟩) m,vlB (rslC ⟨5,1,0,n'184,c'185⟩) (rslC ⟨6,5,0,n'184,d'187⟩) k],[],0,[some ⟨(3:TypeId),.o (.rows [.n .i64] L),[],c,false⟩,some ⟨(3:TypeId),.o (.rows [.n .i64] M),[],d,false⟩,none,none,some (liB O178 qc180),some ⟨(3:TypeId),.o (.rows [.n .i64] L'183),[],c'185,false⟩,some ⟨(58:TypeId),.o (.rows [.n .i64,.n .i64,.n .i64,.n .i64,.n .i64] M'186),[],d'187,false⟩],0⟩)∧(¬U.vlRoom y182 z181 k→a=a∧b=b∧a'=a'∧b'=b'∧now=now∧a=a∧b=b∧K (Sum.inr [Sum.inl (rslC ⟨4,4,0,q179,qc180⟩),Sum.inl (Sum.inl (Value.bool true))]) ⟨[vwB,vuB (rslC ⟨0,1,0,n,c⟩) (rslC ⟨1,1,0,n,d⟩) m,vlB (rslC ⟨2,1,0,e'174,f⟩) (rslC ⟨3,5,0,e'174,g⟩) k],[],0,[some ⟨(3:TypeId),.o (.rows [.n .i64] L),[],c,false⟩,some ⟨(3:TypeId),.o (.rows [.n .i64] M),[],d,false⟩,some ⟨(3:TypeId),.o (.rows [.n .i64] S'175),[],f,false⟩,some ⟨(58:TypeId),.o (.rows [.n .i64,.n .i64,.n .i64,.n .i64,.n .i64] T'176),[],g,false⟩,some (liB O178 qc180)],0⟩)))∧a=a∧b=b∧∃ (y189:VLP),((f=f∧g=g∧e=e)∧U.vlshI e f S g T y189∧e≤100000)∧(∀ (v0190 v1191 v2192 v3193 v4194:Int),U.vlHasE y189 z142 v0190 v1191 v2192 v3193 v4194→a=a∧b=b∧((v0190=a∧v1191=b∧True)∧(v2192=a'∧v3193=b'∧True)∧True→U.Gd a b∧∀ (z195:Int),z195=U.num a b→a=a∧b=b∧a'=a'∧b'=b'∧now=now∧a=a∧b=b∧∃ (y196:VLP),((f=f∧g=g∧e=e)∧U.vlshI e f S g T y196∧e≤100000)∧(U.vlRoom y196 z195 k→∀ (L'197:Rws) (n'198 c'199:Nat) (M'200:Rws) (d'201:Nat) (P'202:VLP),n'198=U.vllen P'202→U.vlPut y196 z195 { v0 := a,v1 := b,v2 := a',v3 := b',v4 := now } P'202→U.vlshI n'198 c'199 L'197 d'201 M'200 P'202→a=a∧b=b∧a'=a'∧b'=b'∧now=now∧a=a∧b=b∧K (Sum.inr [Sum.inl (rslC ⟨4,(3:Nat) + (1:Nat),0,0,0⟩),Sum.inl (Sum.inl (Value.bool false))]) ⟨[vwB,vuB (rslC ⟨0,1,0,n,c⟩) (rslC ⟨1,1,0,n,d⟩) m,vlB (rslC ⟨5,1,0,n'198,c'199⟩) (rslC ⟨6,5,0,n'198,d'201⟩) k],[],0,[some ⟨(3:TypeId),.o (.rows [.n .i64] L),[],c,false⟩,some ⟨(3:TypeId),.o (.rows [.n .i64] M),[],d,false⟩,none,none,some (liB U.nilL 0),some ⟨(3:TypeId),.o (.rows [.n .i64] L'197),[],c'199,false⟩,some ⟨(58:TypeId),.o (.rows [.n .i64,.n .i64,.n .i64,.n .i64,.n .i64] M'200),[],d'201,false⟩],0⟩)∧(¬U.vlRoom y196 z195 k→a=a∧b=b∧a'=a'∧b'=b'∧now=now∧a=a∧b=b∧K (Sum.inr [Sum.inl (rslC ⟨4,(3:Nat) + (1:Nat),0,0,0⟩),Sum.inl (Sum.inl (Value.bool false))]) ⟨[vwB,vuB (rslC ⟨0,1,0,n,c⟩) (rslC ⟨1,1,0,n,d⟩) m,vlB (rslC ⟨2,1,0,e,f⟩) (rslC ⟨3,5,0,e,g⟩) k],[],0,[some ⟨(3:TypeId),.o (.rows [.n .i64] L),[],c,false⟩,some ⟨(3:TypeId),.o (.rows [.n .i64] M),[],d,false⟩,some ⟨(3:TypeId),.o (.rows [.n .i64] S),[],f,false⟩,some ⟨(58:TypeId),.o (.rows [.n .i64,.n .i64,.n .i64,.n .i64,.n .i64] T),[],g,false⟩,some (liB U.nilL 0)],0⟩))∧(¬((v0190=a∧v1191=b∧True)∧(v2192=a'∧v3193=b'∧True)∧True)→∃ (y203:VLP),(((c=c∧d=d∧n=n)∧f=f∧g=g∧e=e)∧U.vlshI e f S g T y203∧e≤100000)∧∀ (e'204:Nat) (S'205 T'206:Rws) (P'207:VLP) (O208:Rws) (q209 qc210:Nat),e'204=U.vllen P'207→P'207=U.rest (U.fEnd a b a' b') y203→U.vlshI e'204 f S'205 g T'206 P'207→O208=U.lks (U.gone (U.fEnd a b a' b') y203)→q209=U.vllen (U.gone (U.fEnd a b a' b') y203)→q209≤qc210→U.Gd a b∧∀ (z211:Int),z211=U.num a b→a=a∧b=b∧a'=a'∧b'=b'∧now=now∧a=a∧b=b∧∃ (y212:VLP),((f=f∧g=g∧e'204=e'204)∧U.vlshI e'204 f S'205 g T'206 y212∧e'204≤100000)∧(U.vlRoom y212 z211 k→∀ (L'213:Rws) (n'214 c'215:Nat) (M'216:Rws) (d'217:Nat) (P'218:VLP),n'214=U.vllen P'218→U.vlPut y212 z211 { v0 := a,v1 := b,v2 := a',v3 := b',v4 := now } P'218→U.vlshI n'214 c'215 L'213 d'217 M'216 P'218→a=a∧b=b∧a'=a'∧b'=b'∧now=now∧a=a∧b=b∧K (Sum.inr [Sum.inl (rslC ⟨4,4,0,q209,qc210⟩),Sum.inl (Sum.inl (Value.bool true))]) ⟨[vwB,vuB (rslC ⟨0,1,0,n,c⟩) (rslC ⟨1,1,0,n,d⟩) m,vlB (rslC ⟨5,1,0,n'214,c'215⟩) (rslC ⟨6,5,0,n'214,d'217⟩) k],[],0,[some ⟨(3:TypeId),.o (.rows [.n .i64] L),[],c,false⟩,some ⟨(3:TypeId),.o (.rows [.n .i64] M),[],d,false⟩,none,none,some (liB O208 qc210),some ⟨(3:TypeId),.o (.rows [.n .i64] L'213),[],c'215,false⟩,some ⟨(58:TypeId),.o (.rows [.n .i64,.n .i64,.n .i64,.n .i64,.n .i64] M'216),[],d'217,false⟩],0⟩)∧(¬U.vlRoom y212 z211 k→a=a∧b=b∧a'=a'∧b'=b'∧now=now∧a=a∧b=b∧K (Sum.inr [Sum.inl (rslC ⟨4,4,0,q209,qc210⟩),Sum.inl (Sum.inl (Value.bool true))]) ⟨[vwB,vuB (rslC ⟨0,1,0,n,c⟩) (rslC ⟨1,1,0,n,d⟩) m,vlB (rslC ⟨2,1,0,e'204,f⟩) (rslC ⟨3,5,0,e'204,g⟩) k],[],0,[some ⟨(3:TypeId),.o (.rows [.n .i64] L),[],c,false⟩,some ⟨(3:TypeId),.o (.rows [.n .i64] M),[],d,false⟩,some ⟨(3:TypeId),.o (.rows [.n .i64] S'205),[],f,false⟩,some ⟨(58:TypeId),.o (.rows [.n .i64,.n .i64,.n .i64,.n .i64,.n .i64] T'206),[],g,false⟩,some (liB O208 qc210)],0⟩)))∧(¬U.vlHasK y189 z142→a=a∧b=b∧∃ (y219:VLP),(((c=c∧d=d∧n=n)∧f=f∧g=g∧e=e)∧U.vlshI e f S g T y219∧e≤100000)∧∀ (e'220:Nat) (S'221 T'222:Rws) (P'223:VLP) (O224:Rws) (q225 qc226:Nat),e'220=U.vllen P'223→P'223=U.rest (U.fEnd a b a' b') y219→U.vlshI e'220 f S'221 g T'222 P'223→O224=U.lks (U.gone (U.fEnd a b a' b') y219)→q225=U.vllen (U.gone (U.fEnd a b a' b') y219)→q225≤qc226→U.Gd a b∧∀ (z227:Int),z227=U.num a b→a=a∧b=b∧a'=a'∧b'=b'∧now=now∧a=a∧b=b∧∃ (y228:VLP),((f=f∧g=g∧e'220=e'220)∧U.vlshI e'220 f S'221 g T'222 y228∧e'220≤100000)∧(U.vlRoom y228 z227 k→∀ (L'229:Rws) (n'230 c'231:Nat) (M'232:Rws) (d'233:Nat) (P'234:VLP),n'230=U.vllen P'234→U.vlPut y228 z227 { v0 := a,v1 := b,v2 := a',v3 := b',v4 := now } P'234→U.vlshI n'230 c'231 L'229 d'233 M'232 P'234→a=a∧b=b∧a'=a'∧b'=b'∧now=now∧a=a∧b=b∧K (Sum.inr [Sum.inl (rslC ⟨4,4,0,q225,qc226⟩),Sum.inl (Sum.inl (Value.bool true))]) ⟨[vwB,vuB (rslC ⟨0,1,0,n,c⟩) (rslC ⟨1,1,0,n,d⟩) m,vlB (rslC ⟨5,1,0,n'230,c'231⟩) (rslC ⟨6,5,0,n'230,d'233⟩) k],[],0,[some ⟨(3:TypeId),.o (.rows [.n .i64] L),[],c,false⟩,some ⟨(3:TypeId),.o (.rows [.n .i64] M),[],d,false⟩,none,none,some (liB O224 qc226),some ⟨(3:TypeId),.o (.rows [.n .i64] L'229),[],c'231,false⟩,some ⟨(58:TypeId),.o (.rows [.n .i64,.n .i64,.n .i64,.n .i64,.n .i64] M'232),[],d'233,false⟩],0⟩)∧(¬U.vlRoom y228 z227 k→a=a∧b=b∧a'=a'∧b'=b'∧now=now∧a=a∧b=b∧K (Sum.inr [Sum.inl (rslC ⟨4,4,0,q225,qc226⟩),Sum.inl (Sum.inl (Value.bool true))]) ⟨[vwB,vuB (rslC ⟨0,1,0,n,c⟩) (rslC ⟨1,1,0,n,d⟩) m,vlB (rslC ⟨2,1,0,e'220,f⟩) (rslC ⟨3,5,0,e'220,g⟩) k],[],0,[some ⟨(3:TypeId),.o (.rows [.n .i64] L),[],c,false⟩,some ⟨(3:TypeId),.o (.rows [.n .i64] M),[],d,false⟩,some ⟨(3:TypeId),.o (.rows [.n .i64] S'221),[],f,false⟩,some ⟨(58:TypeId),.o (.rows [.n .i64,.n .i64,.n .i64,.n .i64,.n .i64] T'222),[],g,false⟩,some (liB O224 qc226)],0⟩)))∧a=a∧b=b∧U.Gd a b∧∀ (z235:Int),z235=U.num a b→a=a∧b=b∧∃ (y236:VLP),((f=f∧g=g∧e=e)∧U.vlshI e f S g T y236∧e≤100000)∧(∀ (v0237 v1238 v2239 v3240 v4241:Int),U.vlHasE y236 z235 v0237 v1238 v2239 v3240 v4241→a=a∧b=b∧((v0237=a∧v1238=b∧True)∧(v2239=a'∧v3240=b'∧True)∧True→U.Gd a b∧∀ (z242:Int),z242=U.num a b→a=a∧b=b∧a'=a'∧b'=b'∧now=now∧a=a∧b=b∧∃ (y243:VLP),((f=f∧g=g∧e=e)∧U.vlshI e f S g T y243∧e≤100000)∧(U.vlRoom y243 z242 k→∀ (L'244:Rws) (n'245 c'246:Nat) (M'247:Rws) (d'248:Nat) (P'249:VLP),n'245=U.vllen P'249→U.vlPut y243 z242 { v0 := a,v1 := b,v2 := a',v3 := b',v4 := now } P'249→U.vlshI n'245 c'246 L'244 d'248 M'247 P'249→a=a∧b=b∧a'=a'∧b'=b'∧now=now∧a=a∧b=b∧K (Sum.inr [Sum.inl (rslC ⟨4,(3:Nat) + (1:Nat),0,0,0⟩),Sum.inl (Sum.inl (Value.bool false))]) ⟨[vwB,vuB (rslC ⟨0,1,0,n,c⟩) (rslC ⟨1,1,0,n,d⟩) m,vlB (rslC ⟨5,1,0,n'245,c'246⟩) (rslC ⟨6,5,0,n'245,d'248⟩) k],[],0,[some ⟨(3:TypeId),.o (.rows [.n .i64] L),[],c,false⟩,some ⟨(3:TypeId),.o (.rows [.n .i64] M),[],d,false⟩,none,none,some (liB U.nilL 0),some ⟨(3:TypeId),.o (.rows [.n .i64] L'244),[],c'246,false⟩,some ⟨(58:TypeId),.o (.rows [.n .i64,.n .i64,.n .i64,.n .i64,.n .i64] M'247),[],d'248,false⟩],0⟩)∧(¬U.vlRoom y243 z242 k→a=a∧b=b∧a'=a'∧b'=b'∧now=now∧a=a∧b=b∧K (Sum.inr [Sum.inl (rslC ⟨4,(3:Nat) + (1:Nat),0,0,0⟩),Sum.inl (Sum.inl (Value.bool false))]) ⟨[vwB,vuB (rslC ⟨0,1,0,n,c⟩) (rslC ⟨1,1,0,n,d⟩) m,vlB (rslC ⟨2,1,0,e,f⟩) (rslC ⟨3,5,0,e,g⟩) k],[],0,[some ⟨(3:TypeId),.o (.rows [.n .i64] L),[],c,false⟩,some ⟨(3:TypeId),.o (.rows [.n .i64] M),[],d,false⟩,some ⟨(3:TypeId),.o (.rows [.n .i64] S),[],f,false⟩,some ⟨(58:TypeId),.o (.rows [.n .i64,.n .i64,.n .i64,.n .i64,.n .i64] T),[],g,false⟩,some (liB U.nilL 0)],0⟩))∧(¬((v0237=a∧v1238=b∧True)∧(v2239=a'∧v3240=b'∧True)∧True)→∃ (y250:VLP),(((c=c∧d=d∧n=n)∧f=f∧g=g∧e=e)∧U.vlshI e f S g T y250∧e≤100000)∧∀ (e'251:Nat) (S'252 T'253:Rws) (P'254:VLP) (O255:Rws) (q256 qc257:Nat),e'251=U.vllen P'254→P'254=U.rest (U.fEnd a b a' b') y250→U.vlshI e'251 f S'252 g T'253 P'254→O255=U.lks (U.gone (U.fEnd a b a' b') y250)→q256=U.vllen (U.gone (U.fEnd a b a' b') y250)→q256≤qc257→U.Gd a b∧∀ (z258:Int),z258=U.num a b→a=a∧b=b∧a'=a'∧b'=b'∧now=now∧a=a∧b=b∧∃ (y259:VLP),((f=f∧g=g∧e'251=e'251)∧U.vlshI e'251 f S'252 g T'253 y259∧e'251≤100000)∧(U.vlRoom y259 z258 k→∀ (L'260:Rws) (n'261 c'262:Nat) (M'263:Rws) (d'264:Nat) (P'265:VLP),n'261=U.vllen P'265→U.vlPut y259 z258 { v0 := a,v1 := b,v2 := a',v3 := b',v4 := now } P'265→U.vlshI n'261 c'262 L'260 d'264 M'263 P'265→a=a∧b=b∧a'=a'∧b'=b'∧now=now∧a=a∧b=b∧K (Sum.inr [Sum.inl (rslC ⟨4,4,0,q256,qc257⟩),Sum.inl (Sum.inl (Value.bool true))]) ⟨[vwB,vuB (rslC ⟨0,1,0,n,c⟩) (rslC ⟨1,1,0,n,d⟩) m,vlB (rslC ⟨5,1,0,n'261,c'262⟩) (rslC ⟨6,5,0,n'261,d'264⟩) k],[],0,[some ⟨(3:TypeId),.o (.rows [.n .i64] L),[],c,false⟩,some ⟨(3:TypeId),.o (.rows [.n .i64] M),[],d,false⟩,none,none,some (liB O255 qc257),some ⟨(3:TypeId),.o (.rows [.n .i64] L'260),[],c'262,false⟩,some ⟨(58:TypeId),.o (.rows [.n .i64,.n .i64,.n .i64,.n .i64,.n .i64] M'263),[],d'264,false⟩],0⟩)∧(¬U.vlRoom y259 z258 k→a=a∧b=b∧a'=a'∧b'=b'∧now=now∧a=a∧b=b∧K (Sum.inr [Sum.inl (rslC ⟨4,4,0,q256,qc257⟩),Sum.inl (Sum.inl (Value.bool true))]) ⟨[vwB,vuB (rslC ⟨0,1,0,n,c⟩) (rslC ⟨1,1,0,n,d⟩) m,vlB (rslC ⟨2,1,0,e'251,f⟩) (rslC ⟨3,5,0,e'251,g⟩) k],[],0,[some ⟨(3:TypeId),.o (.rows [.n .i64] L),[],c,false⟩,some ⟨(3:TypeId),.o (.rows [.n .i64] M),[],d,false⟩,some ⟨(3:TypeId),.o (.rows [.n .i64] S'252),[],f,false⟩,some ⟨(58:TypeId),.o (.rows [.n .i64,.n .i64,.n .i64,.n .i64,.n .i64] T'253),[],g,false⟩,some (liB O255 qc257)],0⟩)))∧(¬U.vlHasK y236 z235→a=a∧b=b∧∃ (y266:VLP),(((c=c∧d=d∧n=n)∧f=f∧g=g∧e=e)∧U.vlshI e f S g T y266∧e≤100000)∧∀ (e'267:Nat) (S'268 T'269:Rws) (P'270:VLP) (O271:Rws) (q272 qc273:Nat),e'267=U.vllen P'270→P'270=U.rest (U.fEnd a b a' b') y266→U.vlshI e'267 f S'268 g T'269 P'270→O271=U.lks (U.gone (U.fEnd a b a' b') y266)→q272=U.vllen (U.gone (U.fEnd a b a' b') y266)→q272≤qc273→U.Gd a b∧∀ (z274:Int),z274=U.num a b→a=a∧b=b∧a'=a'∧b'=b'∧now=now∧a=a∧b=b∧∃ (y275:VLP),((f=f∧g=g∧e'267=e'267)∧U.vlshI e'267 f S'268 g T'269 y275∧e'267≤100000)∧(U.vlRoom y275 z274 k→∀ (L'276:Rws) (n'277 c'278:Nat) (M'279:Rws) (d'280:Nat) (P'281:VLP),n'277=U.vllen P'281→U.vlPut y275 z274 { v0 := a,v1 := b,v2 := a',v3 := b',v4 := now } P'281→U.vlshI n'277 c'278 L'276 d'280 M'279 P'281→a=a∧b=b∧a'=a'∧b'=b'∧now=now∧a=a∧b=b∧K (Sum.inr [Sum.inl (rslC ⟨4,4,0,q272,qc273⟩),Sum.inl (Sum.inl (Value.bool true))]) ⟨[vwB,vuB (rslC ⟨0,1,0,n,c⟩) (rslC ⟨1,1,0,n,d⟩) m,vlB (rslC ⟨5,1,0,n'277,c'278⟩) (rslC ⟨6,5,0,n'277,d'280⟩) k],[],0,[some ⟨(3:TypeId),.o (.rows [.n .i64] L),[],c,false⟩,some ⟨(3:TypeId),.o (.rows [.n .i64] M),[],d,false⟩,none,none,some (liB O271 qc273),some ⟨(3:TypeId),.o (.rows [.n .i64] L'276),[],c'278,false⟩,some ⟨(58:TypeId),.o (.rows [.n .i64,.n .i64,.n .i64,.n .i64,.n .i64] M'279),[],d'280,false⟩],0⟩)∧(¬U.vlRoom y275 z274 k→a=a∧b=b∧a'=a'∧b'=b'∧now=now∧a=a∧b=b∧K (Sum.inr [Sum.inl (rslC ⟨4,4,0,q272,qc273⟩),Sum.inl (Sum.inl (Value.bool true))]) ⟨[vwB,vuB (rslC ⟨0,1,0,n,c⟩) (rslC ⟨1,1,0,n,d⟩) m,vlB (rslC ⟨2,1,0,e'267,f⟩) (rslC ⟨3,5,0,e'267,g⟩) k],[],0,[some ⟨(3:TypeId),.o (.rows [.n .i64] L),[],c,false⟩,some ⟨(3:TypeId),.o (.rows [.n .i64] M),[],d,false⟩,some ⟨(3:TypeId),.o (.rows [.n .i64] S'268),[],f,false⟩,some ⟨(58:TypeId),.o (.rows [.n .i64,.n .i64,.n .i64,.n .i64,.n .i64] T'269),[],g,false⟩,some (liB O271 qc273)],0⟩))))∧(¬U.Upp y1 a' b'→K (Sum.inr [Sum.inl (rslC ⟨4,(3:Nat) + (1:Nat),0,0,0⟩),Sum.inl (Sum.inl (Value.bool false))]) ⟨[vwB,vuB (rslC ⟨0,1,0,n,c⟩) (rslC ⟨1,1,0,n,d⟩) m,vlB (rslC ⟨2,1,0,e,f⟩) (rslC ⟨3,5,0,e,g⟩) k],[],0,[some ⟨(3:TypeId),.o (.rows [.n .i64] L),[],c,false⟩,some ⟨(3:TypeId),.o (.rows [.n .i64] M),[],d,false⟩,some ⟨(3:TypeId),.o (.rows [.n .i64] S),[],f,false⟩,some (vlvB T g),some (liB U.nilL 0)],0⟩))∧(¬U.Upp y0 a b→K (Sum.inr [Sum.inl (rslC ⟨4,(3:Nat) + (1:Nat),0,0,0⟩),Sum.inl (Sum.inl (Value.bool false))]) ⟨[vwB,vuB (rslC ⟨0,1,0,n,c⟩) (rslC ⟨1,1,0,n,d⟩) m,vlB (rslC ⟨2,1,0,e,f⟩) (rslC ⟨3,5,0,e,g⟩) k],[],0,[some ⟨(3:TypeId),.o (.rows [.n .i64] L),[],c,false⟩,some ⟨(3:TypeId),.o (.rows [.n .i64] M),[],d,false⟩,some ⟨(3:TypeId),.o (.rows [.n .i64] S),[],f,false⟩,some (vlvB T g),some (liB U.nilL 0)],0⟩))) := by kernel_rfl
end Go.Proofs.Ytfhgnngdbbgogaa
end
section
set_option linter.unusedVariables false
set_option linter.unusedSimpArgs false
set_option maxRecDepth 10000
namespace Go.Proofs.Ytfhgnngdbbgogaa
open Go Reck Ost
theorem pig : ∀ (N : Nat) (l : List Int), l.Pairwise (· ≠ ·) → (∀ x ∈ l, 0 ≤ x ∧ x < N) → l.length ≤ N
  | 0, [], _, _ => Nat.le_refl _
  | 0, x :: l, _, h => by have := h x (List.mem_cons_self ..); omega
  | N + 1, l, hp, h => by
    have h1 := pig N (l.filter fun x => decide (x ≠ (N : Int))) (hp.filter _) fun x hx => by
      obtain ⟨a, b⟩ := List.mem_filter.1 hx
      have := h x a
      have b : x ≠ (N : Int) := by simpa using b
      omega
    have h2 : ∀ l : List Int, l.Pairwise (· ≠ ·) → l.length ≤ (l.filter fun x => decide (x ≠ (N : Int))).length + 1 := by
      intro l
      induction l with
      | nil => intro _; simp
      | cons a l ih =>
        intro hp
        obtain ⟨ha, hl⟩ := List.pairwise_cons.1 hp
        by_cases e : a = (N : Int)
        · have : l.filter (fun x => decide (x ≠ (N : Int))) = l := List.filter_eq_self.2 fun x hx => by
            have := ha x hx
            simp only [decide_eq_true_eq]
            rw [← e]; exact fun h => this h.symm
          rw [List.filter_cons_of_neg (by simp [e]), this]; simp
        · rw [List.filter_cons_of_pos (by simpa using e), List.length_cons, List.length_cons]
          have := ih hl; omega
    have := h2 l hp
    omega
structure U.LI (Pu : VUP) (Pl : VLP) : Prop where
  wf : ∀ k v, (k, v) ∈ Pl → k = U.num v.v0 v.v1 ∧ U.Upp Pu v.v0 v.v1 ∧ U.Upp Pu v.v2 v.v3 ∧ k < U.num v.v2 v.v3
  ap : ∀ k v k' v', (k, v) ∈ Pl → (k', v') ∈ Pl → k ≠ k' → U.num v.v2 v.v3 ≠ U.num v'.v2 v'.v3 ∧ k ≠ U.num v'.v2 v'.v3
theorem gd_num {a b : Int} (h : U.Gd a b) : 0 ≤ U.num a b ∧ U.num a b < 64 := by
  have := h.out
  unfold U.num; omega
theorem num_inj {a b a' b' : Int} (h : U.Gd a b) (h' : U.Gd a' b') (e : U.num a b = U.num a' b') : a = a' ∧ b = b' := by
  have := h.out
  have := h'.out
  unfold U.num at e; omega
theorem srt_ne {P : VLP} (hs : U.vlSrt P) : (P.map Prod.fst).Pairwise (· ≠ ·) := by
  rw [List.pairwise_map]
  exact hs.out.imp fun h => by omega
theorem li_len {Pu : VUP} {Pl : VLP} (h : U.LI Pu Pl) (hs : U.vlSrt Pl) (l : List Int) (hl : l.Pairwise (· ≠ ·)) (hb : ∀ x ∈ l, 0 ≤ x ∧ x < 64) (hn : ∀ x ∈ l, ∀ k v, (k, v) ∈ Pl → x ≠ k ∧ x ≠ U.num v.v2 v.v3) : l.length + 2 * Pl.length ≤ 64 := by
  have hp : (l ++ (Pl.map Prod.fst ++ Pl.map fun p => U.num p.2.v2 p.2.v3)).Pairwise (· ≠ ·) := by
    rw [List.pairwise_append, List.pairwise_append]
    refine ⟨hl, ⟨srt_ne hs, ?_, ?_⟩, ?_⟩
    · rw [List.pairwise_map]
      have : Pl.Pairwise fun p q => (p ∈ Pl ∧ q ∈ Pl) ∧ p.1 < q.1 := by
        rw [List.pairwise_iff_getElem]
        exact fun i j hi hj hij => ⟨⟨List.getElem_mem hi, List.getElem_mem hj⟩, List.pairwise_iff_getElem.1 hs.out i j hi hj hij⟩
      exact this.imp fun {p q} h' => (h.ap p.1 p.2 q.1 q.2 h'.1.1 h'.1.2 (by omega)).1
    · intro x hx y hy
      obtain ⟨p, hp, rfl⟩ := List.mem_map.1 hx
      obtain ⟨q, hq, rfl⟩ := List.mem_map.1 hy
      by_cases e : p.1 = q.1
      · have := (h.wf q.1 q.2 hq).2.2.2
        omega
      · exact (h.ap p.1 p.2 q.1 q.2 hp hq e).2
    · intro x hx y hy
      rcases List.mem_append.1 hy with hy | hy
      · obtain ⟨p, hp, rfl⟩ := List.mem_map.1 hy
        exact (hn x hx p.1 p.2 hp).1
      · obtain ⟨p, hp, rfl⟩ := List.mem_map.1 hy
        exact (hn x hx p.1 p.2 hp).2
  have := pig 64 _ hp fun x hx => by
    rcases List.mem_append.1 hx with hx | hx
    · exact hb x hx
    · rcases List.mem_append.1 hx with hx | hx
      · obtain ⟨p, hp, rfl⟩ := List.mem_map.1 hx
        obtain ⟨e, hu, _⟩ := h.wf p.1 p.2 hp
        have := gd_num hu.out.1
        rw [e]; exact this
      · obtain ⟨p, hp, rfl⟩ := List.mem_map.1 hx
        obtain ⟨_, _, hu, _⟩ := h.wf p.1 p.2 hp
        exact gd_num hu.out.1
  simp at this
  omega
theorem li_32 {Pu : VUP} {Pl : VLP} (h : U.LI Pu Pl) (hs : U.vlSrt Pl) : Pl.length ≤ 32 := by
  have := li_len h hs [] List.Pairwise.nil (fun x hx => by cases hx) (fun x hx => by cases hx)
  simp at this; omega
theorem ku_ne {P : VUP} (hs : U.vuSrt P) : (P.map fun p => p.1 - 1).Pairwise (· ≠ ·) := by
  rw [List.pairwise_map]
  exact hs.out.imp fun h => by omega
theorem ku_8 {P : VUP} (h : U.KU P) (hs : U.vuSrt P) : P.length ≤ 8 := by
  have := pig 8 _ (ku_ne hs) fun x hx => by
    obtain ⟨p, hp, rfl⟩ := List.mem_map.1 hx
    have := (h.out p.1 p.2 hp).1
    omega
  simpa using this
theorem ku_7 {P : VUP} (h : U.KU P) (hs : U.vuSrt P) {k : Int} (hk : 1 ≤ k ∧ k ≤ 8) (hn : ¬ U.vuHasK P k) : P.length < 8 := by
  have := pig 8 ((k - 1) :: P.map fun p => p.1 - 1) (List.pairwise_cons.2 ⟨fun x hx => by
      obtain ⟨p, hp, rfl⟩ := List.mem_map.1 hx
      intro e
      exact hn ⟨p.2, by rw [show k = p.1 by omega]; exact hp⟩, ku_ne hs⟩) fun x hx => by
    rcases List.mem_cons.1 hx with rfl | hx
    · omega
    · obtain ⟨p, hp, rfl⟩ := List.mem_map.1 hx
      have := (h.out p.1 p.2 hp).1
      omega
  simp at this
  omega
theorem ku_room {P : VUP} (h : U.KU P) (hs : U.vuSrt P) {k : Int} (hk : 1 ≤ k ∧ k ≤ 8) : U.vuRoom P k 8 := by
  by_cases hn : U.vuHasK P k
  · exact ⟨.inl hn⟩
  · exact ⟨.inr (by have := ku_7 h hs hk hn; omega)⟩
theorem ku_put {P P' : VUP} {k u : Int} (h : U.KU P) (hk : 1 ≤ k ∧ k ≤ 8) (hu : 0 ≤ u ∧ u ≤ 255) (hp : U.vuPut P k ⟨u⟩ P') : U.KU P' :=
  ⟨fun x y hx => by
    rcases (hp.mem x y).1 hx with ⟨rfl, rfl⟩ | ⟨hx, _⟩
    · exact ⟨hk, hu⟩
    · exact h.out x y hx⟩
theorem ku_rm {P P' : VUP} {k : Int} (h : U.KU P) (hp : U.vuRm P k P') : U.KU P' := ⟨fun x y hx => h.out x y ((hp.mem x y).1 hx).1⟩
theorem rest_mem {F : Int × VLv → Bool} {P : VLP} {p : Int × VLv} : p ∈ U.rest F P ↔ p ∈ P ∧ F p = false := by
  unfold U.rest
  rw [List.mem_filter]; simp
theorem rest_srt {F : Int × VLv → Bool} {P : VLP} (h : U.vlSrt P) : U.vlSrt (U.rest F P) := ⟨List.Pairwise.filter _ h.out⟩
theorem li_brk {Pu Pu' : VUP} {Pl : VLP} (h : U.LI Pu Pl) : U.LI Pu' (U.rest (U.fBrk Pu') Pl) := by
  have key : ∀ k v, (k, v) ∈ U.rest (U.fBrk Pu') Pl → (k, v) ∈ Pl ∧ U.Upp Pu' v.v0 v.v1 ∧ U.Upp Pu' v.v2 v.v3 := fun k v hx => by
    obtain ⟨h1, h2⟩ := rest_mem.1 hx
    have : U.Upp Pu' v.v0 v.v1 ∧ U.Upp Pu' v.v2 v.v3 := Classical.byContradiction fun hn => by
      have := dec_t hn
      unfold U.fBrk at h2
      rw [this] at h2; cases h2
    exact ⟨h1, this⟩
  refine ⟨fun k v hx => ?_, fun k v k' v' hx hx' hne => h.ap k v k' v' (key k v hx).1 (key k' v' hx').1 hne⟩
  obtain ⟨h1, h2, h3⟩ := key k v hx
  obtain ⟨g1, _, _, g4⟩ := h.wf k v h1
  exact ⟨g1, h2, h3, g4⟩
theorem li_sub {Pu : VUP} {Pl Pl' : VLP} (h : U.LI Pu Pl) (hs : ∀ p ∈ Pl', p ∈ Pl) : U.LI Pu Pl' :=
  ⟨fun k v hx => h.wf k v (hs _ hx), fun k v k' v' hx hx' hne => h.ap k v k' v' (hs _ hx) (hs _ hx') hne⟩
structure U.Vw (n c : Nat) (L : Rws) (d : Nat) (M : Rws) (e f : Nat) (S : Rws) (g : Nat) (T : Rws) (Pu : VUP) (Pl : VLP) : Prop where
  u : U.vushI n c L d M Pu
  l : U.vlshI e f S g T Pl
  ku : U.KU Pu
  li : U.LI Pu Pl
section
variable {n c : Nat} {L : Rws} {d : Nat} {M : Rws} {e f : Nat} {S : Rws} {g : Nat} {T : Rws} {Pu : VUP} {Pl : VLP}
theorem vw_n (h : U.Vw n c L d M e f S g T Pu Pl) : n ≤ 8 := by rw [← vushI_n h.u]; exact ku_8 h.ku h.u.srt
theorem vw_e (h : U.Vw n c L d M e f S g T Pu Pl) : e ≤ 32 := by rw [← vlshI_n h.l]; exact li_32 h.li h.l.srt
structure U.Ord (a b a' b' x y x' y' : Int) : Prop where
  out : (U.num a' b' < U.num a b ∧ x = a' ∧ y = b' ∧ x' = a ∧ y' = b) ∨ (¬ U.num a' b' < U.num a b ∧ x = a ∧ y = b ∧ x' = a' ∧ y' = b')
structure U.mayL (Pu : VUP) (a b a' b' : Int) : Prop where
  ne : ¬ (a = a' ∧ b = b')
  u : U.Upp Pu a b
  u' : U.Upp Pu a' b'
theorem ord_may {a b a' b' x y x' y' : Int} (h : U.mayL Pu a b a' b') (ho : U.Ord a b a' b' x y x' y') : U.Upp Pu x y ∧ U.Upp Pu x' y' ∧ U.num x y < U.num x' y' := by
  have hne : U.num a b ≠ U.num a' b' := fun he => h.ne (num_inj h.u.out.1 h.u'.out.1 he)
  rcases ho.out with ⟨h1, rfl, rfl, rfl, rfl⟩ | ⟨h1, rfl, rfl, rfl, rfl⟩
  · exact ⟨h.u', h.u, h1⟩
  · exact ⟨h.u, h.u', by omega⟩
theorem li_again {a b a' b' x y x' y' t now : Int} {Pl' : VLP} (h : U.LI Pu Pl) (hm : U.mayL Pu a b a' b') (ho : U.Ord a b a' b' x y x' y') (hE : (U.num x y, (⟨x, y, x', y', t⟩ : VLv)) ∈ Pl) (hp : U.vlPut Pl (U.num x y) ⟨x, y, x', y', now⟩ Pl') : U.LI Pu Pl' := by
  obtain ⟨h1, h2, h3⟩ := ord_may hm ho
  have old : ∀ k v, (k, v) ∈ Pl' → ∃ v', (k, v') ∈ Pl ∧ v.v0 = v'.v0 ∧ v.v1 = v'.v1 ∧ v.v2 = v'.v2 ∧ v.v3 = v'.v3 := fun k v hx => by
    rcases (hp.mem k v).1 hx with ⟨rfl, rfl⟩ | ⟨hx, _⟩
    · exact ⟨_, hE, rfl, rfl, rfl, rfl⟩
    · exact ⟨v, hx, rfl, rfl, rfl, rfl⟩
  refine ⟨fun k v hx => ?_, fun k v k' v' hx hx' hne => ?_⟩
  · obtain ⟨w, hw, e0, e1, e2, e3⟩ := old k v hx
    rw [e0, e1, e2, e3]; exact h.wf k w hw
  · obtain ⟨w, hw, e0, e1, e2, e3⟩ := old k v hx
    obtain ⟨w', hw', f0, f1, f2, f3⟩ := old k' v' hx'
    rw [e2, e3, f2, f3]; exact h.ap k w k' w' hw hw' hne
theorem end_no {v0 v1 v2 v3 a b : Int} (g : U.Gd a b) (g0 : U.Gd v0 v1) (g2 : U.Gd v2 v3) (h : ¬ U.End v0 v1 v2 v3 a b) : U.num a b ≠ U.num v0 v1 ∧ U.num a b ≠ U.num v2 v3 :=
  ⟨fun e => h ⟨.inl (num_inj g g0 e)⟩, fun e => h ⟨.inr (num_inj g g2 e)⟩⟩
theorem rest_end {a b a' b' : Int} (h : U.LI Pu Pl) (hm : U.mayL Pu a b a' b') {k : Int} {v : VLv} (hx : (k, v) ∈ U.rest (U.fEnd a b a' b') Pl) : (U.num a b ≠ k ∧ U.num a b ≠ U.num v.v2 v.v3) ∧ U.num a' b' ≠ k ∧ U.num a' b' ≠ U.num v.v2 v.v3 := by
  obtain ⟨h1, h2⟩ := rest_mem.1 hx
  obtain ⟨e, u0, u2, _⟩ := h.wf k v h1
  have : ¬ (U.End v.v0 v.v1 v.v2 v.v3 a b ∨ U.End v.v0 v.v1 v.v2 v.v3 a' b') := fun hy => by
    have := dec_t hy
    unfold U.fEnd at h2
    rw [this] at h2; cases h2
  have g1 := end_no hm.u.out.1 u0.out.1 u2.out.1 fun hy => this (.inl hy)
  have g2 := end_no hm.u'.out.1 u0.out.1 u2.out.1 fun hy => this (.inr hy)
  rw [e]; exact ⟨g1, g2⟩
theorem li_new {a b a' b' x y x' y' now : Int} {Pl' : VLP} (h : U.LI Pu Pl) (hm : U.mayL Pu a b a' b') (ho : U.Ord a b a' b' x y x' y') (hp : U.vlPut (U.rest (U.fEnd a b a' b') Pl) (U.num x y) ⟨x, y, x', y', now⟩ Pl') : U.LI Pu Pl' := by
  obtain ⟨h1, h2, h3⟩ := ord_may hm ho
  have hr : ∀ k v, (k, v) ∈ U.rest (U.fEnd a b a' b') Pl → (U.num x y ≠ k ∧ U.num x y ≠ U.num v.v2 v.v3) ∧ U.num x' y' ≠ k ∧ U.num x' y' ≠ U.num v.v2 v.v3 := fun k v hx => by
    have := rest_end h hm hx
    rcases ho.out with ⟨_, rfl, rfl, rfl, rfl⟩ | ⟨_, rfl, rfl, rfl, rfl⟩
    · exact ⟨this.2, this.1⟩
    · exact this
  have hsub : ∀ p ∈ U.rest (U.fEnd a b a' b') Pl, p ∈ Pl := fun p hx => (rest_mem.1 hx).1
  refine ⟨fun k v hx => ?_, fun k v k' v' hx hx' hne => ?_⟩
  · rcases (hp.mem k v).1 hx with ⟨rfl, rfl⟩ | ⟨hx, _⟩
    · exact ⟨rfl, h1, h2, h3⟩
    · exact h.wf k v (hsub _ hx)
  · rcases (hp.mem k v).1 hx with ⟨rfl, rfl⟩ | ⟨hx, hk⟩ <;> rcases (hp.mem k' v').1 hx' with ⟨rfl, rfl⟩ | ⟨hx', hk'⟩
    · exact absurd rfl hne
    · have := hr k' v' hx'
      exact ⟨this.2.2, this.1.2⟩
    · have := hr k v hx
      exact ⟨fun e => this.2.2 e.symm, fun e => this.2.1 e.symm⟩
    · exact h.ap k v k' v' (hsub _ hx) (hsub _ hx') hne
theorem li_room {a b a' b' x y x' y' : Int} (h : U.LI Pu Pl) (hs : U.vlSrt Pl) (hm : U.mayL Pu a b a' b') : U.vlRoom (U.rest (U.fEnd a b a' b') Pl) (U.num x y) 32 := by
  refine ⟨.inr ?_⟩
  have hne : U.num a b ≠ U.num a' b' := fun he => hm.ne (num_inj hm.u.out.1 hm.u'.out.1 he)
  have := li_len (li_sub h (Pl' := U.rest (U.fEnd a b a' b') Pl) fun p hx => (rest_mem.1 hx).1) (rest_srt hs) [U.num a b, U.num a' b'] (by simp [hne]) (fun z hz => by
    rcases List.mem_cons.1 hz with rfl | hz
    · exact gd_num hm.u.out.1
    · rcases List.mem_cons.1 hz with rfl | hz
      · exact gd_num hm.u'.out.1
      · cases hz) (fun z hz k v hx => by
    have := rest_end h hm hx
    rcases List.mem_cons.1 hz with rfl | hz
    · exact this.1
    · rcases List.mem_cons.1 hz with rfl | hz
      · exact this.2
      · cases hz)
  simp at this
  omega
end
end Go.Proofs.Ytfhgnngdbbgogaa
end
section
set_option linter.unusedVariables false
set_option linter.unusedSimpArgs false
set_option maxRecDepth 10000
namespace Go.Proofs.Ytfhgnngdbbgogaa
open Go Reck Ost
theorem rest_le {F : Int × VLv → Bool} {P P' : VLP} {e e' : Nat} (hp : P.length = e) (he : e ≤ 100000) (h1 : e' = U.vllen P') (h2 : P' = U.rest F P) : e' ≤ 100000 := by
  have := List.length_filter_le (fun p => !F p) P
  rw [h1, h2]
  unfold U.vllen U.rest
  omega
theorem known_mem {P : VLP} {k v0 v1 v2 v3 v4 x y x' y' : Int} (h : U.vlHasE P k v0 v1 v2 v3 v4) (e : (v0 = x ∧ v1 = y ∧ True) ∧ (v2 = x' ∧ v3 = y' ∧ True) ∧ True) : (k, (⟨x, y, x', y', v4⟩ : VLv)) ∈ P := by
  obtain ⟨⟨rfl, rfl, _⟩, ⟨rfl, rfl, _⟩, _⟩ := e
  exact h.out
theorem unk1 {P : VLP} {k x y x' y' : Int} (h : ¬ U.vlHasK P k) : ∀ t, ¬ (k, (⟨x, y, x', y', t⟩ : VLv)) ∈ P := fun t ht => h ⟨_, ht⟩
theorem unk2 {P : VLP} {k v0 v1 v2 v3 v4 x y x' y' : Int} (hs : U.vlSrt P) (h : U.vlHasE P k v0 v1 v2 v3 v4) (e : ¬ ((v0 = x ∧ v1 = y ∧ True) ∧ (v2 = x' ∧ v3 = y' ∧ True) ∧ True)) : ∀ t, ¬ (k, (⟨x, y, x', y', t⟩ : VLv)) ∈ P := fun t ht => by
  have := vlone hs h.out ht
  simp only [VLv.mk.injEq] at this
  exact e ⟨⟨this.1, this.2.1, trivial⟩, ⟨this.2.2.1, this.2.2.2.1, trivial⟩, trivial⟩
def vwA (n c : Nat) (L : Rws) (d : Nat) (M : Rws) (m : Int) (e f : Nat) (S : Rws) (g : Nat) (T : Rws) (k : Int) (O : Rws) (qc : Nat) : St := ⟨[vwB, vuB (rslC ⟨0, 1, 0, n, c⟩) (rslC ⟨1, 1, 0, n, d⟩) m, vlB (rslC ⟨2, 1, 0, e, f⟩) (rslC ⟨3, 5, 0, e, g⟩) k], [], 0, [some (vukB L c), some (vuvB M d), some (vlkB S f), some (vlvB T g), some (liB O qc)], 0⟩
def vwM (n c : Nat) (L : Rws) (d : Nat) (M : Rws) (m : Int) (e f : Nat) (S : Rws) (g : Nat) (T : Rws) (k : Int) (O : Rws) (qc : Nat) : St := ⟨[vwB, vuB (rslC ⟨5, 1, 0, n, c⟩) (rslC ⟨6, 1, 0, n, d⟩) m, vlB (rslC ⟨2, 1, 0, e, f⟩) (rslC ⟨3, 5, 0, e, g⟩) k], [], 0, [none, none, some (vlkB S f), some (vlvB T g), some (liB O qc), some (vukB L c), some (vuvB M d)], 0⟩
def vwL (n c : Nat) (L : Rws) (d : Nat) (M : Rws) (m : Int) (e f : Nat) (S : Rws) (g : Nat) (T : Rws) (k : Int) (O : Rws) (qc : Nat) : St := ⟨[vwB, vuB (rslC ⟨0, 1, 0, n, c⟩) (rslC ⟨1, 1, 0, n, d⟩) m, vlB (rslC ⟨5, 1, 0, e, f⟩) (rslC ⟨6, 5, 0, e, g⟩) k], [], 0, [some (vukB L c), some (vuvB M d), none, none, some (liB O qc), some (vlkB S f), some (vlvB T g)], 0⟩
def liA4 (q qc : Nat) : AV := cell (rslC ⟨4, 4, 0, q, qc⟩)
def lbA (q qc : Nat) (b : Bool) : AV := .inr [.inl (rslC ⟨4, 4, 0, q, qc⟩), .inl (.inl (.bool b))]
structure U.badP (sw up : Int) : Prop where
  out : sw < 1 ∨ 8 < sw ∨ up < 0 ∨ 255 < up
section
variable (K : AV → St → Prop) (n c : Nat) (L : Rws) (d : Nat) (M : Rws) (m : Int) (e f : Nat) (S : Rws) (g : Nat) (T : Rws) (k : Int) (Pu : VUP) (Pl : VLP) (h : U.Vw n c L d M e f S g T Pu Pl)
include h
theorem age_run (now most : Int) (hK : ∀ (e' : Nat) (S' T' : Rws) (Pl' : VLP) (O : Rws) (q qc : Nat), Pl' = U.rest (U.fAge now most) Pl → O = U.lks (U.gone (U.fAge now most) Pl) → q = U.vllen (U.gone (U.fAge now most) Pl) → q ≤ qc → U.Vw n c L d M e' f S' g T' Pu Pl' → K (liA4 q qc) (vwA n c L d M m e' f S' g T' k O qc)) :
    runR inv0 tV6 18 [ptr 0 0, xi .i64 now, xi .i64 most] (vwSt n c L d M m e f S g T k) K := by
  rw [age_vc]
  have he := vw_e h
  exact ⟨Pl, ⟨⟨⟨rfl, rfl, rfl⟩, rfl, rfl, rfl⟩, h.l, by omega⟩, fun e' S' T' P' O q qc y1 y2 y3 y4 y5 y6 => hK e' S' T' P' O q qc y2 y4 y5 y6 ⟨h.u, y3, h.ku, li_sub h.li fun p hp => by rw [y2] at hp; exact (rest_mem.1 hp).1⟩⟩
theorem ports_run (sw up : Int) (hm : m = 8) (hA : U.badP sw up → K (liA4 0 0) (vwA n c L d M m e f S g T k [] 0))
    (hK : ¬ U.badP sw up → ∀ (n' c' : Nat) (L' : Rws) (d' : Nat) (M' : Rws) (Pu' : VUP) (e' : Nat) (S' T' : Rws) (Pl' : VLP) (O : Rws) (q qc : Nat), U.vuPut Pu sw ⟨up⟩ Pu' → Pl' = U.rest (U.fBrk Pu') Pl → O = U.lks (U.gone (U.fBrk Pu') Pl) → q = U.vllen (U.gone (U.fBrk Pu') Pl) → q ≤ qc → U.Vw n' c' L' d' M' e' f S' g T' Pu' Pl' → K (liA4 q qc) (vwM n' c' L' d' M' m e' f S' g T' k O qc)) :
    runR inv0 tV6 16 [ptr 0 0, xi .i64 sw, xi .i64 up] (vwSt n c L d M m e f S g T k) K := by
  subst hm
  rw [ports_vc]
  have he := vw_e h
  have hn := vw_n h
  refine ⟨fun g1 => hA ⟨.inl g1⟩, fun g1 => ⟨fun g2 => hA ⟨.inr (.inl g2)⟩, fun g2 => ⟨fun g3 => hA ⟨.inr (.inr (.inl g3))⟩, fun g3 => ⟨fun g4 => hA ⟨.inr (.inr (.inr g4))⟩, fun g4 => ⟨Pu, ⟨⟨rfl, rfl, rfl⟩, h.u, by omega⟩, fun hr => ?_, fun hr => absurd (ku_room h.ku h.u.srt ⟨by omega, by omega⟩) hr⟩⟩⟩⟩⟩
  intro L' n' c' M' d' P' y1 y2 y3
  have ku' := ku_put h.ku ⟨by omega, by omega⟩ ⟨by omega, by omega⟩ y2
  have hn' : n' ≤ 8 := by rw [← vushI_n y3]; exact ku_8 ku' y3.srt
  repeat (first | refine ⟨rfl, ?_⟩ | refine ⟨⟨rfl, rfl, rfl⟩, ?_⟩)
  exact ⟨P', Pl, ⟨⟨⟨rfl, rfl, rfl⟩, rfl, rfl, rfl⟩, h.l, by omega, y3, hn', ku'⟩, fun e' S' T' P2 O q qc z1 z2 z3 z4 z5 z6 => hK (fun hb => by have := hb.out; omega) n' c' L' d' M' P' e' S' T' P2 O q qc y2 z2 z4 z5 z6 ⟨y3, z3, ku', by rw [z2]; exact li_brk h.li⟩⟩
theorem dropV_run (sw : Int)
    (hK : ∀ (n' : Nat) (L' M' : Rws) (Pu' : VUP) (e' : Nat) (S' T' : Rws) (Pl' : VLP) (O : Rws) (q qc : Nat), U.vuRm Pu sw Pu' → Pl' = U.rest (U.fBrk Pu') Pl → O = U.lks (U.gone (U.fBrk Pu') Pl) → q = U.vllen (U.gone (U.fBrk Pu') Pl) → q ≤ qc → U.Vw n' c L' d M' e' f S' g T' Pu' Pl' → K (liA4 q qc) (vwM n' c L' d M' m e' f S' g T' k O qc)) :
    runR inv0 tV6 17 [ptr 0 0, xi .i64 sw] (vwSt n c L d M m e f S g T k) K := by
  rw [dropV_vc]
  have he := vw_e h
  have hn := vw_n h
  refine ⟨Pu, ⟨⟨rfl, rfl, rfl⟩, h.u, by omega⟩, fun z L' n' M' P' y1 y2 y3 y4 => ?_⟩
  have ku' := ku_rm h.ku y3
  have hn' : n' ≤ 8 := by rw [← vushI_n y4]; exact ku_8 ku' y4.srt
  repeat (first | refine ⟨rfl, ?_⟩ | refine ⟨⟨rfl, rfl, rfl⟩, ?_⟩)
  exact ⟨P', Pl, ⟨⟨⟨rfl, rfl, rfl⟩, rfl, rfl, rfl⟩, h.l, by omega, y4, hn', ku'⟩, fun e' S' T' P2 O q qc z1 z2 z3 z4 z5 z6 => hK n' L' M' P' e' S' T' P2 O q qc y3 z2 z4 z5 z6 ⟨y4, z3, ku', by rw [z2]; exact li_brk h.li⟩⟩
set_option maxHeartbeats 8000000 in
theorem learn_run (a b a' b' now : Int) (hk : k = 32) (hA : ¬ U.mayL Pu a b a' b' → K (lbA 0 0 false) (vwA n c L d M m e f S g T k [] 0))
    (hB : ∀ x y x' y' t : Int, U.mayL Pu a b a' b' → U.Ord a b a' b' x y x' y' → (U.num x y, (⟨x, y, x', y', t⟩ : VLv)) ∈ Pl → ∀ (e' f' : Nat) (S' : Rws) (g' : Nat) (T' : Rws) (Pl' : VLP), U.vlPut Pl (U.num x y) ⟨x, y, x', y', now⟩ Pl' → U.Vw n c L d M e' f' S' g' T' Pu Pl' → K (lbA 0 0 false) (vwL n c L d M m e' f' S' g' T' k [] 0))
    (hC : ∀ x y x' y' : Int, U.mayL Pu a b a' b' → U.Ord a b a' b' x y x' y' → (∀ t, ¬ (U.num x y, (⟨x, y, x', y', t⟩ : VLv)) ∈ Pl) → ∀ (e' f' : Nat) (S' : Rws) (g' : Nat) (T' : Rws) (Pl' : VLP) (O : Rws) (q qc : Nat), O = U.lks (U.gone (U.fEnd a b a' b') Pl) → q = U.vllen (U.gone (U.fEnd a b a' b') Pl) → q ≤ qc → U.vlPut (U.rest (U.fEnd a b a' b') Pl) (U.num x y) ⟨x, y, x', y', now⟩ Pl' → U.Vw n c L d M e' f' S' g' T' Pu Pl' → K (lbA q qc true) (vwL n c L d M m e' f' S' g' T' k O qc)) :
    runR inv0 tV6 15 [ptr 0 0, plA a b, plA a' b', xi .i64 now] (vwSt n c L d M m e f S g T k) K := by
  subst hk
  rw [learn_vc]
  have he := vw_e h
  have hn := vw_n h
  have he5 : e ≤ 100000 := by omega
  have hpl := vlshI_n h.l
  have hl := h.l
  have hu := h.u
  have hku := h.ku
  refine ⟨fun g0 => hA fun hm => hm.ne ⟨g0.1, g0.2.1⟩, fun g0 => ⟨Pu, ⟨⟨⟨rfl, rfl, rfl⟩, rfl, rfl, rfl⟩, hu, hn, hku⟩, fun g1 => ⟨Pu, ⟨⟨⟨rfl, rfl, rfl⟩, rfl, rfl, rfl⟩, hu, hn, hku⟩, fun g2 => ?_, fun g2 => hA fun hm => g2 hm.u'⟩, fun g1 => hA fun hm => g1 hm.u⟩⟩
  have hm : U.mayL Pu a b a' b' := ⟨fun h => g0 ⟨h.1, h.2, trivial⟩, g1, g2⟩
  have gd := g1.out.1
  have gd' := g2.out.1
  have hB1 : U.num a' b' < U.num a b → ∀ t : Int, (U.num a' b', (⟨a', b', a, b, t⟩ : VLv)) ∈ Pl → ∀ (e' f' : Nat) (S' : Rws) (g' : Nat) (T' : Rws) (Pl' : VLP), U.vlPut Pl (U.num a' b') ⟨a', b', a, b, now⟩ Pl' → U.vlshI e' f' S' g' T' Pl' → K (lbA 0 0 false) (vwL n c L d M m e' f' S' g' T' 32 [] 0) := fun hlt t ht e' f' S' g' T' Pl' y1 y2 => hB _ _ _ _ t hm ⟨.inl ⟨hlt, rfl, rfl, rfl, rfl⟩⟩ ht _ _ _ _ _ _ y1 ⟨hu, y2, hku, li_again h.li hm ⟨.inl ⟨hlt, rfl, rfl, rfl, rfl⟩⟩ ht y1⟩
  have hB2 : ¬ U.num a' b' < U.num a b → ∀ t : Int, (U.num a b, (⟨a, b, a', b', t⟩ : VLv)) ∈ Pl → ∀ (e' f' : Nat) (S' : Rws) (g' : Nat) (T' : Rws) (Pl' : VLP), U.vlPut Pl (U.num a b) ⟨a, b, a', b', now⟩ Pl' → U.vlshI e' f' S' g' T' Pl' → K (lbA 0 0 false) (vwL n c L d M m e' f' S' g' T' 32 [] 0) := fun hlt t ht e' f' S' g' T' Pl' y1 y2 => hB _ _ _ _ t hm ⟨.inr ⟨hlt, rfl, rfl, rfl, rfl⟩⟩ ht _ _ _ _ _ _ y1 ⟨hu, y2, hku, li_again h.li hm ⟨.inr ⟨hlt, rfl, rfl, rfl, rfl⟩⟩ ht y1⟩
  have hC1 : U.num a' b' < U.num a b → (∀ t, ¬ (U.num a' b', (⟨a', b', a, b, t⟩ : VLv)) ∈ Pl) → ∀ (e' f' : Nat) (S' : Rws) (g' : Nat) (T' : Rws) (P2 Pl' : VLP) (O : Rws) (q qc : Nat), P2 = U.rest (U.fEnd a b a' b') Pl → O = U.lks (U.gone (U.fEnd a b a' b') Pl) → q = U.vllen (U.gone (U.fEnd a b a' b') Pl) → q ≤ qc → U.vlPut P2 (U.num a' b') ⟨a', b', a, b, now⟩ Pl' → U.vlshI e' f' S' g' T' Pl' → K (lbA q qc true) (vwL n c L d M m e' f' S' g' T' 32 O qc) := by
    intro hlt ht e' f' S' g' T' P2 Pl' O q qc y0 y1 y2 y3 y4 y5
    subst y0
    exact hC _ _ _ _ hm ⟨.inl ⟨hlt, rfl, rfl, rfl, rfl⟩⟩ ht _ _ _ _ _ _ _ _ _ y1 y2 y3 y4 ⟨hu, y5, hku, li_new h.li hm ⟨.inl ⟨hlt, rfl, rfl, rfl, rfl⟩⟩ y4⟩
  have hC2 : ¬ U.num a' b' < U.num a b → (∀ t, ¬ (U.num a b, (⟨a, b, a', b', t⟩ : VLv)) ∈ Pl) → ∀ (e' f' : Nat) (S' : Rws) (g' : Nat) (T' : Rws) (P2 Pl' : VLP) (O : Rws) (q qc : Nat), P2 = U.rest (U.fEnd a b a' b') Pl → O = U.lks (U.gone (U.fEnd a b a' b') Pl) → q = U.vllen (U.gone (U.fEnd a b a' b') Pl) → q ≤ qc → U.vlPut P2 (U.num a b) ⟨a, b, a', b', now⟩ Pl' → U.vlshI e' f' S' g' T' Pl' → K (lbA q qc true) (vwL n c L d M m e' f' S' g' T' 32 O qc) := by
    intro hlt ht e' f' S' g' T' P2 Pl' O q qc y0 y1 y2 y3 y4 y5
    subst y0
    exact hC _ _ _ _ hm ⟨.inr ⟨hlt, rfl, rfl, rfl, rfl⟩⟩ ht _ _ _ _ _ _ _ _ _ y1 y2 y3 y4 ⟨hu, y5, hku, li_new h.li hm ⟨.inr ⟨hlt, rfl, rfl, rfl, rfl⟩⟩ y4⟩
  have hR : ∀ {x y : Int} {P2 : VLP}, P2 = U.rest (U.fEnd a b a' b') Pl → U.vlRoom P2 (U.num x y) 32 := fun e => by rw [e]; exact li_room (x' := 0) (y' := 0) h.li hl.srt hm
  have hs := hl.srt
  repeat' (first
    | exact rfl | exact trivial | exact gd | exact gd'
    | with_reducible apply And.intro
    | (refine ⟨Pl, ⟨⟨rfl, rfl, rfl⟩, hl, he5⟩, ?_⟩)
    | (refine ⟨Pl, ⟨⟨⟨rfl, rfl, rfl⟩, rfl, rfl, rfl⟩, hl, he5⟩, ?_⟩)
    | (refine ⟨_, ⟨⟨rfl, rfl, rfl⟩, by assumption, rest_le hpl he5 (by assumption) (by assumption)⟩, ?_⟩)
    | (refine fun (z : Int) (hz : z = U.num _ _) => ?_; subst hz)
    | intro _)
  all_goals first
    | exact hB1 (by assumption) _ (known_mem (by assumption) (by assumption)) _ _ _ _ _ _ (by assumption) (by assumption)
    | exact hB2 (by assumption) _ (known_mem (by assumption) (by assumption)) _ _ _ _ _ _ (by assumption) (by assumption)
    | exact absurd (⟨.inl ⟨_, known_mem (by assumption) (by assumption)⟩⟩ : U.vlRoom Pl _ 32) (by assumption)
    | exact absurd (hR (by assumption)) (by assumption)
    | exact hC1 (by assumption) (unk1 (by assumption)) _ _ _ _ _ _ _ _ _ _ (by assumption) (by assumption) (by assumption) (by assumption) (by assumption) (by assumption)
    | exact hC1 (by assumption) (unk2 hs (by assumption) (by assumption)) _ _ _ _ _ _ _ _ _ _ (by assumption) (by assumption) (by assumption) (by assumption) (by assumption) (by assumption)
    | exact hC2 (by assumption) (unk1 (by assumption)) _ _ _ _ _ _ _ _ _ _ (by assumption) (by assumption) (by assumption) (by assumption) (by assumption) (by assumption)
    | exact hC2 (by assumption) (unk2 hs (by assumption) (by assumption)) _ _ _ _ _ _ _ _ _ _ (by assumption) (by assumption) (by assumption) (by assumption) (by assumption) (by assumption)
    | done
end
end Go.Proofs.Ytfhgnngdbbgogaa
end
section
namespace Go.Proofs.Ytfhgnngdbbgogaa
open Go Reck Ost
set_option linter.unusedVariables false
set_option maxRecDepth 100000
def pAge : Pat := fun args σ => match args with
  | [.inl (.inl (.inr (.inl (0, 0)))), x, y] => match aInt x, aInt y, vwC σ with
    | some now, some most, some (n, c, L, d, M, m, e, f, S, g, T, k) => some fun K => ∃ Pu : VUP, ∃ Pl : VLP, (vwD σ ∧ U.Vw n c L d M e f S g T Pu Pl) ∧ ∀ (e' : Nat) (S' T' : Rws) (Pl' : VLP) (O : Rws) (q qc : Nat), Pl' = U.rest (U.fAge now most) Pl → O = U.lks (U.gone (U.fAge now most) Pl) → q = U.vllen (U.gone (U.fAge now most) Pl) → q ≤ qc → U.Vw n c L d M e' f S' g T' Pu Pl' → K (liA4 q qc) (vwA n c L d M m e' f S' g T' k O qc)
    | _, _, _ => none
  | _ => none
theorem pAge_ok : PatOk 18 pAge := by
  intro tm σ C h K hK w0 e w hk vs hvs
  unfold pAge at h
  split at h
  · split at h
    · rename_i hx hy hσ
      simp only [Option.some.injEq] at h; subst h
      obtain ⟨Pu, Pl, ⟨hd, h1⟩, h2⟩ := hK
      obtain rfl := vwC_eq hσ hd
      obtain ⟨x, y, z, rfl, q1, q2, q3⟩ := threes hvs
      exact knownC noOv names (conOk_ofR tV6_ok) (age_run K _ _ _ _ _ _ _ _ _ _ _ _ Pu Pl h1 _ _ h2) w0 e w hk _ (map3 q1 (as_aInt hx q2) (as_aInt hy q3))
    · cases h
  · cases h
def pPorts : Pat := fun args σ => match args with
  | [.inl (.inl (.inr (.inl (0, 0)))), x, y] => match aInt x, aInt y, vwC σ with
    | some sw, some up, some (n, c, L, d, M, m, e, f, S, g, T, k) => some fun K => ∃ Pu : VUP, ∃ Pl : VLP, (vwD σ ∧ U.Vw n c L d M e f S g T Pu Pl ∧ m = 8) ∧ (U.badP sw up → K (liA4 0 0) (vwA n c L d M m e f S g T k [] 0)) ∧ (¬ U.badP sw up → ∀ (n' c' : Nat) (L' : Rws) (d' : Nat) (M' : Rws) (Pu' : VUP) (e' : Nat) (S' T' : Rws) (Pl' : VLP) (O : Rws) (q qc : Nat), U.vuPut Pu sw ⟨up⟩ Pu' → Pl' = U.rest (U.fBrk Pu') Pl → O = U.lks (U.gone (U.fBrk Pu') Pl) → q = U.vllen (U.gone (U.fBrk Pu') Pl) → q ≤ qc → U.Vw n' c' L' d' M' e' f S' g T' Pu' Pl' → K (liA4 q qc) (vwM n' c' L' d' M' m e' f S' g T' k O qc))
    | _, _, _ => none
  | _ => none
theorem pPorts_ok : PatOk 16 pPorts := by
  intro tm σ C h K hK w0 e w hk vs hvs
  unfold pPorts at h
  split at h
  · split at h
    · rename_i hx hy hσ
      simp only [Option.some.injEq] at h; subst h
      obtain ⟨Pu, Pl, ⟨hd, h1, h4⟩, h2, h3⟩ := hK
      obtain rfl := vwC_eq hσ hd
      obtain ⟨x, y, z, rfl, q1, q2, q3⟩ := threes hvs
      exact knownC noOv names (conOk_ofR tV6_ok) (ports_run K _ _ _ _ _ _ _ _ _ _ _ _ Pu Pl h1 _ _ h4 h2 h3) w0 e w hk _ (map3 q1 (as_aInt hx q2) (as_aInt hy q3))
    · cases h
  · cases h
def pDropV : Pat := fun args σ => match args with
  | [.inl (.inl (.inr (.inl (0, 0)))), x] => match aInt x, vwC σ with
    | some sw, some (n, c, L, d, M, m, e, f, S, g, T, k) => some fun K => ∃ Pu : VUP, ∃ Pl : VLP, (vwD σ ∧ U.Vw n c L d M e f S g T Pu Pl) ∧ ∀ (n' : Nat) (L' M' : Rws) (Pu' : VUP) (e' : Nat) (S' T' : Rws) (Pl' : VLP) (O : Rws) (q qc : Nat), U.vuRm Pu sw Pu' → Pl' = U.rest (U.fBrk Pu') Pl → O = U.lks (U.gone (U.fBrk Pu') Pl) → q = U.vllen (U.gone (U.fBrk Pu') Pl) → q ≤ qc → U.Vw n' c L' d M' e' f S' g T' Pu' Pl' → K (liA4 q qc) (vwM n' c L' d M' m e' f S' g T' k O qc)
    | _, _ => none
  | _ => none
theorem pDropV_ok : PatOk 17 pDropV := by
  intro tm σ C h K hK w0 e w hk vs hvs
  unfold pDropV at h
  split at h
  · split at h
    · rename_i hx hσ
      simp only [Option.some.injEq] at h; subst h
      obtain ⟨Pu, Pl, ⟨hd, h1⟩, h2⟩ := hK
      obtain rfl := vwC_eq hσ hd
      obtain ⟨x, y, rfl, q1, q2⟩ := twos hvs
      exact knownC noOv names (conOk_ofR tV6_ok) (dropV_run K _ _ _ _ _ _ _ _ _ _ _ _ Pu Pl h1 _ h2) w0 e w hk _ (map2 q1 (as_aInt hx q2))
    · cases h
  · cases h
theorem fours {e : Env} {x y z u : AV} {vs : List Value} (h : [x, y, z, u].map (Reck.av e) = vs.map some) : ∃ a b c d, vs = [a, b, c, d] ∧ Reck.av e x = some a ∧ Reck.av e y = some b ∧ Reck.av e z = some c ∧ Reck.av e u = some d := by
  match vs, map_len h with
  | [a, b, c, d], _ => simp at h; exact ⟨a, b, c, d, rfl, h.1, h.2.1, h.2.2.1, h.2.2.2⟩
theorem four_map {e : Env} {x y z u : AV} {a b c d : Value} (h1 : Reck.av e x = some a) (h2 : Reck.av e y = some b) (h3 : Reck.av e z = some c) (h4 : Reck.av e u = some d) : [x, y, z, u].map (Reck.av e) = [a, b, c, d].map some := by
  rw [List.map_cons, List.map_cons, List.map_cons, List.map_cons, List.map_nil, h1, h2, h3, h4]; rfl
def pLearn : Pat := fun args σ => match args with
  | [.inl (.inl (.inr (.inl (0, 0)))), x, y, z] => match aPl x, aPl y, aInt z, vwC σ with
    | some (a, b), some (a', b'), some now, some (n, c, L, d, M, m, e, f, S, g, T, k) => some fun K => ∃ Pu : VUP, ∃ Pl : VLP, (vwD σ ∧ U.Vw n c L d M e f S g T Pu Pl ∧ k = 32) ∧ (¬ U.mayL Pu a b a' b' → K (lbA 0 0 false) (vwA n c L d M m e f S g T k [] 0)) ∧
      (∀ x y x' y' t : Int, U.mayL Pu a b a' b' → U.Ord a b a' b' x y x' y' → (U.num x y, (⟨x, y, x', y', t⟩ : VLv)) ∈ Pl → ∀ (e' f' : Nat) (S' : Rws) (g' : Nat) (T' : Rws) (Pl' : VLP), U.vlPut Pl (U.num x y) ⟨x, y, x', y', now⟩ Pl' → U.Vw n c L d M e' f' S' g' T' Pu Pl' → K (lbA 0 0 false) (vwL n c L d M m e' f' S' g' T' k [] 0)) ∧
      (∀ x y x' y' : Int, U.mayL Pu a b a' b' → U.Ord a b a' b' x y x' y' → (∀ t, ¬ (U.num x y, (⟨x, y, x', y', t⟩ : VLv)) ∈ Pl) → ∀ (e' f' : Nat) (S' : Rws) (g' : Nat) (T' : Rws) (Pl' : VLP) (O : Rws) (q qc : Nat), O = U.lks (U.gone (U.fEnd a b a' b') Pl) → q = U.vllen (U.gone (U.fEnd a b a' b') Pl) → q ≤ qc → U.vlPut (U.rest (U.fEnd a b a' b') Pl) (U.num x y) ⟨x, y, x', y', now⟩ Pl' → U.Vw n c L d M e' f' S' g' T' Pu Pl' → K (lbA q qc true) (vwL n c L d M m e' f' S' g' T' k O qc))
    | _, _, _, _ => none
  | _ => none
theorem pLearn_ok : PatOk 15 pLearn := by
  intro tm σ C h K hK w0 e w hk vs hvs
  unfold pLearn at h
  split at h
  · split at h
    · rename_i hx hy hz hσ
      simp only [Option.some.injEq] at h; subst h
      obtain ⟨Pu, Pl, ⟨hd, h1, h5⟩, h2, h3, h4⟩ := hK
      obtain rfl := vwC_eq hσ hd
      obtain ⟨x, y, z, u, rfl, q1, q2, q3, q4⟩ := fours hvs
      exact knownC noOv names (conOk_ofR tV6_ok) (learn_run K _ _ _ _ _ _ _ _ _ _ _ _ Pu Pl h1 _ _ _ _ _ h5 h2 h3 h4) w0 e w hk _ (four_map q1 (aPl_av hx q2) (aPl_av hy q3) (as_aInt hz q4))
    · cases h
  · cases h
def tV9 : Tbl := tblOr (tblIf 18 pAge) (tblOr (tblIf 16 pPorts) (tblOr (tblIf 17 pDropV) (tblOr (tblIf 15 pLearn) tV6)))
theorem tV9_ok : TblOk Try.prog tV9 := tblOr_ok (tblIf_ok pAge_ok) (tblOr_ok (tblIf_ok pPorts_ok) (tblOr_ok (tblIf_ok pDropV_ok) (tblOr_ok (tblIf_ok pLearn_ok) tV6_ok)))
theorem links_vc (K:AV→St→Prop) (n c:Nat) (L:Rws) (d:Nat) (M:Rws) (m:Int) (e f:Nat) (S:Rws) (g:Nat) (T:Rws) (k:Int):(runR inv0 tV9 11 [ptr 0 0] (vwSt n c L d M m e f S g T k) K)=(∃ (y0:VLP),((f=f∧g=g∧e=e)∧U.vlshI e f S g T y0)∧∀ (L'1:Rws) (n'2 c'3:Nat),n'2=e→n'2≤c'3→L'1=U.vlvs y0→∃ (y4:VLP),(c'3=c'3∧L'1=U.vlvs y4∧n'2=U.vllen y4∧n'2≤100000)∧∀ (O5:Rws) (q6 c'7:Nat),O5=U.lks y4→q6=n'2→q6≤c'7→K (Sum.inl (Sum.inl (rslC ⟨4,4,0,q6,c'7⟩))) ⟨[vwB,vuB (rslC ⟨0,1,0,n,c⟩) (rslC ⟨1,1,0,n,d⟩) m,vlB (rslC ⟨2,1,0,e,f⟩) (rslC ⟨3,5,0,e,g⟩) k],[],0,[some (vukB L c),some (vukB M d),some (vukB S f),some (vlvB T g),some (liB O5 c'7)],0⟩) := by kernel_rfl
theorem awake21_vc (K:AV→St→Prop):(runR inv0 tV9 10 [] emptySt K)=(∃ (y0:VUP),∃ (y1:VLP),((((0:Nat)=0∧(0:Nat)=0∧(0:Nat)=0)∧(0:Nat)=0∧(0:Nat)=0∧(0:Nat)=0)∧U.Vw (0:Nat) (0:Nat) U.nilL (0:Nat) U.nilL (0:Nat) (0:Nat) U.nilL (0:Nat) U.nilL y0 y1∧(8:Int)=8)∧(U.badP (1:Int) (3:Int)→∃ (y2:VUP),∃ (y3:VLP),((((0:Nat)=0∧(0:Nat)=0∧(0:Nat)=0)∧(0:Nat)=0∧(0:Nat)=0∧(0:Nat)=0)∧U.Vw (0:Nat) (0:Nat) U.nilL (0:Nat) U.nilL (0:Nat) (0:Nat) U.nilL (0:Nat) U.nilL y2 y3∧(8:Int)=8)∧(U.badP (2:Int) (1:Int)→∃ (y4:VUP),∃ (y5:VLP),((((0:Nat)=0∧(0:Nat)=0∧(0:Nat)=0)∧(0:Nat)=0∧(0:Nat)=0∧(0:Nat)=0)∧U.Vw (0:Nat) (0:Nat) U.nilL (0:Nat) U.nilL (0:Nat) (0:Nat) U.nilL (0:Nat) U.nilL y4 y5∧(32:Int)=32)∧(¬U.mayL y4 (2:Int) (1:Int) (1:Int) (2:Int)→∃ (y6:VLP),(((0:Nat)=0∧(0:Nat)=0∧(0:Nat)=0)∧U.vlshI (0:Nat) (0:Nat) U.nilL (0:Nat) U.nilL y6)∧∀ (L'7:Rws) (n'8 c'9:Nat),n'8=0→n'8≤c'9→L'7=U.vlvs y6→∃ (y10:VLP),(c'9=c'9∧L'7=U.vlvs y10∧n'8=U.vllen y10∧n'8≤100000)∧∀ (O11:Rws) (q12 c'13:Nat),O11=U.lks y10→q12=n'8→q12≤c'13→∀ (z14:Int),z14=0→(z14=0→K (lit (.bool false)) ⟨[],[],0,[],0⟩)∧(¬z14=0→K (lit (.bool false)) ⟨[],[],0,[],0⟩))∧(∀ (x15 y16 x'17 y'18 t19:Int),U.mayL y4 (2:Int) (1:Int) (1:Int) (2:Int)→U.Ord (2:Int) (1:Int) (1:Int) (2:Int) x15 y16 x'17 y'18→List.Mem (U.num x15 y16,{ v0 := x15,v1 := y16,v2 := x'17,v3 := y'18,v4 := t19 }) y5→∀ (e'20 f'21:Nat) (S'22:Rws) (g'23:Nat) (T'24:Rws) (Pl'25:VLP),U.vlPut y5 (U.num x15 y16) { v0 := x15,v1 := y16,v2 := x'17,v3 := y'18,v4 := (5:Int) } Pl'25→U.Vw (0:Nat) (0:Nat) U.nilL (0:Nat) U.nilL e'20 f'21 S'22 g'23 T'24 y4 Pl'25→∃ (y26:VLP),((f'21=f'21∧g'23=g'23∧e'20=e'20)∧U.vlshI e'20 f'21 S'22 g'23 T'24 y26)∧∀ (L'27:Rws) (n'28 c'29:Nat),n'28=e'20→n'28≤c'29→L'27=U.vlvs y26→∃ (y30:VLP),(c'29=c'29∧L'27=U.vlvs y30∧n'28=U.vllen y30∧n'28≤100000)∧∀ (O31:Rws) (q32 c'33:Nat),O31=U.lks y30→q32=n'28→q32≤c'33→∀ (z34:Int),z34=0→(z34=0→K (lit (.bool false)) ⟨[],[],0,[],0⟩)∧(¬z34=0→K (lit (.bool false)) ⟨[],[],0,[],0⟩))∧∀ (x35 y36 x'37 y'38:Int),U.mayL y4 (2:Int) (1:Int) (1:Int) (2:Int)→U.Ord (2:Int) (1:Int) (1:Int) (2:Int) x35 y36 x'37 y'38→(∀ (t39:Int),¬List.Mem (U.num x35 y36,{ v0 := x35,v1 := y36,v2 := x'37,v3 := y'38,v4 := t39 }) y5)→∀ (e'40 f'41:Nat) (S'42:Rws) (g'43:Nat) (T'44:Rws) (Pl'45:VLP) (O46:Rws) (q47 qc48:Nat),O46=U.lks (U.gone (U.fEnd (2:Int) (1:Int) (1:Int) (2:Int)) y5)→q47=U.vllen (U.gone (U.fEnd (2:Int) (1:Int) (1:Int) (2:Int)) y5)→q47≤qc48→U.vlPut (U.rest (U.fEnd (2:Int) (1:Int) (1:Int) (2:Int)) y5) (U.num x35 y36) { v0 := x35,v1 := y36,v2 := x'37,v3 := y'38,v4 := (5:Int) } Pl'45→U.Vw (0:Nat) (0:Nat) U.nilL (0:Nat) U.nilL e'40 f'41 S'42 g'43 T'44 y4 Pl'45→∃ (y49:VLP),((f'41=f'41∧g'43=g'43∧e'40=e'40)∧U.vlshI e'40 f'41 S'42 g'43 T'44 y49)∧∀ (L'50:Rws) (n'51 c'52:Nat),n'51=e'40→n'51≤c'52→L'50=U.vlvs y49→∃ (y53:VLP),(c'52=c'52∧L'50=U.vlvs y53∧n'51=U.vllen y53∧n'51≤100000)∧∀ (O54:Rws) (q55 c'56:Nat),O54=U.lks y53→q55=n'51→q55≤c'56→∀ (z57:Int),z57=(↑q47:Int)→(z57=0→∀ (z58:Int),z58=(↑q55:Int)→(z58=1→((0:Int)≤0∧(0:Int)<(↑q55:Int))∧∀ (j59:Nat),(↑j59:Int)=(↑((0:Nat)):Int) + (0:Int)→j59<List.length O54∧∀ (z60:Int),z60=U.fi O54 j59 ((0:Nat) + (0:Nat) + (0:Nat))→(z60=1→∃ (y61:VUP),∃ (y62:VLP),((((0:Nat)=0∧(0:Nat)=0∧(0:Nat)=0)∧f'41=f'41∧g'43=g'43∧e'40=e'40)∧U.vushI (0:Nat) (0:Nat) U.nilL (0:Nat) U.nilL y61∧(0:Nat)≤8∧U.KU y61∧U.vlshI e'40 f'41 S'42 g'43 T'44 y62∧e'40≤100000)∧(U.Edg y61 y62 (1:Int) (1:Int)→∃ (y63:VUP),∃ (y64:VLP),((((0:Nat)=0∧(0:Nat)=0∧(0:Nat)=0)∧f'41=f'41∧g'43=g'43∧e'40=e'40)∧U.vushI (0:Nat) (0:Nat) U.nilL (0:Nat) U.nilL y63∧(0:Nat)≤8∧U.KU y63∧U.vlshI e'40 f'41 S'42 g'43 T'44 y64∧e'40≤100000)∧(U.Edg y63 y64 (1:Int) (2:Int)→K (lit (.bool false)) ⟨[],[],0,[],0⟩)∧(¬U.Edg y63 y64 (1:Int) (2:Int)→K (lit (.bool true)) ⟨[],[],0,[],0⟩))∧(¬U.Edg y61 y62 (1:Int) (1:Int)→K (lit (.bool false)) ⟨[],[],0,[],0⟩))∧(¬z60=1→K (lit (.bool false)) ⟨[],[],0,[],0⟩))∧(¬z58=1→K (lit (.bool false)) ⟨[],[],0,[],0⟩))∧(¬z57=0→K (lit (.bool false)) ⟨[],[],0,[],0⟩))∧(¬U.badP (2:Int) (1:Int)→∀ (n'65 c'66:Nat) (L'67:Rws) (d'68:Nat) (M'69:Rws) (Pu'70:VUP) (e'71:Nat) (S'72 T'73:Rws) (Pl'74:VLP) (O75:Rws) (q76 qc77:Nat),U.vuPut y2 (2:Int) { v0 := (1:Int) } Pu'70→Pl'74=U.rest (U.fBrk Pu'70) y3→O75=U.lks (U.gone (U.fBrk Pu'70) y3)→q76=U.vllen (U.gone (U.fBrk Pu'70) y3)→q76≤qc77→U.Vw n'65 c'66 L'67 d'68 M'69 e'71 (0:Nat) S'72 (0:Nat) T'73 Pu'70 Pl'74→∃ (y78:VUP),∃ (y79:VLP),(((c'66=c'66∧d'68=d'68∧n'65=n'65)∧(0:Nat)=0∧(0:Nat)=0∧e'71=e'71)∧U.Vw n'65 c'66 L'67 d'68 M'69 e'71 (0:Nat) S'72 (0:Nat) T'73 y78 y79∧(32:Int)=32)∧(¬U.mayL y78 (2:Int) (1:Int) (1:Int) (2:Int)→∃ (y80:VLP),(((0:Nat)=0∧(0:Nat)=0∧e'71=e'71)∧U.vlshI e'71 (0:Nat) S'72 (0:Nat) T'73 y80)∧∀ (L'81:Rws) (n'82 c'83:Nat),n'82=e'71→n'82≤c'83→L'81=U.vlvs y80→∃ (y84:VLP),(c'83=c'83∧L'81=U.vlvs y84∧n'82=U.vllen y84∧n'82≤100000)∧∀ (O85:Rws) (q86 c'87:Nat),O85=U.lks y84→q86=n'82→q86≤c'87→∀ (z88:Int),z88=0→(z88=0→K (lit (.bool false)) ⟨[],[],0,[],0⟩)∧(¬z88=0→K (lit (.bool false)) ⟨[],[],0,[],0⟩))∧(∀ (x89 y90 x'91 y'92 t93:Int),U.mayL y78 (2:Int) (1:Int) (1:Int) (2:Int)→U.Ord (2:Int) (1:Int) (1:Int) (2:Int) x89 y90 x'91 y'92→List.Mem (U.num x89 y90,{ v0 := x89,v1 := y90,v2 := x'91,v3 := y'92,v4 := t93 }) y79→∀ (e'94 f'95:Nat) (S'96:Rws) (g'97:Nat) (T'98:Rws) (Pl'99:VLP),U.vlPut y79 (U.num x89 y90) { v0 := x89,v1 := y90,v2 := x'91,v3 := y'92,v4 := (5:Int) } Pl'99→U.Vw n'65 c'66 L'67 d'68 M'69 e'94 f'95 S'96 g'97 T'98 y78 Pl'99→∃ (y100:VLP),((f'95=f'95∧g'97=g'97∧e'94=e'94)∧U.vlshI e'94 f'95 S'96 g'97 T'98 y100)∧∀ (L'101:Rws) (n'102 c'103:Nat),n'102=e'94→n'102≤c'103→L'101=U.vlvs y100→∃ (y104:VLP),(c'103=c'103∧L'101=U.vlvs y104∧n'102=U.vllen y104∧n'102≤100000)∧∀ (O105:Rws) (q106 c'107:Nat),O105=U.lks y104→q106=n'102→q106≤c'107→∀ (z108:Int),z108=0→(z108=0→K (lit (.bool false)) ⟨[],[],0,[],0⟩)∧(¬z108=0→K (lit (.bool false)) ⟨[],[],0,[],0⟩))∧∀ (x109 y110 x'111 y'112:Int),U.mayL y78 (2:Int) (1:Int) (1:Int) (2:Int)→U.Ord (2:Int) (1:Int) (1:Int) (2:Int) x109 y110 x'111 y'112→(∀ (t113:Int),¬List.Mem (U.num x109 y110,{ v0 := x109,v1 := y110,v2 := x'111,v3 := y'112,v4 := t113 }) y79)→∀ (e'114 f'115:Nat) (S'116:Rws) (g'117:Nat) (T'118:Rws) (Pl'119:VLP) (O120:Rws) (q121 qc122:Nat),O120=U.lks (U.gone (U.fEnd (2:Int) (1:Int) (1:Int) (2:Int)) y79)→q121=U.vllen (U.gone (U.fEnd (2:Int) (1:Int) (1:Int) (2:Int)) y79)→q121≤qc122→U.vlPut (U.rest (U.fEnd (2:Int) (1:Int) (1:Int) (2:Int)) y79) (U.num x109 y110) { v0 := x109,v1 := y110,v2 := x'111,v3 := y'112,v4 := (5:Int) } Pl'119→U.Vw n'65 c'66 L'67 d'68 M'69 e'114 f'115 S'116 g'117 T'118 y78 Pl'119→∃ (y123:VLP),((f'115=f'115∧g'117=g'117∧e'114=e'114)∧U.vlshI e'114 f'115 S'116 g'117 T'118 y123)∧∀ (L'124:Rws) (n'125 c'126:Nat),n'125=e'114→n'125≤c'126→L'124=U.vlvs y123→∃ (y127:VLP),(c'126=c'126∧L'124=U.vlvs y127∧n'125=U.vllen y127∧n'125≤100000)∧∀ (O128:Rws) (q129 c'130:Nat),O128=U.lks y127→q129=n'125→q129≤c'130→∀ (z131:Int),z131=(↑q121:Int)→(z131=0→∀ (z132:Int),z132=(↑q129:Int)→(z132=1→((0:Int)≤0∧(0:Int)<(↑q129:Int))∧∀ (j133:Nat),(↑j133:Int)=(↑((0:Nat)):Int) + (0:Int)→j133<List.length O128∧∀ (z134:Int),z134=U.fi O128 j133 ((0:Nat) + (0:Nat) + (0:Nat))→(z134=1→∃ (y135:VUP),∃ (y136:VLP),(((c'66=c'66∧d'68=d'68∧n'65=n'65)∧f'115=f'115∧g'117=g'117∧e'114=e'114)∧U.vushI n'65 c'66 L'67 d'68 M'69 y135∧n'65≤8∧U.KU y135∧U.vlshI e'114 f'115 S'116 g'117 T'118 y136∧e'114≤100000)∧(U.Edg y135 y136 (1:Int) (1:Int)→∃ (y137:VUP),∃ (y138:VLP),(((c'66=c'66∧d'68=d'68∧n'65=n'65)∧f'115=f'115∧g'117=g'117∧e'114=e'114)∧U.vushI n'65 c'66 L'67 d'68 M'69 y137∧n'65≤8∧U.KU y137∧U.vlshI e'114 f'115 S'116 g'117 T'118 y138∧e'114≤100000)∧(U.Edg y137 y138 (1:Int) (2:Int)→K (lit (.bool false)) ⟨[],[],0,[],0⟩)∧(¬U.Edg y137 y138 (1:Int) (2:Int)→K (lit (.bool true)) ⟨[],[],0,[],0⟩))∧(¬U.Edg y135 y136 (1:Int) (1:Int)→K (lit (.bool false)) ⟨[],[],0,[],0⟩))∧(¬z134=1→K (lit (.bool false)) ⟨[],[],0,[],0⟩))∧(¬z132=1→K (lit (.bool false)) ⟨[],[],0,[],0⟩))∧(¬z131=0→K (lit (.bool false)) ⟨[],[],0,[],0⟩)))∧(¬U.badP (1:Int) (3:Int)→∀ (n'139 c'140:Nat) (L'141:Rws) (d'142:Nat) (M'143:Rws) (Pu'144:VUP) (e'145:Nat) (S'146 T'147:Rws) (Pl'148:VLP) (O149:Rws) (q150 qc151:Nat),U.vuPut y0 (1:Int) { v0 := (3:Int) } Pu'144→Pl'148=U.rest (U.fBrk Pu'144) y1→O149=U.lks (U.gone (U.fBrk Pu'144) y1)→q150=U.vllen (U.gone (U.fBrk Pu'144) y1)→q150≤qc151→U.Vw n'139 c'140 L'141 d'142 M'143 e'145 (0:Nat) S'146 (0:Nat) T'147 Pu'144 Pl'148→∃ (y152:VUP),∃ (y153:VLP),(((c'140=c'140∧d'142=d'142∧n'139=n'139)∧(0:Nat)=0∧(0:Nat)=0∧e'145=e'145)∧U.Vw n'139 c'140 L'141 d'142 M'143 e'145 (0:Nat) S'146 (0:Nat) T'147 y152 y153∧(8:Int)=8)∧(U.badP (2:Int) (1:Int)→∃ (y154:VUP),∃ (y155:VLP),(((c'140=c'140∧d'142=d'142∧n'139=n'139)∧(0:Nat)=0∧(0:Nat)=0∧e'145=e'145)∧U.Vw n'139 c'140 L'141 d'142 M'143 e'145 (0:Nat) S'146 (0:Nat) T'147 y154 y155∧(32:Int)=32)∧(¬U.mayL y154 (2:Int) (1:Int) (1:Int) (2:Int)→∃ (y156:VLP),(((0:Nat)=0∧(0:Nat)=0∧e'145=e'145)∧U.vlshI e'145 (0:Nat) S'146 (0:Nat) T'147 y156)∧∀ (L'157:Rws) (n'158 c'159:Nat),n'158=e'145→n'158≤c'159→L'157=U.vlvs y156→∃ (y160:VLP),(c'159=c'159∧L'157=U.vlvs y160∧n'158=U.vllen y160∧n'158≤100000)∧∀ (O161:Rws) (q162 c'163:Nat),O161=U.lks y160→q162=n'158→q162≤c'163→∀ (z164:Int),z164=0→(z164=0→K (lit (.bool false)) ⟨[],[],0,[],0⟩)∧(¬z164=0→K (lit (.bool false)) ⟨[],[],0,[],0⟩))∧(∀ (x165 y166 x'167 y'168 t169:Int),U.mayL y154 (2:Int) (1:Int) (1:Int) (2:Int)→U.Ord (2:Int) (1:Int) (1:Int) (2:Int) x165 y166 x'167 y'168→List.Mem (U.num x165 y166,{ v0 := x165,v1 := y166,v2 := x'167,v3 := y'168,v4 := t169 }) y155→∀ (e'170 f'171:Nat) (S'172:Rws) (g'173:Nat) (T'174:Rws) (Pl'175:VLP),U.vlPut y155 (U.num x165 y166) { v0 := x165,v1 := y166,v2 := x'167,v3 := y'168,v4 := (5:Int) } Pl'175→U.Vw n'139 c'140 L'141 d'142 M'143 e'170 f'171 S'172 g'173 T'174 y154 Pl'175→∃ (y176:VLP),((f'171=f'171∧g'173=g'173∧e'170=e'170)∧U.vlshI e'170 f'171 S'172 g'173 T'174 y176)∧∀ (L'177:Rws) (n'178 c'179:Nat),n'178=e'170→n'178≤c'179→L'177=U.vlvs y176→∃ (y180:VLP),(c'179=c'179∧L'177=U.vlvs y180∧n'178=U.vllen y180∧n'178≤100000)∧∀ (O181:Rws) (q182 c'183:Nat),O181=U.lks y180→q182=n'178→q182≤c'183→∀ (z184:Int),z184=0→(z184=0→K (lit (.bool false)) ⟨[],[],0,[],0⟩)∧(¬z184=0→K (lit (.bool false)) ⟨[],[],0,[],0⟩))∧∀ (x185 y186 x'187 y'188:Int),U.mayL y154 (2:Int) (1:Int) (1:Int) (2:Int)→U.Ord (2:Int) (1:Int) (1:Int) (2:Int) x185 y186 x'187 y'188→(∀ (t189:Int),¬List.Mem (U.num x185 y186,{ v0 := x185,v1 := y186,v2 := x'187,v3 := y'188,v4 := t189 }) y155)→∀ (e'190 f'191:Nat) (S'192:Rws) (g'193:Nat) (T'194:Rws) (Pl'195:VLP) (O196:Rws) (q197 qc198:Nat),O196=U.lks (U.gone (U.fEnd (2:Int) (1:Int) (1:Int) (2:Int)) y155)→q197=U.vllen (U.gone (U.fEnd (2:Int) (1:Int) (1:Int) (2:Int)) y155)→q197≤qc198→U.vlPut (U.rest (U.fEnd (2:Int) (1:Int) (1:Int) (2:Int)) y155) (U.num x185 y186) { v0 := x185,v1 := y186,v2 := x'187,v3 := y'188,v4 := (5:Int) } Pl'195→U.Vw n'139 c'140 L'141 d'142 M'143 e'190 f'191 S'192 g'193 T'194 y154 Pl'195→∃ (y199:VLP),((f'191=f'191∧g'193=g'193∧e'190=e'190)∧U.vlshI e'190 f'191 S'192 g'193 T'194 y199)∧∀ (L'200:Rws) (n'201 c'202:Nat),n'201=e'190→n'201≤c'202→L'200=U.vlvs y199→∃ (y203:VLP),(c'202=c'202∧L'200=U.vlvs y203∧n'201=U.vllen y203∧n'201≤100000)∧∀ (O204:Rws) (q205 c'206:Nat),O204=U.lks y203→q205=n'201→q205≤c'206→∀ (z207:Int),z207=(↑q197:Int)→(z207=0→∀ (z208:Int),z208=(↑q205:Int)→(z208=1→((0:Int)≤0∧(0:Int)<(↑q205:Int))∧∀ (j209:Nat),(↑j209:Int)=(↑((0:Nat)):Int) + (0:Int)→j209<List.length O204∧∀ (z210:Int),z210=U.fi O204 j209 ((0:Nat) + (0:Nat) + (0:Nat))→(z210=1→∃ (y211:VUP),∃ (y212:VLP),(((c'140=c'140∧d'142=d'142∧n'139=n'139)∧f'191=f'191∧g'193=g'193∧e'190=e'190)∧U.vushI n'139 c'140 L'141 d'142 M'143 y211∧n'139≤8∧U.KU y211∧U.vlshI e'190 f'191 S'192 g'193 T'194 y212∧e'190≤100000)∧(U.Edg y211 y212 (1:Int) (1:Int)→∃ (y213:VUP),∃ (y214:VLP),(((c'140=c'140∧d'142=d'142∧n'139=n'139)∧f'191=f'191∧g'193=g'193∧e'190=e'190)∧U.vushI n'139 c'140 L'141 d'142 M'143 y213∧n'139≤8∧U.KU y213∧U.vlshI e'190 f'191 S'192 g'193 T'194 y214∧e'190≤100000)∧(U.Edg y213 y214 (1:Int) (2:Int)→K (lit (.bool false)) ⟨[],[],0,[],0⟩)∧(¬U.Edg y213 y214 (1:Int) (2:Int)→K (lit (.bool true)) ⟨[],[],0,[],0⟩))∧(¬U.Edg y211 y212 (1:Int) (1:Int)→K (lit (.bool false)) ⟨[],[],0,[],0⟩))∧(¬z210=1→K (lit (.bool false)) ⟨[],[],0,[],0⟩))∧(¬z208=1→K (lit (.bool false)) ⟨[],[],0,[],0⟩))∧(¬z207=0→K (lit (.bool false)) ⟨[],[],0,[],0⟩))∧(¬U.badP (2:Int) (1:Int)→∀ (n'215 c'216:Nat) (L'217:Rws) (d'218:Nat) (M'219:Rws) (Pu'220:VUP) (e'221:Nat) (S'222 T'223:Rws) (Pl'224:VLP) (O225:Rws) (q226 qc227:Nat),U.vuPut y152 (2:Int) { v0 := (1:Int) } Pu'220→Pl'224=U.rest (U.fBrk Pu'220) y153→O225=U.lks (U.gone (U.fBrk Pu'220) y153)→q226=U.vllen (U.gone (U.fBrk Pu'220) y153)→q226≤qc227→U.Vw n'215 c'216 L'217 d'218 M'219 e'221 (0:Nat) S'222 (0:Nat) T'223 Pu'220 Pl'224→∃ (y228:VUP),∃ (y229:VLP),(((c'216=c'216∧d'218=d'218∧n'215=n'215)∧(0:Nat)=0∧(0:Nat)=0∧e'221=e'221)∧U.Vw n'215 c'216 L'217 d'218 M'219 e'221 (0:Nat) S'222 (0:Nat) T'223 y228 y229∧(32:Int)=32)∧(¬U.mayL y228 (2:Int) (1:Int) (1:Int) (2:Int)→∃ (y230:VLP),(((0:Nat)=0∧(0:Nat)=0∧e'221=e'221)∧U.vlshI e'221 (0:Nat) S'222 (0:Nat) T'223 y230)∧∀ (L'231:Rws) (n'232 c'233:Nat),n'232=e'221→n'232≤c'233→L'231=U.vlvs y230→∃ (y234:VLP),(c'233=c'233∧L'231=U.vlvs y234∧n'232=U.vllen y234∧n'232≤100000)∧∀ (O235:Rws) (q236 c'237:Nat),O235=U.lks y234→q236=n'232→q236≤c'237→∀ (z238:Int),z238=0→(z238=0→K (lit (.bool false)) ⟨[],[],0,[],0⟩)∧(¬z238=0→K (lit (.bool false)) ⟨[],[],0,[],0⟩))∧(∀ (x239 y240 x'241 y'242 t243:Int),U.mayL y228 (2:Int) (1:Int) (1:Int) (2:Int)→U.Ord (2:Int) (1:Int) (1:Int) (2:Int) x239 y240 x'241 y'242→List.Mem (U.num x239 y240,{ v0 := x239,v1 := y240,v2 := x'241,v3 := y'242,v4 := t243 }) y229→∀ (e'244 f'245:Nat) (S'246:Rws) (g'247:Nat) (T'248:Rws) (Pl'249:VLP),U.vlPut y229 (U.num x239 y240) { v0 := x239,v1 := y240,v2 := x'241,v3 := y'242,v4 := (5:Int) } Pl'249→U.Vw n'215 c'216 L'217 d'218 M'219 e'244 f'245 S'246 g'247 T'248 y228 Pl'249→∃ (y250:VLP),((f'245=f'245∧g'247=g'247∧e'244=e'244)∧U.vlshI e'244 f'245 S'246 g'247 T'248 y250)∧∀ (L'251:Rws) (n'252 c'253:Nat),n'252=e'244→n'252≤c'253→L'251=U.vlvs y250→∃ (y254:VLP),(c'253=c'253∧L'251=U.vlvs y254∧n'252=U.vllen y254∧n'252≤100000)∧∀ (O255:Rws) (q256 c'257:Nat),O255=U.lks y254→q256=n'252→q256≤c'257→∀ (z258:Int),z258=0→(z258=0→K (lit (.bool false)) ⟨[],[],0,[],0⟩)∧(¬z258=0→K (lit (.bool false)) ⟨[],[],0,[],0⟩))∧∀ (x259 y260 x'261 y'262:Int),U.mayL y228 (2:Int) (1:Int) (1:Int) (2:Int)→U.Ord (2:Int) (1:Int) (1:Int) (2:Int) x259 y260 x'261 y'262→(∀ (t263:Int),¬List.Mem (U.num x259 y260,{ v0 := x259,v1 := y260,v2 := x'261,v3 := y'262,v4 := t263 }) y229)→∀ (e'264 f'265:Nat) (S'266:Rws) (g'267:Nat) (T'268:Rws) (Pl'269:VLP) (O270:Rws) (q271 qc272:Nat),O270=U.lks (U.gone (U.fEnd (2:Int) (1:Int) (1:Int) (2:Int)) y229)→q271=U.vllen (U.gone (U.fEnd (2:Int) (1:Int) (1:Int) (2:Int)) y229)→q271≤qc272→U.vlPut (U.rest (U.fEnd (2:Int) (1:Int) (1:Int) (2:Int)) y229) (U.num x259 y260) { v0 := x259,v1 := y260,v2 := x'261,v3 := y'262,v4 := (5:Int) } Pl'269→U.Vw n'215 c'216 L'217 d'218 M'219 e'264 f'265 S'266 g'267 T'268 y228 Pl'269→∃ (y273:VLP),((f'265=f'265∧g'267=g'267∧e'264=e'264)∧U.vlshI e'264 f'265 S'266 g'267 T'268 y273)∧∀ (L'274:Rws) (n'275 c'276:Nat),n'275=e'264→n'275≤c'276→L'274=U.vlvs y273→∃ (y277:VLP),(c'276=c'276∧L'274=U.vlvs y277∧n'275=U.vllen y277∧n'275≤100000)∧∀ (O278:Rws) (q279 c'280:Nat),O278=U.lks y277→q279=n'275→q279≤c'280→∀ (z281:Int),z281=(↑q271:Int)→(z281=0→∀ (z282:Int),z282=(↑q279:Int)→(z282=1→((0:Int)≤0∧(0:Int)<(↑q279:Int))∧∀ (j283:Nat),(↑j283:Int)=(↑((0:Nat)):Int) + (0:Int)→j283<List.length O278∧∀ (z284:Int),z284=U.fi O278 j283 ((0:Nat) + (0:Nat) + (0:Nat))→(z284=1→∃ (y285:VUP),∃ (y286:VLP),(((c'216=c'216∧d'218=d'218∧n'215=n'215)∧f'265=f'265∧g'267=g'267∧e'264=e'264)∧U.vushI n'215 c'216 L'217 d'218 M'219 y285∧n'215≤8∧U.KU y285∧U.vlshI e'264 f'265 S'266 g'267 T'268 y286∧e'264≤100000)∧(U.Edg y285 y286 (1:Int) (1:Int)→∃ (y287:VUP),∃ (y288:VLP),(((c'216=c'216∧d'218=d'218∧n'215=n'215)∧f'265=f'265∧g'267=g'267∧e'264=e'264)∧U.vushI n'215 c'216 L'217 d'218 M'219 y287∧n'215≤8∧U.KU y287∧U.vlshI e'264 f'265 S'266 g'267 T'268 y288∧e'264≤100000)∧(U.Edg y287 y288 (1:Int) (2:Int)→K (lit (.bool false)) ⟨[],[],0,[],0⟩)∧(¬U.Edg y287 y288 (1:Int) (2:Int)→K (lit (.bool true)) ⟨[],[],0,[],0⟩))∧(¬U.Edg y285 y286 (1:Int) (1:Int)→K (lit (.bool false)) ⟨[],[],0,[],0⟩))∧(¬z284=1→K (lit (.bool false)) ⟨[],[],0,[],0⟩))∧(¬z282=1→K (lit (.bool false)) ⟨[],[],0,[],0⟩))∧(¬z281=0→K (lit (.bool false)) ⟨[],[],0,[],0⟩)))) := by kernel_rfl
end Go.Proofs.Ytfhgnngdbbgogaa
end
