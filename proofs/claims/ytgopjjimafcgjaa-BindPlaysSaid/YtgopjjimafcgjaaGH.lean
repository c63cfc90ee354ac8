/- Parts of a proof, one behind the other: JR3 JR4. No condition. -/
import Derived.Test.YtgopjjimafcgjaaGF
import Derived.Test.YtgopjjimafcgjaaGG
section
namespace Go.Proofs.Ytgopjjimafcgjaa
open Go Reck Ost
set_option linter.unusedVariables false
set_option maxRecDepth 100000
def tJr2 : Tbl := tblOr (tblIf 32 pjpart0) (tblIf 25 pjmay)
theorem tJr2_ok : TblOk Try.prog tJr2 := tblOr_ok (tblIf_ok pjpart0_ok) (tblIf_ok prjmay_ok)
def invJu (Q : JBP) (v : JBv) : InvF := fun c tm σ => match tm.length, firstReg c with
  | 55, some 7 => some (juInv Q v tm σ)
  | _, _ => none
--PLAIN
theorem jrput_vc (K:AV→St→Prop) (Q:JBP) (L:Rws) (n c:Nat) (v0 v1 v2 v3:Int) (v4 v5:List Int) (v6:Int):(runR (invJu Q ⟨v0,v1,v2,v3,v4,v5,v6⟩) tJr2 28 [cell (rslC ⟨0,7,0,n,c⟩),jbA v0 v1 v2 v3 v4 v5 v6] (jrSt L c) K)=((U.jMay ⟨v0,v1,v2,v3,v4,v5,v6⟩→∃ (y0:JBP),(c=c∧U.jRw y0 L n c)∧∀ (G1:Rws) (q2 cg3:Nat) (O4:Rws) (r5 co6:Nat),U.jRw (U.jGone (U.jBar ⟨v0,v1,v2,v3,v4,v5,v6⟩) y0) G1 q2 cg3→U.jRw (U.jRest (U.jBar ⟨v0,v1,v2,v3,v4,v5,v6⟩) y0) O4 r5 co6→∀ (z7:Int),z7=(↑r5:Int)→(∃ (y8:Int × Rws × Nat × Nat),((0:Nat)=0∧q2=q2∧cg3=cg3)∧((0:Nat)=0∧0=y8.2.2.1∧0=y8.2.2.2)∧false=false∧((0:Nat)=0∧r5=r5∧co6=co6)∧z7=z7∧0=y8.1∧v0=v0∧v1=v1∧v2=v2∧v3=v3∧v4=v4∧v5=v5∧v6=v6∧(L=L∧c=c∧false=false)∧(U.nilL=U.nilL∧(0:Nat)=0∧false=false)∧(U.nilL=U.nilL∧(0:Nat)=0∧false=false)∧(G1=G1∧cg3=cg3∧false=false)∧(O4=O4∧co6=co6∧false=false)∧(U.nilL=y8.2.1∧0=y8.2.2.2∧false=false)∧U.juI Q ⟨v0,v1,v2,v3,v4,v5,v6⟩ ((0:Nat)) y8.1 y8.2.1 y8.2.2.1 y8.2.2.2)∧(∀ (x9:Int × Rws × Nat × Nat),U.juI Q ⟨v0,v1,v2,v3,v4,v5,v6⟩ (0:Nat) x9.1 x9.2.1 x9.2.2.1 x9.2.2.2→(x9.1<z7→(0≤x9.1∧x9.1<(↑r5:Int))∧∀ (j10:Nat),(↑j10:Int)=(↑((0:Nat)):Int) + x9.1→j10<List.length O4∧∀ (z11:Int),z11=U.fi O4 j10 ((0:Nat))→∀ (z12:Int),z12=U.fi O4 j10 ((0:Nat) + (1:Nat))→∀ (z13:Int),z13=U.fi O4 j10 ((0:Nat) + (1:Nat) + (1:Nat))→∀ (z14:Int),z14=U.fi O4 j10 ((0:Nat) + (1:Nat) + (1:Nat) + (1:Nat))→∀ (z15:List Int),z15=U.fs O4 j10 ((0:Nat) + (1:Nat) + (1:Nat) + (1:Nat) + (1:Nat))→∀ (z16:List Int),z16=U.fs O4 j10 ((0:Nat) + (1:Nat) + (1:Nat) + (1:Nat) + (1:Nat) + (1:Nat))→∀ (z17:Int),z17=U.fi O4 j10 ((0:Nat) + (1:Nat) + (1:Nat) + (1:Nat) + (1:Nat) + (1:Nat) + (1:Nat))→(v0<z11→((0:Nat) + x9.2.2.1≤List.length x9.2.1∧(0:Nat) + x9.2.2.2≤x9.2.2.2)∧True∧x9.2.2.1≤16777216∧(1:Nat)≤16777216∧∀ (L'18:List (List CV)) (n'19 c'20:Nat),L'18=List.take x9.2.2.1 (List.drop ((0:Nat)) x9.2.1) ++ [CV.i v0,CV.i v1,CV.i v2,CV.i v3,CV.s v4,CV.s v5,CV.i v6] :: U.nilL→n'19=x9.2.2.1 + (1:Nat)→n'19≤c'20→((0:Nat) + n'19≤List.length L'18∧(0:Nat) + c'20≤c'20)∧True∧n'19≤16777216∧(1:Nat)≤16777216∧∀ (L'21:List (List CV)) (n'22 c'23:Nat),L'21=List.take n'19 (List.drop ((0:Nat)) L'18) ++ [CV.i z11,CV.i z12,CV.i z13,CV.i z14,CV.s z15,CV.s z16,CV.i z17] :: U.nilL→n'22=n'19 + (1:Nat)→n'22≤c'23→∀ (z24:Int),z24=IntKind.wrap .i64 (x9.1 + (1:Int))→∃ (y25:Int × Rws × Nat × Nat),((0:Nat)=0∧q2=q2∧cg3=cg3)∧((0:Nat)=0∧n'22=y25.2.2.1∧c'23=y25.2.2.2)∧true=true∧((0:Nat)=0∧r5=r5∧co6=co6)∧z7=z7∧z24=y25.1∧v0=v0∧v1=v1∧v2=v2∧v3=v3∧v4=v4∧v5=v5∧v6=v6∧(L=L∧c=c∧false=false)∧(U.nilL=U.nilL∧(0:Nat)=0∧false=false)∧(U.nilL=U.nilL∧(0:Nat)=0∧false=false)∧(G1=G1∧cg3=cg3∧false=false)∧(O4=O4∧co6=co6∧false=false)∧(L'21=y25.2.1∧c'23=y25.2.2.2∧false=false)∧U.juI Q ⟨v0,v1,v2,v3,v4,v5,v6⟩ ((1:Nat)) y25.1 y25.2.1 y25.2.2.1 y25.2.2.2∧Int.toNat (↑r5:Int) - Int.toNat y25.1<Int.toNat (↑r5:Int) - Int.toNat x9.1)∧(¬v0<z11→((0:Nat) + x9.2.2.1≤List.length x9.2.1∧(0:Nat) + x9.2.2.2≤x9.2.2.2)∧True∧x9.2.2.1≤16777216∧(1:Nat)≤16777216∧∀ (L'26:List (List CV)) (n'27 c'28:Nat),L'26=List.take x9.2.2.1 (List.drop ((0:Nat)) x9.2.1) ++ [CV.i z11,CV.i z12,CV.i z13,CV.i z14,CV.s z15,CV.s z16,CV.i z17] :: U.nilL→n'27=x9.2.2.1 + (1:Nat)→n'27≤c'28→∀ (z29:Int),z29=IntKind.wrap .i64 (x9.1 + (1:Int))→∃ (y30:Int × Rws × Nat × Nat),((0:Nat)=0∧q2=q2∧cg3=cg3)∧((0:Nat)=0∧n'27=y30.2.2.1∧c'28=y30.2.2.2)∧false=false∧((0:Nat)=0∧r5=r5∧co6=co6)∧z7=z7∧z29=y30.1∧v0=v0∧v1=v1∧v2=v2∧v3=v3∧v4=v4∧v5=v5∧v6=v6∧(L=L∧c=c∧false=false)∧(U.nilL=U.nilL∧(0:Nat)=0∧false=false)∧(U.nilL=U.nilL∧(0:Nat)=0∧false=false)∧(G1=G1∧cg3=cg3∧false=false)∧(O4=O4∧co6=co6∧false=false)∧(L'26=y30.2.1∧c'28=y30.2.2.2∧false=false)∧U.juI Q ⟨v0,v1,v2,v3,v4,v5,v6⟩ ((0:Nat)) y30.1 y30.2.1 y30.2.2.1 y30.2.2.2∧Int.toNat (↑r5:Int) - Int.toNat y30.1<Int.toNat (↑r5:Int) - Int.toNat x9.1))∧(¬x9.1<z7→((0:Nat) + x9.2.2.1≤List.length x9.2.1∧(0:Nat) + x9.2.2.2≤x9.2.2.2)∧True∧x9.2.2.1≤16777216∧(1:Nat)≤16777216∧∀ (L'31:List (List CV)) (n'32 c'33:Nat),L'31=List.take x9.2.2.1 (List.drop ((0:Nat)) x9.2.1) ++ [CV.i v0,CV.i v1,CV.i v2,CV.i v3,CV.s v4,CV.s v5,CV.i v6] :: U.nilL→n'32=x9.2.2.1 + (1:Nat)→n'32≤c'33→K (Sum.inr [Sum.inl (rslC ⟨1,(6:Nat) + (1:Nat),0,n'32,c'33⟩),Sum.inl (rslC ⟨2,7,0,q2,cg3⟩),Sum.inl (Sum.inl (Value.bool true))]) ⟨[],[],0,[some (jrB L c),some (jrB L'31 c'33),some (jrB G1 cg3)],0⟩))∧∀ (x34:Int × Rws × Nat × Nat),U.juI Q ⟨v0,v1,v2,v3,v4,v5,v6⟩ (1:Nat) x34.1 x34.2.1 x34.2.2.1 x34.2.2.2→(x34.1<z7→(0≤x34.1∧x34.1<(↑r5:Int))∧∀ (j35:Nat),(↑j35:Int)=(↑((0:Nat)):Int) + x34.1→j35<List.length O4∧∀ (z36:Int),z36=U.fi O4 j35 ((0:Nat))→∀ (z37:Int),z37=U.fi O4 j35 ((0:Nat) + (1:Nat))→∀ (z38:Int),z38=U.fi O4 j35 ((0:Nat) + (1:Nat) + (1:Nat))→∀ (z39:Int),z39=U.fi O4 j35 ((0:Nat) + (1:Nat) + (1:Nat) + (1:Nat))→∀ (z40:List Int),z40=U.fs O4 j35 ((0:Nat) + (1:Nat) + (1:Nat) + (1:Nat) + (1:Nat))→∀ (z41:List Int),z41=U.fs O4 j35 ((0:Nat) + (1:Nat) + (1:Nat) + (1:Nat) + (1:Nat) + (1:Nat))→∀ (z42:Int),z42=U.fi O4 j35 ((0:Nat) + (1:Nat) + (1:Nat) + (1:Nat) + (1:Nat) + (1:Nat) + (1:Nat))→((0:Nat) + x34.2.2.1≤List.length x34.2.1∧(0:Nat) + x34.2.2.2≤x34.2.2.2)∧True∧x34.2.2.1≤16777216∧(1:Nat)≤16777216∧∀ (L'43:List (List CV)) (n'44 c'45:Nat),L'43=List.take x34.2.2.1 (List.drop ((0:Nat)) x34.2.1) ++ [CV.i z36,CV.i z37,CV.i z38,CV.i z39,CV.s z40,CV.s z41,CV.i z42] :: U.nilL→n'44=x34.2.2.1 + (1:Nat)→n'44≤c'45→∀ (z46:Int),z46=IntKind.wrap .i64 (x34.1 + (1:Int))→∃ (y47:Int × Rws × Nat × Nat),((0:Nat)=0∧q2=q2∧cg3=cg3)∧((0:Nat)=0∧n'44=y47.2.2.1∧c'45=y47.2.2.2)∧true=true∧((0:Nat)=0∧r5=r5∧co6=co6)∧z7=z7∧z46=y47.1∧v0=v0∧v1=v1∧v2=v2∧v3=v3∧v4=v4∧v5=v5∧v6=v6∧(L=L∧c=c∧false=false)∧(U.nilL=U.nilL∧(0:Nat)=0∧false=false)∧(U.nilL=U.nilL∧(0:Nat)=0∧false=false)∧(G1=G1∧cg3=cg3∧false=false)∧(O4=O4∧co6=co6∧false=false)∧(L'43=y47.2.1∧c'45=y47.2.2.2∧false=false)∧U.juI Q ⟨v0,v1,v2,v3,v4,v5,v6⟩ ((1:Nat)) y47.1 y47.2.1 y47.2.2.1 y47.2.2.2∧Int.toNat (↑r5:Int) - Int.toNat y47.1<Int.toNat (↑r5:Int) - Int.toNat x34.1)∧(¬x34.1<z7→K (Sum.inr [Sum.inl (rslC ⟨1,7,0,x34.2.2.1,x34.2.2.2⟩),Sum.inl (rslC ⟨2,7,0,q2,cg3⟩),Sum.inl (Sum.inl (Value.bool true))]) ⟨[],[],0,[some (jrB L c),some ⟨(31:TypeId),.o (.rows [.n .u64,.n .u32,.n .i64,.n .i64,CK.s,CK.s,.n .i64] x34.2.1),[],x34.2.2.2,false⟩,some (jrB G1 cg3)],0⟩))∧(¬U.jMay ⟨v0,v1,v2,v3,v4,v5,v6⟩→K (Sum.inr [Sum.inl (rslC ⟨0,7,0,n,c⟩),Sum.inl (rslC ⟨1,(6:Nat) + (1:Nat),0,0,0⟩),Sum.inl (Sum.inl (Value.bool false))]) ⟨[],[],0,[some (jrB L c),some (jrB U.nilL 0)],0⟩)) := by kernel_rfl
end Go.Proofs.Ytgopjjimafcgjaa
end

section
set_option linter.unusedVariables false
set_option linter.unusedSimpArgs false
set_option maxRecDepth 10000
namespace Go.Proofs.Ytgopjjimafcgjaa
open Go Reck Ost
abbrev jwA (r co : Nat) (v0 v1 v2 v3 : Int) (v4 v5 : List Int) (v6 : Int) (ok : Bool) : AV := .inr [.inl (rslC ⟨1, 7, 0, r, co⟩), .inr (jbC v0 v1 v2 v3 v4 v5 v6), .inl (.inl (.bool ok))]
theorem jset_app (A : JBP) (p : Int × JBv) (m : Int) (u : List Int) : U.jbvs (U.jSet (A ++ [p]) m u) = U.jbvs (U.jSet A m u) ++ [if p.1 = m then ({ p.2 with v5 := u } : JBv).row else p.2.row] := by
  unfold U.jSet U.jbvs
  rw [List.map_append, List.map_append]
  congr 1
  show [(if p.1 = m then (p.1, ({ p.2 with v5 := u } : JBv)) else p).2.row] = _
  split <;> rfl
theorem jset_len (A : JBP) (m : Int) (u : List Int) : (U.jSet A m u).length = A.length := by unfold U.jSet; rw [List.length_map]
section
variable {P : JBP} {m : Int} {u : List Int} {i i' : Int} {O O' : Rws} {r co r' co' j : Nat} {p : Int × JBv} {t : Nat} {v : JBv}
theorem jw_yes (h : U.jwI P m u t i v O r co) (hj : (j : Int) = i) (hp : P[j]? = some p) (hm : p.1 = m) (hi : i' = i + 1) (e1 : O' = List.take r (List.drop 0 O) ++ ({ p.2 with v5 := u } : JBv).row :: []) (e2 : r' = r + 1) (e3 : r' ≤ co') : U.jwI P m u 1 i' p.2 O' r' co' := by
  obtain ⟨⟨h1, h2⟩, h3, h4, h5, h6⟩ := h.out
  have hl := (List.getElem?_eq_some_iff.1 hp).1
  subst hi
  rw [tk_all h4] at e1
  refine ⟨⟨⟨by omega, by omega⟩, ?_, ?_, e3, by omega⟩, fun h => (by cases h), fun _ => ?_⟩
  · rw [jbtake1 h1 hj hp, jset_app, if_pos hm, ← h3]; exact e1
  · rw [e1, List.length_append, e2, h4]; rfl
  · rw [← hm]; exact List.mem_of_getElem? hp
theorem jw_no (h : U.jwI P m u t i v O r co) (ht : t = 0 ∨ t = 1) (hj : (j : Int) = i) (hp : P[j]? = some p) (hm : ¬ p.1 = m) (hi : i' = i + 1) (e1 : O' = List.take r (List.drop 0 O) ++ p.2.row :: []) (e2 : r' = r + 1) (e3 : r' ≤ co') : U.jwI P m u t i' v O' r' co' := by
  obtain ⟨⟨h1, h2⟩, h3, h4, h5, h6⟩ := h.out
  have hl := (List.getElem?_eq_some_iff.1 hp).1
  subst hi
  rw [tk_all h4] at e1
  refine ⟨⟨⟨by omega, by omega⟩, ?_, ?_, e3, by omega⟩, fun h0 => ?_, h.yes⟩
  · rw [jbtake1 h1 hj hp, jset_app, if_neg hm, ← h3]; exact e1
  · rw [e1, List.length_append, e2, h4]; rfl
  · obtain ⟨a, b⟩ := h.no h0
    refine ⟨fun q hq => ?_, b⟩
    rw [jbtake1 h1 hj hp, List.mem_append, List.mem_singleton] at hq
    rcases hq with hq | rfl
    · exact a q hq
    · exact hm
theorem jw_end (h : U.jwI P m u t i v O r co) (hi : ¬ i < P.length) (hs : P.length ≤ 100000) : U.jRw (U.jSet P m u) O r co := by
  obtain ⟨⟨h1, h2⟩, h3, h4, h5, h6⟩ := h.out
  rw [List.take_of_length_le (by omega)] at h3
  have hl := jset_len P m u
  exact ⟨h3, by rw [hl]; omega, h5, by omega⟩
theorem vs_cons (A : JBP) (v : JBv) (k : Int) : U.jbvs (A ++ [(k, v)]) = U.jbvs A ++ [v.row] := vs_app A (k, v)
-- Forget
theorem jfo_app (A : JBP) (p : Int × JBv) (u : List Int) : U.jFo u (A ++ [p]) = U.jFo u A ++ if ¬ u = [] ∧ p.2.v4 = u then [] else [if p.2.v5 = u then (p.1, { p.2 with v5 := [] }) else p] := by
  unfold U.jFo U.jClr
  rw [List.filter_append, List.map_append]
  congr 1
  by_cases h : ¬ u = [] ∧ p.2.v4 = u
  · rw [if_pos h, List.filter_cons_of_neg (by rw [decide_eq_true_eq]; exact fun g => g h)]; rfl
  · rw [if_neg h, List.filter_cons_of_pos (by rw [decide_eq_true_eq]; exact h)]; rfl
theorem jg_step {G G' : Rws} {q cg q' cg' : Nat} (h : U.jgI P u i G q cg O r co) (hj : (j : Int) = i) (hp : P[j]? = some p) (hi : i' = i + 1)
    (hG : (U.jFg u p = true ∧ G' = List.take q (List.drop 0 G) ++ p.2.row :: [] ∧ q' = q + 1 ∧ q' ≤ cg') ∨ (U.jFg u p = false ∧ G' = G ∧ q' = q ∧ cg' = cg))
    (hO : ((¬ u = [] ∧ p.2.v4 = u) ∧ O' = O ∧ r' = r ∧ co' = co) ∨ (¬ (¬ u = [] ∧ p.2.v4 = u) ∧ ((p.2.v5 = u ∧ O' = List.take r (List.drop 0 O) ++ ({ p.2 with v5 := [] } : JBv).row :: []) ∨ (¬ p.2.v5 = u ∧ O' = List.take r (List.drop 0 O) ++ p.2.row :: [])) ∧ r' = r + 1 ∧ r' ≤ co')) : U.jgI P u i' G' q' cg' O' r' co' := by
  obtain ⟨⟨h1, h2⟩, h3, h4, h5, h6, h7, h8, h9, h10⟩ := h.out
  have hl := (List.getElem?_eq_some_iff.1 hp).1
  subst hi
  rw [tk_all h5] at hG
  rw [tk_all h7] at hO
  have kG : G' = U.jbvs ((P.take (i + 1).toNat).filter (U.jFg u)) ∧ q' = G'.length ∧ q' ≤ cg' ∧ q' ≤ i + 1 := by
    rcases hG with ⟨f, rfl, rfl, g⟩ | ⟨f, rfl, rfl, rfl⟩
    · exact ⟨by rw [flt_yes h1 hj hp f, vs_app, ← h3], by rw [List.length_append, h5]; rfl, g, by omega⟩
    · exact ⟨by rw [flt_no h1 hj hp f]; exact h3, h5, h6, by omega⟩
  have kO : O' = U.jbvs (U.jFo u (P.take (i + 1).toNat)) ∧ r' = O'.length ∧ r' ≤ co' ∧ r' ≤ i + 1 := by
    rw [jbtake1 h1 hj hp, jfo_app]
    rcases hO with ⟨f, rfl, rfl, rfl⟩ | ⟨f, g, rfl, g'⟩
    · exact ⟨by rw [if_pos f, List.append_nil]; exact h4, h7, h8, by omega⟩
    · rw [if_neg f]
      rcases g with ⟨g, rfl⟩ | ⟨g, rfl⟩
      · exact ⟨by rw [if_pos g, vs_app, ← h4], by rw [List.length_append, h7]; rfl, g', by omega⟩
      · exact ⟨by rw [if_neg g, vs_app, ← h4], by rw [List.length_append, h7]; rfl, g', by omega⟩
  exact ⟨⟨by omega, by omega⟩, kG.1, kO.1, kG.2.1, kG.2.2.1, kO.2.1, kO.2.2.1, kG.2.2.2, kO.2.2.2⟩
theorem jgf1 (h : ¬ u = []) (h4 : p.2.v4 = u) : U.jFg u p = true := by unfold U.jFg; exact decide_eq_true ⟨h, .inl h4⟩
theorem jgf2 (h : ¬ u = []) (h5 : p.2.v5 = u) : U.jFg u p = true := by unfold U.jFg; exact decide_eq_true ⟨h, .inr h5⟩
theorem jgf3 (h : ¬ ¬ u = []) : U.jFg u p = false := by unfold U.jFg; exact decide_eq_false fun g => h g.1
theorem jgf4 (h4 : ¬ p.2.v4 = u) (h5 : ¬ p.2.v5 = u) : U.jFg u p = false := by unfold U.jFg; exact decide_eq_false fun g => g.2.elim h4 h5
theorem jgn1 (h : ¬ ¬ u = []) : ¬ (¬ u = [] ∧ p.2.v4 = u) := fun g => h g.1
theorem jgn2 (h4 : ¬ p.2.v4 = u) : ¬ (¬ u = [] ∧ p.2.v4 = u) := fun g => h4 g.2
end
theorem jwith_run (K : AV → St → Prop) (L : Rws) (n c : Nat) (P : JBP) (hR : U.jRw P L n c) (m : Int) (u : List Int) (hp : U.jI P) (hK : (∀ (v0 v1 v2 v3 : Int) (v4 v5 : List Int) (v6 : Int) (G : Rws) (r co : Nat), (m, (⟨v0, v1, v2, v3, v4, v5, v6⟩ : JBv)) ∈ P → U.jRw (U.jSet P m u) G r co → K (jwA r co v0 v1 v2 v3 v4 v5 v6 true) (jrS2 L c G co)) ∧ (∀ (G : Rws) (r co : Nat), ¬ U.jbHasK P m → U.jRw (U.jSet P m u) G r co → K (jwA r co 0 0 0 0 [] [] 0 false) (jrS2 L c G co))) : runR (invJw P m u) tJn 31 [cell (rslC ⟨0, 7, 0, n, c⟩), xi .u64 m, cell (strC u)] (jrSt L c) K := by
  obtain ⟨hL, hn, hc, hs⟩ := hR
  rw [jwith_vc]
  intro z0 h0
  subst hL
  have hvl := jvs_len P
  refine ⟨?_, ?_, ?_⟩
  · refine ⟨(0, (((0, (0, (0, 0))), ([], ([], 0))), ([], (0, 0)))), ?_⟩
    repeat' (first | exact rfl | with_reducible apply And.intro)
    exact ⟨⟨⟨by dsimp only; omega, by dsimp only; omega⟩, rfl, rfl, Nat.le_refl _, rfl⟩, fun _ => ⟨fun p hp => (List.not_mem_nil (show p ∈ ([] : JBP) from hp)).elim, rfl⟩, fun h => by cases h⟩
  · rintro ⟨i, ⟨⟨w0, w1, w2, w3⟩, w4, w5, w6⟩, O, r, co⟩ hI
    obtain ⟨⟨i1, i2⟩, g1, g2, g3, g4⟩ := hI.out
    dsimp only at i1 i2 g1 g2 g3 g4 hI ⊢
    refine ⟨fun hi => ⟨⟨by omega, by omega⟩, fun j hj => ⟨by omega, ?_⟩⟩, fun hi => ?_⟩
    · obtain ⟨p, hpp⟩ : ∃ p, P[j]? = some p := ⟨_, List.getElem?_eq_getElem (show j < P.length by omega)⟩
      obtain ⟨f0, f1, f2, f3, f4, f5, f6⟩ := jb_fi hpp
      rw [f0, f1, f2, f3, f4, f5, f6]
      rintro _ rfl _ rfl _ rfl _ rfl _ rfl _ rfl _ rfl
      have hk : p.2.v0 = p.1 := (hp.wf p.1 p.2 (List.mem_of_getElem? hpp)).1
      refine ⟨fun a => ⟨⟨by omega, by omega⟩, trivial, by omega, by decide, fun L20 n21 c22 e20 e21 e22 z32 h32 => ⟨(z32, (((p.2.v0, (p.2.v1, (p.2.v2, p.2.v3))), (p.2.v4, (p.2.v5, p.2.v6))), (L20, (n21, c22)))), ?_⟩⟩, fun a => ⟨⟨by omega, by omega⟩, trivial, by omega, by decide, fun L20 n21 c22 e20 e21 e22 z32 h32 => ⟨(z32, (((w0, (w1, (w2, w3))), (w4, (w5, w6))), (L20, (n21, c22)))), ?_⟩⟩⟩
      · have ez := iw h32 (by omega)
        repeat' (first | exact rfl | exact jw_yes hI (by omega) hpp (hk.symm.trans a) ez e20 e21 e22 | with_reducible apply And.intro)
        dsimp only; omega
      · have ez := iw h32 (by omega)
        repeat' (first | exact rfl | exact jw_no hI (.inl rfl) (by omega) hpp (fun g => a (hk.trans g)) ez e20 e21 e22 | with_reducible apply And.intro)
        dsimp only; omega
    · have he := jw_end hI (by omega) (by omega)
      obtain ⟨a, b⟩ := hI.no rfl
      simp only [JBv.mk.injEq] at b
      obtain ⟨rfl, rfl, rfl, rfl, rfl, rfl, rfl⟩ := b
      rw [List.take_of_length_le (by omega)] at a
      exact hK.2 O r co (fun ⟨v, hv⟩ => a _ hv rfl) he
  · rintro ⟨i, ⟨⟨w0, w1, w2, w3⟩, w4, w5, w6⟩, O, r, co⟩ hI
    obtain ⟨⟨i1, i2⟩, g1, g2, g3, g4⟩ := hI.out
    dsimp only at i1 i2 g1 g2 g3 g4 hI ⊢
    refine ⟨fun hi => ⟨⟨by omega, by omega⟩, fun j hj => ⟨by omega, ?_⟩⟩, fun hi => ?_⟩
    · obtain ⟨p, hpp⟩ : ∃ p, P[j]? = some p := ⟨_, List.getElem?_eq_getElem (show j < P.length by omega)⟩
      obtain ⟨f0, f1, f2, f3, f4, f5, f6⟩ := jb_fi hpp
      rw [f0, f1, f2, f3, f4, f5, f6]
      rintro _ rfl _ rfl _ rfl _ rfl _ rfl _ rfl _ rfl
      have hk : p.2.v0 = p.1 := (hp.wf p.1 p.2 (List.mem_of_getElem? hpp)).1
      refine ⟨fun a => ⟨⟨by omega, by omega⟩, trivial, by omega, by decide, fun L20 n21 c22 e20 e21 e22 z32 h32 => ⟨(z32, (((p.2.v0, (p.2.v1, (p.2.v2, p.2.v3))), (p.2.v4, (p.2.v5, p.2.v6))), (L20, (n21, c22)))), ?_⟩⟩, fun a => ⟨⟨by omega, by omega⟩, trivial, by omega, by decide, fun L20 n21 c22 e20 e21 e22 z32 h32 => ⟨(z32, (((w0, (w1, (w2, w3))), (w4, (w5, w6))), (L20, (n21, c22)))), ?_⟩⟩⟩
      · have ez := iw h32 (by omega)
        repeat' (first | exact rfl | exact jw_yes hI (by omega) hpp (hk.symm.trans a) ez e20 e21 e22 | with_reducible apply And.intro)
        dsimp only; omega
      · have ez := iw h32 (by omega)
        repeat' (first | exact rfl | exact jw_no hI (.inr rfl) (by omega) hpp (fun g => a (hk.trans g)) ez e20 e21 e22 | with_reducible apply And.intro)
        dsimp only; omega
    · have he := jw_end hI (by omega) (by omega)
      exact hK.1 w0 w1 w2 w3 w4 w5 w6 O r co (hI.yes rfl) he
def pjwith : Pat := fun args σ => match args with
  | [a, a0, a1] => match jrS a, aIntK .u64 a0, strX a1, jrX σ with
    | some s, some m, some u, some (L, c) => some fun K => ∃ P : JBP, (c = s.c ∧ U.jRw P L s.n c ∧ U.jI P) ∧ (∀ (v0 v1 v2 v3 : Int) (v4 v5 : List Int) (v6 : Int) (G : Rws) (r co : Nat), (m, (⟨v0, v1, v2, v3, v4, v5, v6⟩ : JBv)) ∈ P → U.jRw (U.jSet P m u) G r co → K (jwA r co v0 v1 v2 v3 v4 v5 v6 true) (jrS2 L c G co)) ∧ (∀ (G : Rws) (r co : Nat), ¬ U.jbHasK P m → U.jRw (U.jSet P m u) G r co → K (jwA r co 0 0 0 0 [] [] 0 false) (jrS2 L c G co))
    | _, _, _, _ => none
  | _ => none
theorem pjwith_ok : PatOk 31 pjwith := by
  intro tm σ C h K hK w0 e w hk vs hvs
  unfold pjwith at h
  split at h
  · split at h
    · rename_i hs h0 h1 hσ
      simp only [Option.some.injEq] at h; subst h
      obtain ⟨P, ⟨hc, hR, hp⟩, hP⟩ := hK
      obtain rfl := jrS_eq hs
      obtain rfl := jrX_eq hσ
      subst hc
      obtain ⟨y0, y1, y2, rfl, q0, q1, q2⟩ := threes hvs
      exact knownC noOv names (conOk_ofR tJn_ok) (jwith_run K _ _ _ P hR _ _ hp hP) w0 e w hk _ (map3 q0 (as_aIntK h0 q1) (as_str h1 q2))
    · cases h
  · cases h
set_option maxHeartbeats 4000000 in
theorem jrforget_run (K : AV → St → Prop) (L : Rws) (n c : Nat) (P : JBP) (hR : U.jRw P L n c) (u : List Int) (hK : ∀ (G : Rws) (q cg : Nat) (O : Rws) (r co : Nat), U.jRw (U.jGone (U.jFg u) P) G q cg → U.jRw (U.jFo u P) O r co → K (rr2 r co q cg) (jrS3 L c O co G cg)) : runR (invJw P 0 u) tJn 33 [cell (rslC ⟨0, 7, 0, n, c⟩), cell (strC u)] (jrSt L c) K := by
  obtain ⟨hL, hn, hc, hs⟩ := hR
  rw [jrforget_vc]
  intro z0 h0
  subst hL
  have hvl := jvs_len P
  refine ⟨?_, ?_⟩
  · refine ⟨(0, (([], (0, 0)), ([], (0, 0)))), ?_⟩
    repeat' (first | exact rfl | with_reducible apply And.intro)
    exact ⟨⟨by omega, by omega⟩, rfl, rfl, rfl, Nat.le_refl _, rfl, Nat.le_refl _, Int.le_refl _, Int.le_refl _⟩
  rintro ⟨i, ⟨G, q, cg⟩, O, r, co⟩ hI
  obtain ⟨⟨i1, i2⟩, g1, g2, g3, g4, g5, g6, g7, g8⟩ := hI.out
  dsimp only at i1 i2 g1 g2 g3 g4 g5 g6 g7 g8 hI ⊢
  refine ⟨fun hi => ⟨⟨by omega, by omega⟩, fun j hj => ⟨by omega, ?_⟩⟩, fun hi => ?_⟩
  · obtain ⟨p, hpp⟩ : ∃ p, P[j]? = some p := ⟨_, List.getElem?_eq_getElem (show j < P.length by omega)⟩
    obtain ⟨f0, f1, f2, f3, f4, f5, f6⟩ := jb_fi hpp
    rw [f0, f1, f2, f3, f4, f5, f6]
    rintro _ rfl _ rfl _ rfl _ rfl _ rfl _ rfl _ rfl
    have hj' : (j : Int) = i := by omega
    repeat' (first | exact rfl | contradiction | exact trivial | with_reducible refine Exists.intro (?_, ((?_, (?_, ?_)), (?_, (?_, ?_)))) ?_ | with_reducible apply And.intro | intro _)
    all_goals first
      | exact rfl
      | omega
      | exact jg_step hI hj' hpp (iw (by assumption) (by omega)) (by first | exact .inl ⟨(by first | exact jgf1 (by assumption) (by assumption) | exact jgf2 (by assumption) (by assumption)), (by assumption), (by assumption), (by assumption)⟩ | exact .inr ⟨(by first | exact jgf3 (by assumption) | exact jgf4 (by assumption) (by assumption)), rfl, rfl, rfl⟩) (by first | exact .inl ⟨⟨by assumption, by assumption⟩, rfl, rfl, rfl⟩ | exact .inr ⟨(by first | exact jgn1 (by assumption) | exact jgn2 (by assumption)), (by first | exact .inl ⟨by assumption, by assumption⟩ | exact .inr ⟨by assumption, by assumption⟩), (by assumption), (by assumption)⟩)
      | skip
    all_goals (dsimp only; have ez := iw (by assumption) (by omega); omega)
  · have a : (P.filter (U.jFg u)).length ≤ P.length := List.length_filter_le _ _
    have hx : (U.jGone (U.jFg u) P).length = (P.filter (U.jFg u)).length := rfl
    have hb : (U.jFo u P).length ≤ P.length := by unfold U.jFo U.jClr; rw [List.length_map]; exact List.length_filter_le _ _
    rw [List.take_of_length_le (by omega)] at g1 g2
    have ha := jvs_len (P.filter (U.jFg u))
    have hbb := jvs_len (U.jFo u P)
    rw [← g1] at ha
    rw [← g2] at hbb
    exact hK G q cg O r co ⟨g1, by omega, g4, by omega⟩ ⟨g2, by omega, g6, by omega⟩
def pjrforget : Pat := fun args σ => match args with
  | [a, a0] => match jrS a, strX a0, jrX σ with
    | some s, some u, some (L, c) => some fun K => ∃ P : JBP, (c = s.c ∧ U.jRw P L s.n c) ∧ ∀ (G : Rws) (q cg : Nat) (O : Rws) (r co : Nat), U.jRw (U.jGone (U.jFg u) P) G q cg → U.jRw (U.jFo u P) O r co → K (rr2 r co q cg) (jrS3 L c O co G cg)
    | _, _, _ => none
  | _ => none
theorem pjrforget_ok : PatOk 33 pjrforget := by
  intro tm σ C h K hK w0 e w hk vs hvs
  unfold pjrforget at h
  split at h
  · split at h
    · rename_i hs h0 hσ
      simp only [Option.some.injEq] at h; subst h
      obtain ⟨P, ⟨hc, hR⟩, hP⟩ := hK
      obtain rfl := jrS_eq hs
      obtain rfl := jrX_eq hσ
      subst hc
      obtain ⟨y0, y1, rfl, q0, q1⟩ := twos hvs
      exact knownC noOv names (conOk_ofR tJn_ok) (jrforget_run K _ _ _ P hR _ hP) w0 e w hk _ (map2 q0 (as_str h0 q1))
    · cases h
  · cases h
theorem jrof_run (K : AV → St → Prop) (L : Rws) (n c : Nat) (P : JBP) (hR : U.jRw P L n c) (ip : Int) (hK : (∀ k v, (k, v) ∈ P → v.v1 = ip → K (jbge v.v0 v.v1 v.v2 v.v3 v.v4 v.v5 v.v6 true) (jrSt L c)) ∧ ((∀ p ∈ P, ¬ p.2.v1 = ip) → K jbg0 (jrSt L c))) : runR (invJp P fun p => decide (p.2.v1 = ip)) tJn 35 [cell (rslC ⟨0, 7, 0, n, c⟩), xi .u32 ip] (jrSt L c) K := by
  obtain ⟨hL, hn, hc, hs⟩ := hR
  rw [jrof_vc]
  intro z0 h0
  subst hL
  have hvl := jvs_len P
  refine ⟨?_, ?_⟩
  · refine ⟨0, ?_⟩
    repeat' (first | exact rfl | with_reducible apply And.intro)
    exact ⟨by omega, by omega, fun m hm => by omega⟩
  rintro i hI
  obtain ⟨i1, i2, i3⟩ := hI.out
  refine ⟨fun hi => ⟨⟨by omega, by omega⟩, fun j hj => ⟨by omega, ?_⟩⟩, fun hi => ?_⟩
  · obtain ⟨p, hpp⟩ : ∃ p, P[j]? = some p := ⟨_, List.getElem?_eq_getElem (show j < P.length by omega)⟩
    obtain ⟨f0, f1, f2, f3, f4, f5, f6⟩ := jb_fi hpp
    rw [f0, f1, f2, f3, f4, f5, f6]
    rintro _ rfl _ rfl _ rfl _ rfl _ rfl _ rfl _ rfl
    have hm := List.mem_of_getElem? hpp
    refine ⟨fun a => hK.1 p.1 p.2 hm a, fun a z14 h14 => ?_⟩
    · have e14 := iw h14 (by omega)
      refine ⟨z14, ?_⟩
      repeat' (first | exact rfl | with_reducible apply And.intro)
      · refine ⟨by omega, by omega, fun m hm p' hpm => ?_⟩
        by_cases em : m = j
        · subst em
          rw [hpp] at hpm
          cases hpm; exact decide_eq_false a
        · exact i3 m (by omega) p' hpm
      · omega
  · have hall : ∀ p ∈ P, ¬ p.2.v1 = ip := fun p hp he => by
      obtain ⟨m, hm⟩ := List.getElem?_of_mem hp
      have hml := (List.getElem?_eq_some_iff.1 hm).1
      have := i3 m (by omega) p hm
      exact of_decide_eq_false this he
    exact hK.2 hall
def pjrof : Pat := fun args σ => match args with
  | [a, a0] => match jrS a, aIntK .u32 a0, jrX σ with
    | some s, some ip, some (L, c) => some fun K => ∃ P : JBP, (c = s.c ∧ U.jRw P L s.n c) ∧ (∀ k v, (k, v) ∈ P → v.v1 = ip → K (jbge v.v0 v.v1 v.v2 v.v3 v.v4 v.v5 v.v6 true) (jrSt L c)) ∧ ((∀ p ∈ P, ¬ p.2.v1 = ip) → K jbg0 (jrSt L c))
    | _, _, _ => none
  | _ => none
theorem pjrof_ok : PatOk 35 pjrof := by
  intro tm σ C h K hK w0 e w hk vs hvs
  unfold pjrof at h
  split at h
  · split at h
    · rename_i hs h0 hσ
      simp only [Option.some.injEq] at h; subst h
      obtain ⟨P, ⟨hc, hR⟩, hP⟩ := hK
      obtain rfl := jrS_eq hs
      obtain rfl := jrX_eq hσ
      subst hc
      obtain ⟨y0, y1, rfl, q0, q1⟩ := twos hvs
      exact knownC noOv names (conOk_ofR tJn_ok) (jrof_run K _ _ _ P hR _ hP) w0 e w hk _ (map2 q0 (as_aIntK h0 q1))
    · cases h
  · cases h
theorem jrat_run (K : AV → St → Prop) (L : Rws) (n c : Nat) (P : JBP) (hR : U.jRw P L n c) (s0 s1 : Int) (hK : (∀ k v, (k, v) ∈ P → v.v2 = s0 ∧ v.v3 = s1 → K (jbge v.v0 v.v1 v.v2 v.v3 v.v4 v.v5 v.v6 true) (jrSt L c)) ∧ ((∀ p ∈ P, ¬ (p.2.v2 = s0 ∧ p.2.v3 = s1)) → K jbg0 (jrSt L c))) : runR (invJp P fun p => decide (p.2.v2 = s0 ∧ p.2.v3 = s1)) tJn 36 [cell (rslC ⟨0, 7, 0, n, c⟩), plA s0 s1] (jrSt L c) K := by
  obtain ⟨hL, hn, hc, hs⟩ := hR
  rw [jrat_vc]
  intro z0 h0
  subst hL
  have hvl := jvs_len P
  refine ⟨?_, ?_⟩
  · refine ⟨0, ?_⟩
    repeat' (first | exact rfl | with_reducible apply And.intro)
    exact ⟨by omega, by omega, fun m hm => by omega⟩
  rintro i hI
  obtain ⟨i1, i2, i3⟩ := hI.out
  refine ⟨fun hi => ⟨⟨by omega, by omega⟩, fun j hj => ⟨by omega, ?_⟩⟩, fun hi => ?_⟩
  · obtain ⟨p, hpp⟩ : ∃ p, P[j]? = some p := ⟨_, List.getElem?_eq_getElem (show j < P.length by omega)⟩
    obtain ⟨f0, f1, f2, f3, f4, f5, f6⟩ := jb_fi hpp
    rw [f0, f1, f2, f3, f4, f5, f6]
    rintro _ rfl _ rfl _ rfl _ rfl _ rfl _ rfl _ rfl
    have hm := List.mem_of_getElem? hpp
    refine ⟨fun a => hK.1 p.1 p.2 hm ⟨a.1, a.2.1⟩, fun a z14 h14 => ?_⟩
    · have e14 := iw h14 (by omega)
      refine ⟨z14, ?_⟩
      repeat' (first | exact rfl | with_reducible apply And.intro)
      · refine ⟨by omega, by omega, fun m hm p' hpm => ?_⟩
        by_cases em : m = j
        · subst em
          rw [hpp] at hpm
          cases hpm; exact decide_eq_false (fun g => a ⟨g.1, g.2, trivial⟩)
        · exact i3 m (by omega) p' hpm
      · omega
  · have hall : ∀ p ∈ P, ¬ (p.2.v2 = s0 ∧ p.2.v3 = s1) := fun p hp he => by
      obtain ⟨m, hm⟩ := List.getElem?_of_mem hp
      have hml := (List.getElem?_eq_some_iff.1 hm).1
      have := i3 m (by omega) p hm
      exact of_decide_eq_false this he
    exact hK.2 hall
def pjrat : Pat := fun args σ => match args with
  | [a, a0] => match jrS a, aPl a0, jrX σ with
    | some s, some (s0, s1), some (L, c) => some fun K => ∃ P : JBP, (c = s.c ∧ U.jRw P L s.n c) ∧ (∀ k v, (k, v) ∈ P → v.v2 = s0 ∧ v.v3 = s1 → K (jbge v.v0 v.v1 v.v2 v.v3 v.v4 v.v5 v.v6 true) (jrSt L c)) ∧ ((∀ p ∈ P, ¬ (p.2.v2 = s0 ∧ p.2.v3 = s1)) → K jbg0 (jrSt L c))
    | _, _, _ => none
  | _ => none
theorem pjrat_ok : PatOk 36 pjrat := by
  intro tm σ C h K hK w0 e w hk vs hvs
  unfold pjrat at h
  split at h
  · split at h
    · rename_i hs h0 hσ
      simp only [Option.some.injEq] at h; subst h
      obtain ⟨P, ⟨hc, hR⟩, hP⟩ := hK
      obtain rfl := jrS_eq hs
      obtain rfl := jrX_eq hσ
      subst hc
      obtain ⟨y0, y1, rfl, q0, q1⟩ := twos hvs
      exact knownC noOv names (conOk_ofR tJn_ok) (jrat_run K _ _ _ P hR _ _ hP) w0 e w hk _ (map2 q0 (as_aPl h0 q1))
    · cases h
  · cases h
theorem jrcheck_run (K : AV → St → Prop) (L : Rws) (n c : Nat) (P : JBP) (hR : U.jRw P L n c) (s0 s1 : Int) (m : Int) (ip : Int) (hK : ∀ (v0 v1 v2 v3 : Int) (v4 v5 : List Int) (v6 e : Int), U.jCk P s0 s1 m ip ⟨v0, v1, v2, v3, v4, v5, v6⟩ e → K (ckA v0 v1 v2 v3 v4 v5 v6 e) (jrSt L c)) : runR (invJp P fun p => decide (p.2.v2 = s0 ∧ p.2.v3 = s1)) tJn 34 [cell (rslC ⟨0, 7, 0, n, c⟩), plA s0 s1, xi .u64 m, xi .u32 ip] (jrSt L c) (U.Like K) := by
  obtain ⟨hL, hn, hc, hs⟩ := hR
  rw [jrcheck_vc]
  intro z0 h0
  subst hL
  have hvl := jvs_len P
  refine ⟨?_, ?_⟩
  · refine ⟨0, ?_⟩
    repeat' (first | exact rfl | with_reducible apply And.intro)
    exact ⟨by omega, by omega, fun m hm => by omega⟩
  rintro i hI
  obtain ⟨i1, i2, i3⟩ := hI.out
  refine ⟨fun hi => ⟨⟨by omega, by omega⟩, fun j hj => ⟨by omega, ?_⟩⟩, fun hi => ?_⟩
  · obtain ⟨p, hpp⟩ : ∃ p, P[j]? = some p := ⟨_, List.getElem?_eq_getElem (show j < P.length by omega)⟩
    obtain ⟨f0, f1, f2, f3, f4, f5, f6⟩ := jb_fi hpp
    rw [f0, f1, f2, f3, f4, f5, f6]
    rintro _ rfl _ rfl _ rfl _ rfl _ rfl _ rfl _ rfl
    have hm := List.mem_of_getElem? hpp
    refine ⟨fun a z14 h14 => ?_, fun a => ?_⟩
    · have e14 := iw h14 (by omega)
      refine ⟨z14, ?_⟩
      repeat' (first | exact rfl | with_reducible apply And.intro)
      · refine ⟨by omega, by omega, fun m hm p' hpm => ?_⟩
        by_cases em : m = j
        · subst em
          rw [hpp] at hpm
          cases hpm; exact decide_eq_false (fun g => a ⟨g.1, g.2, trivial⟩)
        · exact i3 m (by omega) p' hpm
      · omega
    · have a := Classical.not_not.1 a
      have a : p.2.v2 = s0 ∧ p.2.v3 = s1 := ⟨a.1, a.2.1⟩
      have hm : (p.1, p.2) ∈ P := hm
      exact ⟨fun b => ⟨ckA 0 0 0 0 [] [] 0 40, fun _ _ h => h, hK _ _ _ _ _ _ _ _ ⟨.inl ⟨_, _, hm, a, .inl ⟨fun g => b g.1, rfl, rfl⟩⟩⟩⟩, fun b => ⟨fun d => ⟨ckA 0 0 0 0 [] [] 0 40, fun _ _ h => h, hK _ _ _ _ _ _ _ _ ⟨.inl ⟨_, _, hm, a, .inl ⟨fun g => d g.2, rfl, rfl⟩⟩⟩⟩, fun d => ⟨fun f => ⟨_, fun _ _ h => h, hK _ _ _ _ _ _ _ 41 ⟨.inl ⟨_, _, hm, a, .inr ⟨⟨Classical.not_not.1 b, Classical.not_not.1 d⟩, rfl, .inl ⟨f, rfl⟩⟩⟩⟩⟩, fun f => ⟨_, fun _ _ h => h, hK _ _ _ _ _ _ _ 0 ⟨.inl ⟨_, _, hm, a, .inr ⟨⟨Classical.not_not.1 b, Classical.not_not.1 d⟩, rfl, .inr ⟨f, rfl⟩⟩⟩⟩⟩⟩⟩⟩
  · have hall : ∀ p ∈ P, ¬ (p.2.v2 = s0 ∧ p.2.v3 = s1) := fun p hp he => by
      obtain ⟨m, hm⟩ := List.getElem?_of_mem hp
      have hml := (List.getElem?_eq_some_iff.1 hm).1
      have := i3 m (by omega) p hm
      exact of_decide_eq_false this he
    exact ⟨ckA 0 0 0 0 [] [] 0 2, fun _ _ h => h, hK _ _ _ _ _ _ _ _ ⟨.inr ⟨hall, rfl, rfl⟩⟩⟩
def pjrcheck : Pat := fun args σ => match args with
  | [a, a0, a1, a2] => match jrS a, aPl a0, aIntK .u64 a1, aIntK .u32 a2, jrX σ with
    | some s, some (s0, s1), some m, some ip, some (L, c) => some fun K => ∃ P : JBP, (c = s.c ∧ U.jRw P L s.n c) ∧ ∀ (v0 v1 v2 v3 : Int) (v4 v5 : List Int) (v6 e : Int), U.jCk P s0 s1 m ip ⟨v0, v1, v2, v3, v4, v5, v6⟩ e → K (ckA v0 v1 v2 v3 v4 v5 v6 e) (jrSt L c)
    | _, _, _, _, _ => none
  | _ => none
theorem pjrcheck_ok : PatOk 34 pjrcheck := by
  intro tm σ C h K hK w0 e w hk vs hvs
  unfold pjrcheck at h
  split at h
  · split at h
    · rename_i hs h0 h1 h2 hσ
      simp only [Option.some.injEq] at h; subst h
      obtain ⟨P, ⟨hc, hR⟩, hP⟩ := hK
      obtain rfl := jrS_eq hs
      obtain rfl := jrX_eq hσ
      subst hc
      obtain ⟨y0, y1, y2, y3, rfl, q0, q1, q2, q3⟩ := fours hvs
      exact like_ok (knownC noOv names (conOk_ofR tJn_ok) (jrcheck_run K _ _ _ P hR _ _ _ _ hP) w0 e w hk _ (map4 q0 (as_aPl h0 q1) (as_aIntK h1 q2) (as_aIntK h2 q3)))
    · cases h
  · cases h
section
variable {Q : JBP} {v : JBv} {i i' : Int} {O O' O2 : Rws} {r co r' co' r2 co2 j : Nat} {p : Int × JBv} {t : Nat}
theorem jins_lo {A : JBP} (h : ∀ p ∈ A, p.1 < v.v0) : U.jIns A v = A ++ [(v.v0, v)] := by
  unfold U.jIns
  rw [List.filter_eq_self.2 (fun p hp => decide_eq_true (h p hp)), List.filter_eq_nil_iff.2 (fun p hp => by have := h p hp; simp; omega)]
theorem jins_hi {A : JBP} (h : v.v0 < p.1) : U.jIns (A ++ [p]) v = U.jIns A v ++ [p] := by
  unfold U.jIns
  rw [List.filter_append, List.filter_append, List.filter_cons_of_neg (by simp; omega), List.filter_cons_of_pos (by simpa using h)]
  simp
theorem ju_new (h : U.juI Q v 0 i O r co) (hj : (j : Int) = i) (hp : Q[j]? = some p) (hm : v.v0 < p.1) (hi : i' = i + 1) (e1 : O' = List.take r (List.drop 0 O) ++ v.row :: []) (e2 : r' = r + 1) (e3 : r' ≤ co') (e4 : O2 = List.take r' (List.drop 0 O') ++ p.2.row :: []) (e5 : r2 = r' + 1) (e6 : r2 ≤ co2) : U.juI Q v 1 i' O2 r2 co2 := by
  obtain ⟨⟨h1, h2⟩, h3, h4, h5⟩ := h.out
  obtain ⟨a, b⟩ := h.no rfl
  have hl := (List.getElem?_eq_some_iff.1 hp).1
  subst hi
  rw [tk_all h3] at e1
  have l1 : r' = O'.length := by rw [e1, List.length_append, e2, h3]; rfl
  rw [tk_all l1] at e4
  refine ⟨⟨⟨by omega, by omega⟩, ?_, e6, by omega⟩, fun h => (by cases h), fun _ => ⟨?_, p, ?_, hm⟩⟩
  · rw [e4, List.length_append, e5, l1]; rfl
  · rw [jbtake1 h1 hj hp, jins_hi hm, jins_lo b, vs_app, vs_cons, ← a, e4, e1]
  · rw [jbtake1 h1 hj hp]; exact List.mem_append.2 (.inr (List.mem_singleton.2 rfl))
theorem ju_lo (h : U.juI Q v 0 i O r co) (hj : (j : Int) = i) (hp : Q[j]? = some p) (hm : ¬ v.v0 < p.1) (hne : p.1 ≠ v.v0) (hi : i' = i + 1) (e1 : O' = List.take r (List.drop 0 O) ++ p.2.row :: []) (e2 : r' = r + 1) (e3 : r' ≤ co') : U.juI Q v 0 i' O' r' co' := by
  obtain ⟨⟨h1, h2⟩, h3, h4, h5⟩ := h.out
  obtain ⟨a, b⟩ := h.no rfl
  have hl := (List.getElem?_eq_some_iff.1 hp).1
  subst hi
  rw [tk_all h3] at e1
  refine ⟨⟨⟨by omega, by omega⟩, ?_, e3, by omega⟩, fun _ => ⟨?_, fun q hq => ?_⟩, fun h => (by cases h)⟩
  · rw [e1, List.length_append, e2, h3]; rfl
  · rw [jbtake1 h1 hj hp, vs_app, ← a]; exact e1
  · rw [jbtake1 h1 hj hp, List.mem_append, List.mem_singleton] at hq
    rcases hq with hq | rfl
    · exact b q hq
    · omega
theorem ju_hi (hs : U.jbSrt Q) (h : U.juI Q v 1 i O r co) (hj : (j : Int) = i) (hp : Q[j]? = some p) (hi : i' = i + 1) (e1 : O' = List.take r (List.drop 0 O) ++ p.2.row :: []) (e2 : r' = r + 1) (e3 : r' ≤ co') : U.juI Q v 1 i' O' r' co' := by
  obtain ⟨⟨h1, h2⟩, h3, h4, h5⟩ := h.out
  obtain ⟨a, q, hq, hlt⟩ := h.yes rfl
  obtain ⟨hl, hg⟩ := List.getElem?_eq_some_iff.1 hp
  subst hi
  rw [tk_all h3] at e1
  have hlt2 : v.v0 < p.1 := by
    obtain ⟨m, hm⟩ := List.getElem?_of_mem hq
    rw [List.getElem?_take] at hm
    split at hm
    · rename_i hml
      obtain ⟨l1, g1⟩ := List.getElem?_eq_some_iff.1 hm
      have := List.pairwise_iff_getElem.1 hs.out m j l1 hl (by omega)
      rw [g1, hg] at this
      omega
    · cases hm
  refine ⟨⟨⟨by omega, by omega⟩, ?_, e3, by omega⟩, fun h => (by cases h), fun _ => ⟨?_, q, ?_, hlt⟩⟩
  · rw [e1, List.length_append, e2, h3]; rfl
  · rw [jbtake1 h1 hj hp, jins_hi hlt2, vs_app, ← a]; exact e1
  · rw [jbtake1 h1 hj hp]; exact List.mem_append.2 (.inl hq)
theorem ju_end0 (h : U.juI Q v 0 i O r co) (hi : ¬ i < Q.length) (hs : Q.length < 100000) (e1 : O' = List.take r (List.drop 0 O) ++ v.row :: []) (e2 : r' = r + 1) (e3 : r' ≤ co') : U.jRw (U.jIns Q v) O' r' co' := by
  obtain ⟨⟨h1, h2⟩, h3, h4, h5⟩ := h.out
  obtain ⟨a, b⟩ := h.no rfl
  rw [List.take_of_length_le (by omega)] at a b
  rw [tk_all h3] at e1
  rw [jins_lo b]
  exact ⟨by rw [vs_cons, ← a]; exact e1, by rw [List.length_append]; simp; omega, e3, by omega⟩
theorem ju_end1 (h : U.juI Q v 1 i O r co) (hi : ¬ i < Q.length) (hs : Q.length < 100000) : U.jRw (U.jIns Q v) O r co := by
  obtain ⟨⟨h1, h2⟩, h3, h4, h5⟩ := h.out
  obtain ⟨a, q, hq, hlt⟩ := h.yes rfl
  rw [List.take_of_length_le (by omega)] at a
  have := jvs_len (U.jIns Q v)
  rw [← a] at this
  exact ⟨a, by omega, h4, by omega⟩
end
abbrev ruA (a r co b q cg : Nat) (ok : Bool) : AV := .inr [.inl (rslC ⟨a, 7, 0, r, co⟩), .inl (rslC ⟨b, 7, 0, q, cg⟩), .inl (.inl (.bool ok))]
set_option maxHeartbeats 4000000 in
theorem jrput_run (K : AV → St → Prop) (L : Rws) (n c : Nat) (P : JBP) (hR : U.jRw P L n c) (v : JBv) (hp : (U.jI P ∧ U.jbSrt P ∧ U.jblen P ≤ 64)) (hK : (¬ U.jMay v → K (ruA 0 n c 1 0 0 false) (jrS2 L c [] 0)) ∧ (U.jMay v → ∀ (G : Rws) (q cg : Nat) (O : Rws) (r co : Nat), U.jRw (U.jGone (U.jBar v) P) G q cg → U.jRw (U.jAdd v P) O r co → K (ruA 1 r co 2 q cg true) (jrS3 L c O co G cg))) : runR (invJu (U.jRest (U.jBar v) P) v) tJr2 28 [cell (rslC ⟨0, 7, 0, n, c⟩), jbA v.v0 v.v1 v.v2 v.v3 v.v4 v.v5 v.v6] (jrSt L c) K := by
  rw [jrput_vc]
  refine ⟨fun hv => ⟨P, ⟨rfl, hR⟩, fun G q cg R rr cr hg hr z7 h7 => ?_⟩, fun hv => hK.1 hv⟩
  obtain ⟨b1, b2, b3, b4⟩ := hr
  have hvl := jvs_len (U.jRest (U.jBar v) P)
  rw [← b1] at hvl
  have hle : (U.jRest (U.jBar v) P).length ≤ P.length := List.length_filter_le _ _
  have b2 : rr = (U.jRest (U.jBar v) P).length := b2
  have hp64 : P.length ≤ 64 := hp.2.2
  refine ⟨?_, ?_, ?_⟩
  · refine ⟨(0, ([], (0, 0))), ?_⟩
    repeat' (first | exact rfl | with_reducible apply And.intro)
    exact ⟨⟨⟨by dsimp only; omega, by dsimp only; omega⟩, rfl, Nat.le_refl _, rfl⟩, fun _ => ⟨rfl, fun p hp => (List.not_mem_nil (show p ∈ ([] : JBP) from hp)).elim⟩, fun h => by cases h⟩
  · rintro ⟨i, O, r, co⟩ hI
    obtain ⟨⟨i1, i2⟩, g2, g3, g4⟩ := hI.out
    dsimp only at i1 i2 g2 g3 g4 hI ⊢
    refine ⟨fun hi => ⟨⟨by omega, by omega⟩, fun j hj => ⟨by omega, ?_⟩⟩, fun hi => ?_⟩
    · obtain ⟨p, hpp⟩ : ∃ p, (U.jRest (U.jBar v) P)[j]? = some p := ⟨_, List.getElem?_eq_getElem (show j < (U.jRest (U.jBar v) P).length by omega)⟩
      obtain ⟨f0, f1, f2, f3, f4, f5, f6⟩ := jb_fi hpp
      rw [← b1] at f0 f1 f2 f3 f4 f5 f6
      rw [f0, f1, f2, f3, f4, f5, f6]
      rintro _ rfl _ rfl _ rfl _ rfl _ rfl _ rfl _ rfl
      have hmm := List.mem_of_getElem? hpp
      have hne := jrest_key hp.1 (v := v) p hmm
      have hk : p.2.v0 = p.1 := (hp.1.wf p.1 p.2 (jrest_not hmm).1).1
      refine ⟨fun a => ⟨⟨by omega, by omega⟩, trivial, by omega, by decide, fun L18 n19 c20 e18 e19 e20 => ⟨⟨?_, by omega⟩, trivial, by omega, by decide, fun L21 n22 c23 e21 e22 e23 z24 h24 => ⟨(z24, (L21, (n22, c23))), ?_⟩⟩⟩, fun a => ⟨⟨by omega, by omega⟩, trivial, by omega, by decide, fun L26 n27 c28 e26 e27 e28 z29 h29 => ⟨(z29, (L26, (n27, c28))), ?_⟩⟩⟩
      · rw [e18, List.length_append, tk_all g2, e19, g2]; simp
      · have ez := iw h24 (by omega)
        repeat' (first | exact rfl | exact ju_new hI (by omega) hpp (by rw [← hk]; exact a) ez e18 e19 e20 e21 e22 e23 | with_reducible apply And.intro)
        dsimp only; omega
      · have ez := iw h29 (by omega)
        repeat' (first | exact rfl | exact ju_lo hI (by omega) hpp (by rw [← hk]; exact a) hne ez e26 e27 e28 | with_reducible apply And.intro)
        dsimp only; omega
    · refine ⟨⟨by omega, by omega⟩, trivial, by omega, by decide, fun L31 n32 c33 e31 e32 e33 => ?_⟩
      exact hK.2 hv _ _ _ _ _ _ hg (ju_end0 hI (by omega) (by omega) e31 e32 e33)
  · rintro ⟨i, O, r, co⟩ hI
    obtain ⟨⟨i1, i2⟩, g2, g3, g4⟩ := hI.out
    dsimp only at i1 i2 g2 g3 g4 hI ⊢
    refine ⟨fun hi => ⟨⟨by omega, by omega⟩, fun j hj => ⟨by omega, ?_⟩⟩, fun hi => ?_⟩
    · obtain ⟨p, hpp⟩ : ∃ p, (U.jRest (U.jBar v) P)[j]? = some p := ⟨_, List.getElem?_eq_getElem (show j < (U.jRest (U.jBar v) P).length by omega)⟩
      obtain ⟨f0, f1, f2, f3, f4, f5, f6⟩ := jb_fi hpp
      rw [← b1] at f0 f1 f2 f3 f4 f5 f6
      rw [f0, f1, f2, f3, f4, f5, f6]
      rintro _ rfl _ rfl _ rfl _ rfl _ rfl _ rfl _ rfl
      have hmm := List.mem_of_getElem? hpp
      have hne := jrest_key hp.1 (v := v) p hmm
      have hk : p.2.v0 = p.1 := (hp.1.wf p.1 p.2 (jrest_not hmm).1).1
      refine ⟨⟨by omega, by omega⟩, trivial, by omega, by decide, fun L26 n27 c28 e26 e27 e28 z29 h29 => ⟨(z29, (L26, (n27, c28))), ?_⟩⟩
      have ez := iw h29 (by omega)
      repeat' (first | exact rfl | exact ju_hi (jrest_srt hp.2.1 _) hI (by omega) hpp ez e26 e27 e28 | with_reducible apply And.intro)
      dsimp only; omega
    · exact hK.2 hv _ _ _ _ _ _ hg (ju_end1 hI (by omega) (by omega))
def pjrput : Pat := fun args σ => match args with
  | [a, a0] => match jrS a, aBd a0, jrX σ with
    | some s, some v, some (L, c) => some fun K => ∃ P : JBP, (c = s.c ∧ U.jRw P L s.n c ∧ (U.jI P ∧ U.jbSrt P ∧ U.jblen P ≤ 64)) ∧ (¬ U.jMay v → K (ruA 0 s.n c 1 0 0 false) (jrS2 L c [] 0)) ∧ (U.jMay v → ∀ (G : Rws) (q cg : Nat) (O : Rws) (r co : Nat), U.jRw (U.jGone (U.jBar v) P) G q cg → U.jRw (U.jAdd v P) O r co → K (ruA 1 r co 2 q cg true) (jrS3 L c O co G cg))
    | _, _, _ => none
  | _ => none
theorem pjrput_ok : PatOk 28 pjrput := by
  intro tm σ C h K hK w0 e w hk vs hvs
  unfold pjrput at h
  split at h
  · split at h
    · rename_i hs h0 hσ
      simp only [Option.some.injEq] at h; subst h
      obtain ⟨P, ⟨hc, hR, hp⟩, hP⟩ := hK
      obtain rfl := jrS_eq hs
      obtain rfl := jrX_eq hσ
      subst hc
      obtain ⟨y0, y1, rfl, q0, q1⟩ := twos hvs
      exact knownC noOv names (conOk_ofR tJr2_ok) (jrput_run K _ _ _ P hR _ hp hP) w0 e w hk _ (map2 q0 (as_aBd h0 q1))
    · cases h
  · cases h
def tJ8 : Tbl := tblOr (tblIf 28 pjrput) (tblOr (tblIf 31 pjwith) (tblOr (tblIf 33 pjrforget) (tblOr (tblIf 35 pjrof) (tblOr (tblIf 36 pjrat) (tblOr (tblIf 34 pjrcheck) (tblOr (tblIf 32 pjpart1) (tblOr (tblIf 32 pjpart3) (tblOr (tblIf 29 pjrsame) (tblOr (tblIf 30 pjplain) tJ6)))))))))
theorem tJ8_ok : TblOk Try.prog tJ8 := tblOr_ok (tblIf_ok pjrput_ok) (tblOr_ok (tblIf_ok pjwith_ok) (tblOr_ok (tblIf_ok pjrforget_ok) (tblOr_ok (tblIf_ok pjrof_ok) (tblOr_ok (tblIf_ok pjrat_ok) (tblOr_ok (tblIf_ok pjrcheck_ok) (tblOr_ok (tblIf_ok pjpart1_ok) (tblOr_ok (tblIf_ok pjpart3_ok) (tblOr_ok (tblIf_ok pjrsame_ok) (tblOr_ok (tblIf_ok pjplain_ok) tJ6_ok)))))))))
end Go.Proofs.Ytgopjjimafcgjaa
end
