/- Parts of a proof, one behind the other: JB9 JBA JBB. No condition. -/
import Derived.Test.YtgopjjimafcgjaaGC
section
namespace Go.Proofs.Ytgopjjimafcgjaa
open Go Reck Ost
set_option linter.unusedVariables false
set_option maxRecDepth 100000
structure U.jbIn (G : Rws) (q : Nat) (k : Int) : Prop where
  out : ∃ m : Nat, m < q ∧ U.fi G m 0 = k
/-- The places that stay, of the first ones. -/
noncomputable def U.jbKp (G : Rws) (q : Nat) (L : Rws) (i : Nat) : List Nat := (List.range i).filter fun m => @decide (¬ U.jbIn G q (U.fi L m 0)) (Classical.propDecidable _)
structure U.jbswI (G : Rws) (q : Nat) (L M : Rws) (n : Nat) (i j : Int) (L' M' : Rws) : Prop where
  b : 0 ≤ i ∧ i ≤ n ∧ 0 ≤ j ∧ j ≤ i
  ln : L'.length = L.length ∧ M'.length = M.length
  jq : j = (U.jbKp G q L i.toNat).length
  kk : L'.take j.toNat = (U.jbKp G q L i.toNat).map fun m => L.getD m []
  vv : M'.take j.toNat = (U.jbKp G q L i.toNat).map fun m => M.getD m []
  rl : ∀ m : Nat, i ≤ m → L'[m]? = L[m]?
  rm : ∀ m : Nat, i ≤ m → M'[m]? = M[m]?
  tk : ∀ m : Nat, m < n → ∃ k : Int, L'[m]? = some [.i k]
  tv : ∀ m : Nat, m < n → ∃ v : JBv, M'[m]? = some v.row
def jbshArr (σ : St) (s i : Nat) : RSl := match getBlk σ s with
  | some x => (match cRsl (x.cells.getD i (.inl undef)) with
    | some r => r
    | none => ⟨0, 0, 0, 0, 0⟩)
  | none => ⟨0, 0, 0, 0, 0⟩
def jbcapAt (σ : St) (a : Nat) : Nat := match getArr σ a with
  | some b => b.cap
  | none => 0
def jbswInv (tm : List AV) (σ : St) : Inv where
  X := Int × (Int × (Rws × Rws))
  tags := [0]
  tag _ _ := 0
  J := [2,3,5,6,7,8,9,10,11,15,16,17,18,19,20,21,22,23,24,25,26,27,28,29,30,31,32,33,34,35,36,37,38,39,40,41,42,43,44,45,46,47,48,49,50,51,52,53,54,55,56,57,58,59,60,61,62,63,64,65,66,67,68,69,70,71,72,73,74,75,76,77,78,79]
  val _ x := [(4, xi .i64 x.2.1), (14, xi .i64 x.1)]
  st _ x σ' := ⟨σ'.heap, σ'.ints, σ'.opqs, (σ'.arrs.set (jbshArr σ 0 0).a (some (jbkB x.2.2.1 (jbcapAt σ (jbshArr σ 0 0).a)))).set (jbshArr σ 0 1).a (some (jbvB x.2.2.2 (jbcapAt σ (jbshArr σ 0 1).a))), σ'.junks⟩
  I _ x := U.jbswI (rowsAt σ (slotR tm 1).a) (slotR tm 1).n (rowsAt σ (jbshArr σ 0 0).a) (rowsAt σ (jbshArr σ 0 1).a) (slotR tm 12).n x.1 x.2.1 x.2.2.1 x.2.2.2
  m _ x := ((slotR tm 12).n : Int).toNat - x.1.toNat
  ren := noRen
def jbinvSw : InvF := fun c tm σ => match tm.length, firstReg c with
  | 80, some 2 => some (jbswInv tm σ)
  | _, _ => none
def jbswSt (n c : Nat) (L : Rws) (d : Nat) (M : Rws) (m : Int) (G : Rws) (cg : Nat) : St := ⟨[jbB (rslC ⟨0, 1, 0, n, c⟩) (rslC ⟨1, 7, 0, n, d⟩) m], [], 0, [some (jbkB L c), some (jbvB M d), some (jbkB G cg)], 0⟩
--PLAIN
theorem jbsweep_vc (K:AV→St→Prop) (L M G:Rws) (n c d q cg:Nat) (m:Int):(runW jbov jbinvSw (tblIf 68 jbpBS) 67 [ptr 0 0,cell (rslC ⟨2,1,0,q,cg⟩)] (jbswSt n c L d M m G cg) K)=(∀ (z0:Int),z0=(↑n:Int)→(∃ (y1:Int × Int × Rws × Rws),((0:Nat)=0∧q=q∧cg=cg)∧0=y1.2.1∧((0:Nat)=0∧n=n∧c=c)∧z0=z0∧0=y1.1∧((0:Nat)=0∧n=n∧c=c)∧((0:Nat)=0∧n=n∧d=d)∧m=m∧(L=y1.2.2.1∧c=c∧false=false)∧(M=y1.2.2.2∧d=d∧false=false)∧(G=G∧cg=cg∧false=false)∧U.jbswI G q L M n y1.1 y1.2.1 y1.2.2.1 y1.2.2.2)∧∀ (x2:Int × Int × Rws × Rws),U.jbswI G q L M n x2.1 x2.2.1 x2.2.2.1 x2.2.2.2→(x2.1<z0→(0≤x2.1∧x2.1<(↑n:Int))∧∀ (j3:Nat),(↑j3:Int)=(↑((0:Nat)):Int) + x2.1→j3<List.length x2.2.2.1∧∀ (z4:Int),z4=U.fi x2.2.2.1 j3 ((0:Nat))→(cg=cg∧q≤List.length G∧q≤1000000∧U.jbSrtR G q)∧∀ (z5:Int),U.jbAt G q z4 z5→(U.jbHasAt G q z4 z5→∀ (z6:Int),z6=IntKind.wrap .i64 (x2.1 + (1:Int))→∃ (y7:Int × Int × Rws × Rws),((0:Nat)=0∧q=q∧cg=cg)∧x2.2.1=y7.2.1∧((0:Nat)=0∧n=n∧c=c)∧z0=z0∧z6=y7.1∧((0:Nat)=0∧n=n∧c=c)∧((0:Nat)=0∧n=n∧d=d)∧m=m∧(x2.2.2.1=y7.2.2.1∧c=c∧false=false)∧(x2.2.2.2=y7.2.2.2∧d=d∧false=false)∧(G=G∧cg=cg∧false=false)∧U.jbswI G q L M n y7.1 y7.2.1 y7.2.2.1 y7.2.2.2∧Int.toNat (↑n:Int) - Int.toNat y7.1<Int.toNat (↑n:Int) - Int.toNat x2.1)∧(¬U.jbHasAt G q z4 z5→(0≤x2.1∧x2.1<(↑n:Int))∧∀ (j8:Nat),(↑j8:Int)=(↑((0:Nat)):Int) + x2.1→j8<List.length x2.2.2.2∧∀ (z9:Int),z9=U.fi x2.2.2.2 j8 ((0:Nat))→∀ (z10:Int),z10=U.fi x2.2.2.2 j8 ((0:Nat) + (1:Nat))→∀ (z11:Int),z11=U.fi x2.2.2.2 j8 ((0:Nat) + (1:Nat) + (1:Nat))→∀ (z12:Int),z12=U.fi x2.2.2.2 j8 ((0:Nat) + (1:Nat) + (1:Nat) + (1:Nat))→∀ (z13:List Int),z13=U.fs x2.2.2.2 j8 ((0:Nat) + (1:Nat) + (1:Nat) + (1:Nat) + (1:Nat))→∀ (z14:List Int),z14=U.fs x2.2.2.2 j8 ((0:Nat) + (1:Nat) + (1:Nat) + (1:Nat) + (1:Nat) + (1:Nat))→∀ (z15:Int),z15=U.fi x2.2.2.2 j8 ((0:Nat) + (1:Nat) + (1:Nat) + (1:Nat) + (1:Nat) + (1:Nat) + (1:Nat))→(0≤x2.2.1∧x2.2.1<(↑n:Int))∧∀ (j16:Nat),(↑j16:Int)=(↑((0:Nat)):Int) + x2.2.1→j16<List.length x2.2.2.1∧∀ (L'17:List (List CV)),L'17=U.put x2.2.2.1 j16 ((0:Nat)) [CV.i z4]→(0≤x2.2.1∧x2.2.1<(↑n:Int))∧∀ (j18:Nat),(↑j18:Int)=(↑((0:Nat)):Int) + x2.2.1→j18<List.length x2.2.2.2∧∀ (L'19:List (List CV)),L'19=U.put x2.2.2.2 j18 ((0:Nat)) [CV.i z9,CV.i z10,CV.i z11,CV.i z12,CV.s z13,CV.s z14,CV.i z15]→∀ (z20:Int),z20=IntKind.wrap .i64 (x2.2.1 + (1:Int))→∀ (z21:Int),z21=IntKind.wrap .i64 (x2.1 + (1:Int))→∃ (y22:Int × Int × Rws × Rws),((0:Nat)=0∧q=q∧cg=cg)∧z20=y22.2.1∧((0:Nat)=0∧n=n∧c=c)∧z0=z0∧z21=y22.1∧((0:Nat)=0∧n=n∧c=c)∧((0:Nat)=0∧n=n∧d=d)∧m=m∧(L'17=y22.2.2.1∧c=c∧false=false)∧(L'19=y22.2.2.2∧d=d∧false=false)∧(G=G∧cg=cg∧false=false)∧U.jbswI G q L M n y22.1 y22.2.1 y22.2.2.1 y22.2.2.2∧Int.toNat (↑n:Int) - Int.toNat y22.1<Int.toNat (↑n:Int) - Int.toNat x2.1))∧(¬x2.1<z0→(0≤x2.2.1∧x2.2.1≤(↑n:Int)∧(↑n:Int)≤(↑c:Int))∧∀ (o23 n24 c25:Nat),((↑o23:Int)=if (↑c:Int)=Option.getD (some x2.2.1) (0:Int) then (↑((0:Nat)):Int) else (↑((0:Nat)):Int) + x2.2.1)→(↑n24:Int)=(↑n:Int) - x2.2.1→(↑c25:Int)=(↑c:Int) - x2.2.1→o23 + n24≤List.length x2.2.2.1∧∀ (L'26:List (List CV)),L'26=List.take o23 x2.2.2.1 ++ List.replicate n24 [CV.i (0:Int)] ++ List.drop (o23 + n24) x2.2.2.1→(0≤x2.2.1∧x2.2.1≤(↑n:Int)∧(↑n:Int)≤(↑d:Int))∧∀ (o27 n28 c29:Nat),((↑o27:Int)=if (↑d:Int)=Option.getD (some x2.2.1) (0:Int) then (↑((0:Nat)):Int) else (↑((0:Nat)):Int) + x2.2.1)→(↑n28:Int)=(↑n:Int) - x2.2.1→(↑c29:Int)=(↑d:Int) - x2.2.1→o27 + n28≤List.length x2.2.2.2∧∀ (L'30:List (List CV)),L'30=List.take o27 x2.2.2.2 ++ List.replicate n28 [CV.i (0:Int),CV.i (0:Int),CV.i (0:Int),CV.i (0:Int),CV.s [],CV.s [],CV.i (0:Int)] ++ List.drop (o27 + n28) x2.2.2.2→((0:Int)≤0∧0≤x2.2.1∧x2.2.1≤(↑c:Int))∧∀ (o31 n32 c33:Nat),((↑o31:Int)=if (↑c:Int)=Option.getD none (0:Int) then (↑((0:Nat)):Int) else (0:Int))→(↑n32:Int)=x2.2.1 - (0:Int)→(↑c33:Int)=(↑c:Int) - (0:Int)→((0:Int)≤0∧0≤x2.2.1∧x2.2.1≤(↑d:Int))∧∀ (o34 n35 c36:Nat),((↑o34:Int)=if (↑d:Int)=Option.getD none (0:Int) then (↑((0:Nat)):Int) else (0:Int))→(↑n35:Int)=x2.2.1 - (0:Int)→(↑c36:Int)=(↑d:Int) - (0:Int)→K (Sum.inr []) ⟨[some ⟨nat_lit 94,[rslC ⟨0,1,o31,n32,c33⟩,rslC ⟨1,7,o34,n35,c36⟩,xintC .i64 m],none,3,false⟩],[],0,[some ⟨nat_lit 40,.o (.rows [.n .u64] L'26),[],c,false⟩,some ⟨nat_lit 43,.o (.rows [.n .u64,.n .u32,.n .i64,.n .i64,CK.s,CK.s,.n .i64] L'30),[],d,false⟩,some ⟨40,.o (.rows [.n .u64] G),[],cg,false⟩],0⟩)) := by kernel_rfl
end Go.Proofs.Ytgopjjimafcgjaa
end

section
set_option linter.unusedVariables false
set_option linter.unusedSimpArgs false
set_option maxRecDepth 10000
namespace Go.Proofs.Ytgopjjimafcgjaa
open Go Reck Ost
noncomputable def jbKeep (G : Rws) (q : Nat) (p : Int × JBv) : Bool := @decide (¬ U.jbIn G q p.1) (Classical.propDecidable _)
theorem jbkp_succ (G : Rws) (q : Nat) (L : Rws) (i : Nat) : (¬ U.jbIn G q (U.fi L i 0) → U.jbKp G q L (i + 1) = U.jbKp G q L i ++ [i]) ∧ (U.jbIn G q (U.fi L i 0) → U.jbKp G q L (i + 1) = U.jbKp G q L i) := by
  unfold U.jbKp
  rw [List.range_succ, List.filter_append]
  refine ⟨fun h => ?_, fun h => ?_⟩
  · rw [List.filter_cons_of_pos (by simp [h])]; rfl
  · rw [List.filter_cons_of_neg (by simp [h])]; simp
theorem jbkp_le (G : Rws) (q : Nat) (L : Rws) (i : Nat) : (U.jbKp G q L i).length ≤ i := by
  unfold U.jbKp
  exact Nat.le_trans (List.length_filter_le _ _) (by rw [List.length_range]; exact Nat.le_refl _)
theorem jbrow_key {n c d : Nat} {L M : Rws} {P : JBP} (h : U.jbshI n c L d M P) {m : Nat} {p : Int × JBv} (hp : P[m]? = some p) : L[m]? = some [.i p.1] ∧ M[m]? = some p.2.row ∧ U.fi L m 0 = p.1 := by
  have hm : m < n := by rw [← jbshI_n h]; exact (List.getElem?_eq_some_iff.1 hp).1
  have h1 := fuGet h.kf hm
  have h2 := fuGet h.vf hm
  refine ⟨?_, ?_, jbkey_at h hp⟩
  · rw [h1]; simp [U.jbks, hp]
  · rw [h2]; simp [U.jbvs, hp]
theorem jbkp_map {n c d : Nat} {L M : Rws} {P : JBP} (h : U.jbshI n c L d M P) (G : Rws) (q : Nat) : ∀ i : Nat, i ≤ n → (U.jbKp G q L i).map (fun m => L.getD m []) = U.jbks ((P.take i).filter (jbKeep G q)) ∧ (U.jbKp G q L i).map (fun m => M.getD m []) = U.jbvs ((P.take i).filter (jbKeep G q))
  | 0, _ => ⟨rfl, rfl⟩
  | i + 1, hi => by
    have hn := jbshI_n h
    obtain ⟨h1, h2⟩ := jbkp_map h G q i (by omega)
    have hp := List.getElem?_eq_getElem (show i < P.length by omega)
    obtain ⟨r1, r2, r3⟩ := jbrow_key h hp
    have hk := jbkp_succ G q L i
    have ht : P.take (i + 1) = P.take i ++ [P[i]] := by rw [List.take_add_one, hp]; rfl
    rw [ht, List.filter_append]
    by_cases hin : U.jbIn G q (U.fi L i 0)
    · have hf : jbKeep G q P[i] = false := by unfold jbKeep; rw [← r3]; simp [hin]
      rw [hk.2 hin, List.filter_cons_of_neg (by rw [hf]; decide)]
      simp only [List.filter_nil, List.append_nil]
      exact ⟨h1, h2⟩
    · have hf : jbKeep G q P[i] = true := by unfold jbKeep; rw [← r3]; simp [hin]
      rw [hk.1 hin, List.filter_cons_of_pos hf, List.map_append, List.map_append, h1, h2]
      unfold U.jbks U.jbvs
      rw [List.map_append, List.map_append]
      simp only [List.map_cons, List.map_nil, List.filter_nil, List.getD_eq_getElem?_getD, r1, r2, Option.getD_some]
      exact ⟨trivial, trivial⟩
theorem jbin_iff {G : Rws} {q : Nat} {k : Int} {z : Int} (hs : U.jbSrtR G q) (ha : U.jbAt G q k z) : U.jbHasAt G q k z ↔ U.jbIn G q k := by
  have hb := ha.b
  constructor
  · rintro ⟨h1, h2⟩
    exact ⟨z.toNat, by omega, h2⟩
  · rintro ⟨m, hm, hk⟩
    have h1 : ¬ (m : Int) < z := fun h => by
      have := ha.lo m h
      rw [hk] at this; exact jbirr this
    have h2 : ¬ z < m := fun h => by
      have a := ha.hi z.toNat (by omega) (by omega)
      have b := hs.out z.toNat m (by omega) hm
      rw [hk] at b; exact a b
    exact ⟨by omega, by rw [show z.toNat = m by omega]; exact hk⟩
theorem jbset_put {L : Rws} {j : Nat} {a v : CV} (h : L[j]? = some [a]) : U.put L j 0 [v] = L.set j [v] := by
  unfold U.put
  rw [List.getD_eq_getElem?_getD, h]; rfl
theorem jbset_putV {L : Rws} {j : Nat} {a v : JBv} (h : L[j]? = some a.row) : U.put L j 0 v.row = L.set j v.row := by
  unfold U.put
  rw [List.getD_eq_getElem?_getD, h]; rfl
theorem jbtake_set {α : Type} (X : List α) (j : Nat) (v : α) (h : j < X.length) : (X.set j v).take (j + 1) = X.take j ++ [v] := by
  rw [List.take_add_one, List.getElem?_set_self h, List.take_set_of_le (Nat.le_refl _)]; rfl
theorem jbsw_no {G L M L' M' : Rws} {q n : Nat} {i j z : Int} (h : U.jbswI G q L M n i j L' M') (hi : i < n) (hz : z = i + 1) (hin : U.jbIn G q (U.fi L i.toNat 0)) : U.jbswI G q L M n z j L' M' := by
  obtain ⟨h1, h2, h3, h4, h5, h6, h7, h8, h9⟩ := h
  have e : z.toNat = i.toNat + 1 := by omega
  have hk := (jbkp_succ G q L i.toNat).2 hin
  refine ⟨by omega, h2, by rw [e, hk]; exact h3, by rw [e, hk]; exact h4, by rw [e, hk]; exact h5, fun m hm => h6 m (by omega), fun m hm => h7 m (by omega), h8, h9⟩
theorem jbsw_yes {G L M L' M' L2 M2 : Rws} {q n : Nat} {i j z y : Int} {k : Int} {v : JBv} (h : U.jbswI G q L M n i j L' M') (hi : i < n) (hz : z = i + 1) (hy : y = j + 1) (hin : ¬ U.jbIn G q (U.fi L i.toNat 0)) (hl : n ≤ L.length ∧ n ≤ M.length)
    (hk : L[i.toNat]? = some [.i k]) (hv : M[i.toNat]? = some v.row) (h2 : L2 = U.put L' j.toNat 0 [.i k]) (h3 : M2 = U.put M' j.toNat 0 v.row) : U.jbswI G q L M n z y L2 M2 := by
  obtain ⟨g1, g2, g3, g4, g5, g6, g7, g8, g9⟩ := h
  have e : z.toNat = i.toNat + 1 := by omega
  have e2 : y.toNat = j.toNat + 1 := by omega
  have hk' := (jbkp_succ G q L i.toNat).1 hin
  obtain ⟨a, ha⟩ := g8 j.toNat (by omega)
  obtain ⟨b, hb⟩ := g9 j.toNat (by omega)
  rw [jbset_put ha] at h2
  rw [jbset_putV hb] at h3
  have hjl := (List.getElem?_eq_some_iff.1 ha).1
  have hjm := (List.getElem?_eq_some_iff.1 hb).1
  refine ⟨by omega, by rw [h2, h3, List.length_set, List.length_set]; exact g2, ?_, ?_, ?_, fun m hm => ?_, fun m hm => ?_, fun m hm => ?_, fun m hm => ?_⟩
  · rw [e, hk', List.length_append]; simp; omega
  · rw [e, hk', e2, h2, jbtake_set _ _ _ hjl, g4, List.map_append]
    simp only [List.map_cons, List.map_nil, List.getD_eq_getElem?_getD, hk, Option.getD_some]
  · rw [e, hk', e2, h3, jbtake_set _ _ _ hjm, g5, List.map_append]
    simp only [List.map_cons, List.map_nil, List.getD_eq_getElem?_getD, hv, Option.getD_some]
  · rw [h2, List.getElem?_set_ne (by omega)]; exact g6 m (by omega)
  · rw [h3, List.getElem?_set_ne (by omega)]; exact g7 m (by omega)
  · rw [h2, List.getElem?_set]
    split
    · exact ⟨k, rfl⟩
    · exact g8 m hm
  · rw [h3, List.getElem?_set]
    split
    · exact ⟨v, rfl⟩
    · exact g9 m hm
theorem jbclr_fu {L' L2 A : Rws} {n c j o r : Nat} {z : List CV} (hl : L'.length = c) (hn : n ≤ c) (hj : j ≤ n) (hs : n ≤ 1000000) (hA : A = L'.take j) (ho : o = j ∨ n - j = 0) (hr : r = n - j) (h2 : L2 = L'.take o ++ List.replicate r z ++ L'.drop (o + r)) (hoc : o + r ≤ L'.length) : U.Fu L2 j c A := by
  have hll : L2.length = c := by
    rw [h2, List.length_append, List.length_append, List.length_take, List.length_replicate, List.length_drop]; omega
  refine ⟨?_, hll, by omega, by omega⟩
  rcases ho with rfl | h0
  · rw [h2, List.append_assoc, List.take_append_of_le_length (by rw [List.length_take]; omega), List.take_take, Nat.min_self]; exact hA
  · have : r = 0 := by omega
    subst this
    have : L2 = L' := by rw [h2]; simp
    rw [this]; exact hA
/-- P' is P without the keys of G. -/
structure U.jbSwp (P : JBP) (G : Rws) (q : Nat) (P' : JBP) : Prop where
  out : P' = P.filter (jbKeep G q)
set_option maxHeartbeats 1000000 in
theorem jbsweep_run (K : AV → St → Prop) (L M G : Rws) (n c d q cg : Nat) (m : Int) (P : JBP) (h : U.jbshI n c L d M P) (hn : n ≤ 100000) (hG : q ≤ G.length) (hq : q ≤ 1000000) (hs : U.jbSrtR G q)
    (hK : ∀ (n' : Nat) (L' M' : Rws) (P' : JBP), n' = U.jblen P' → U.jbSwp P G q P' → U.jbshI n' c L' d M' P' → K (.inr []) (jbswSt n' c L' d M' m G cg)) :
    runW jbov jbinvSw (tblIf 68 jbpBS) 67 [ptr 0 0, cell (rslC ⟨2, 1, 0, q, cg⟩)] (jbswSt n c L d M m G cg) K := by
  rw [jbsweep_vc]
  have hPn := jbshI_n h
  have l1 := h.kf.len
  have l2 := h.kf.le
  have l3 := h.vf.len
  have l4 := h.vf.le
  have hrow : ∀ j : Nat, j < n → ∃ p, P[j]? = some p := fun j hj => ⟨_, List.getElem?_eq_getElem (by omega)⟩
  intro z0 h0
  constructor
  · refine ⟨(0, (0, (L, M))), ?_⟩
    repeat' (first | exact rfl | with_reducible apply And.intro)
    refine ⟨⟨Int.le_refl _, by dsimp only; omega, Int.le_refl _, Int.le_refl _⟩, ⟨rfl, rfl⟩, rfl, rfl, rfl, fun _ _ => rfl, fun _ _ => rfl, fun m hm => ?_, fun m hm => ?_⟩
    · obtain ⟨p, hp⟩ := hrow m hm
      exact ⟨p.1, (jbrow_key h hp).1⟩
    · obtain ⟨p, hp⟩ := hrow m hm
      exact ⟨p.2, (jbrow_key h hp).2.1⟩
  rintro ⟨i, j, L1, M1⟩ hI
  have hI' := hI
  obtain ⟨⟨b1, b2, b3, b4⟩, ⟨k1, k2⟩, k3, k4, k5, k6, k7, k8, k9⟩ := hI'
  dsimp only at b1 b2 b3 b4 k1 k2 k3 k4 k5 k6 k7 k8 k9 hI ⊢
  refine ⟨fun hi => ⟨by omega, fun j3 hj3 => ⟨by omega, fun z4 h4 => ⟨⟨rfl, hG, hq, hs⟩, fun z5 hat => ⟨fun hx z6 h6 => ?_, fun hx => ⟨by omega, fun j8 hj8 => ⟨by omega, fun y0 g0 y1 g1 y2 g2 y3 g3 y4 g4 y5 g5 y6 g6 => ⟨by omega, fun j10 hj10 => ⟨by omega, fun L11 e11 => ⟨by omega, fun j12 hj12 => ⟨by omega, fun L13 e13 z14 h14 z15 h15 => ?_⟩⟩⟩⟩⟩⟩⟩⟩⟩⟩, fun hi => ?_⟩
  · have e6 := iw h6 (by omega)
    obtain ⟨p, hp⟩ := hrow j3 (by omega)
    have hf : U.fi L1 j3 0 = U.fi L j3 0 := by
      unfold U.fi
      rw [List.getD_eq_getElem?_getD, List.getD_eq_getElem?_getD, k6 j3 (by omega)]
    have hin : U.jbIn G q (U.fi L i.toNat 0) := by
      rw [show i.toNat = j3 by omega, ← hf, ← h4]
      exact (jbin_iff hs hat).1 hx
    refine ⟨(z6, (j, (L1, M1))), ?_⟩
    repeat' (first | exact rfl | exact jbsw_no hI (by omega) e6 hin | with_reducible apply And.intro)
    dsimp only; omega
  · have e14 := iw h14 (by omega)
    have e15 := iw h15 (by omega)
    obtain ⟨p, hp⟩ := hrow j3 (by omega)
    obtain ⟨r1, r2, r3⟩ := jbrow_key h hp
    have hf : U.fi L1 j3 0 = U.fi L j3 0 := by
      unfold U.fi
      rw [List.getD_eq_getElem?_getD, List.getD_eq_getElem?_getD, k6 j3 (by omega)]
    have hg : M1.getD j8 [] = p.2.row := by
      rw [List.getD_eq_getElem?_getD, k7 j8 (by omega), show j8 = j3 by omega, r2]; rfl
    have ez4 : z4 = p.1 := by rw [h4, hf, r3]
    have ez9 : (⟨y0, y1, y2, y3, y4, y5, y6⟩ : JBv) = p.2 := by
      have q0 : y0 = p.2.v0 := by rw [g0]; unfold U.fi; rw [hg]; rfl
      have q1 : y1 = p.2.v1 := by rw [g1]; unfold U.fi; rw [hg]; rfl
      have q2 : y2 = p.2.v2 := by rw [g2]; unfold U.fi; rw [hg]; rfl
      have q3 : y3 = p.2.v3 := by rw [g3]; unfold U.fi; rw [hg]; rfl
      have q4 : y4 = p.2.v4 := by rw [g4]; unfold U.fs; rw [hg]; rfl
      have q5 : y5 = p.2.v5 := by rw [g5]; unfold U.fs; rw [hg]; rfl
      have q6 : y6 = p.2.v6 := by rw [g6]; unfold U.fi; rw [hg]; rfl
      rw [q0, q1, q2, q3, q4, q5, q6]
    have hin : ¬ U.jbIn G q (U.fi L i.toNat 0) := by
      rw [show i.toNat = j3 by omega, ← hf, ← h4]
      exact fun hy => hx ((jbin_iff hs hat).2 hy)
    have := jbsw_yes (k := z4) (v := ⟨y0, y1, y2, y3, y4, y5, y6⟩) hI (by omega) e15 e14 hin ⟨by omega, by omega⟩ (by rw [show i.toNat = j3 by omega, r1, ez4]) (by rw [show i.toNat = j3 by omega, r2, ez9]) (L2 := L11) (M2 := L13) (by rw [e11, show j10 = j.toNat by omega]) (by rw [e13, show j12 = j.toNat by omega]; rfl)
    refine ⟨(z15, (z14, (L11, L13))), ?_⟩
    repeat' (first | exact rfl | exact this | with_reducible apply And.intro)
    dsimp only; omega
  · obtain rfl : i = n := by omega
    have hkm := jbkp_map h G q n (Nat.le_refl _)
    rw [Int.toNat_natCast] at k3 k4 k5
    rw [List.take_of_length_le (by omega)] at hkm
    refine ⟨⟨by omega, by omega, by omega⟩, fun o17 n18 c19 h17 h18 h19 => ?_⟩
    replace h17 : (o17 : Int) = if (c : Int) = j then 0 else 0 + j := h17
    have ho : o17 = j.toNat ∨ n - j.toNat = 0 := by
      split at h17
      · right; omega
      · left; omega
    have hol : o17 + n18 ≤ L1.length := by split at h17 <;> omega
    clear h17
    refine ⟨hol, fun L20 e20 => ⟨⟨by omega, by omega, by omega⟩, fun o21 n22 c23 h21 h22 h23 => ?_⟩⟩
    replace h21 : (o21 : Int) = if (d : Int) = j then 0 else 0 + j := h21
    have ho2 : o21 = j.toNat ∨ n - j.toNat = 0 := by
      split at h21
      · right; omega
      · left; omega
    have hol2 : o21 + n22 ≤ M1.length := by split at h21 <;> omega
    clear h21
    refine ⟨hol2, fun L24 e24 => ⟨⟨by omega, by omega, by omega⟩, fun o25 n26 c27 h25 h26 h27 => ⟨⟨by omega, by omega, by omega⟩, fun o28 n29 c30 h28 h29 h30 => ?_⟩⟩⟩
    obtain rfl : o25 = 0 := by split at h25 <;> omega
    obtain rfl : o28 = 0 := by split at h28 <;> omega
    obtain rfl : n26 = j.toNat := by omega
    obtain rfl : n29 = j.toNat := by omega
    obtain rfl : c27 = c := by omega
    obtain rfl : c30 = d := by omega
    have hsm := h.kf.sm
    refine hK _ L20 L24 (P.filter (jbKeep G q)) ?_ ⟨rfl⟩ ⟨?_, ?_, ⟨List.Pairwise.filter _ h.srt.out⟩⟩
    · have : (U.jbks (P.filter (jbKeep G q))).length = j.toNat := by rw [← hkm.1, List.length_map]; omega
      unfold U.jbks at this
      rw [List.length_map] at this
      exact this.symm
    · exact jbclr_fu (by omega) l2 (by omega) hsm (by rw [k4, hkm.1]) ho (by omega) e20 hol
    · exact jbclr_fu (by omega) l4 (by omega) hsm (by rw [k5, hkm.2]) ho2 (by omega) e24 hol2
end Go.Proofs.Ytgopjjimafcgjaa
end

section
set_option linter.unusedVariables false
set_option linter.unusedSimpArgs false
set_option maxRecDepth 10000
namespace Go.Proofs.Ytgopjjimafcgjaa
open Go Reck Ost
def jbpSweep : Pat := fun args σ => match args, σ with
  | [.inl (.inl (.inr (.inl (0, 0)))), l], ⟨[p], [], 0, [a1, a2, some ⟨40, .o (.rows [.n .u64] G), [], cg, false⟩], 0⟩ => match rslX l, jbshC p a1 a2 with
    | some ⟨2, 1, 0, q, cl⟩, some (n, c, L, d, M, m) => some fun K => ∃ P, (cl = cg ∧ jbshD p a1 a2 ∧ U.jbshI n c L d M P ∧ n ≤ 100000 ∧ q ≤ G.length ∧ q ≤ 1000000 ∧ U.jbSrtR G q) ∧ ∀ (n' : Nat) (L' M' : Rws) (P' : JBP), n' = U.jblen P' → U.jbSwp P G q P' → U.jbshI n' c L' d M' P' → K (.inr []) (jbswSt n' c L' d M' m G cg)
    | _, _ => none
  | _, _ => none
theorem jbpSweep_ok : PatOk 67 jbpSweep := by
  intro tm σ C h K hK w0 e w hk vs hvs
  unfold jbpSweep at h
  split at h
  · split at h
    · rename_i hl hσ
      simp only [Option.some.injEq] at h; subst h
      obtain ⟨P, ⟨hc, hy, h1, h2, h3, h4, h5⟩, h6⟩ := hK
      obtain ⟨rfl, rfl, rfl⟩ := jbshC_eq hσ hy
      subst hc
      obtain rfl := rslX_eq hl
      exact knownD noOv names (opMW_ok jbovOk) (conOk_ofR (tblIf_ok jbpBS_ok)) (jbsweep_run K _ _ _ _ _ _ _ _ _ P h1 h2 h3 h4 h5 h6) w0 e w hk vs hvs
    · cases h
  · cases h
def jbtD : Tbl := tblOr (tblIf 67 jbpSweep) jbtS
theorem jbtD_ok : TblOk Try.prog jbtD := tblOr_ok (tblIf_ok jbpSweep_ok) jbtS_ok
/-- What a loop has told to go, of the first ones. -/
structure U.jbdpI (P : JBP) (f : Int × JBv → Bool) (i : Int) (G : Rws) (q cg : Nat) (O : Rws) (r co : Nat) : Prop where
  out : (0 ≤ i ∧ i ≤ P.length) ∧ G = U.jbks ((P.take i.toNat).filter f) ∧ O = U.jbvs ((P.take i.toNat).filter f) ∧ q = G.length ∧ q ≤ cg ∧ r = O.length ∧ r ≤ co ∧ (q : Int) ≤ i ∧ r = q
theorem jbdp_0 (P : JBP) (f : Int × JBv → Bool) : U.jbdpI P f 0 [] 0 0 [] 0 0 :=
  ⟨⟨by omega, by omega⟩, rfl, rfl, rfl, Nat.le_refl _, rfl, Nat.le_refl _, Int.le_refl _, rfl⟩
theorem jbtake1 {P : JBP} {i : Int} {j : Nat} {p : Int × JBv} (h0 : 0 ≤ i) (hj : (j : Int) = i) (hp : P[j]? = some p) : P.take (i + 1).toNat = P.take i.toNat ++ [p] := by
  rw [show (i + 1).toNat = j + 1 by omega, show i.toNat = j by omega, List.take_add_one, hp]; rfl
theorem jbdp_no {P : JBP} {f : Int × JBv → Bool} {i i' : Int} {G O : Rws} {q cg r co j : Nat} {p : Int × JBv} (h : U.jbdpI P f i G q cg O r co) (hj : (j : Int) = i) (hp : P[j]? = some p) (hf : f p = false) (hi : i' = i + 1) : U.jbdpI P f i' G q cg O r co := by
  obtain ⟨⟨h1, h2⟩, h3, h4, h5, h6, h7, h8, h9, h10⟩ := h.out
  have hl := (List.getElem?_eq_some_iff.1 hp).1
  subst hi
  have e := jbtake1 h1 hj hp
  have e2 : (P.take (i + 1).toNat).filter f = (P.take i.toNat).filter f := by
    rw [e, List.filter_append, List.filter_cons_of_neg (by rw [hf]; decide)]; simp
  exact ⟨⟨by omega, by omega⟩, by rw [e2]; exact h3, by rw [e2]; exact h4, h5, h6, h7, h8, by omega, h10⟩
theorem jbdp_yes {P : JBP} {f : Int × JBv → Bool} {i i' : Int} {G O G' O' : Rws} {q cg r co q' cg' r' co' j : Nat} {p : Int × JBv} (h : U.jbdpI P f i G q cg O r co) (hj : (j : Int) = i) (hp : P[j]? = some p) (hf : f p = true) (hi : i' = i + 1)
    (e1 : G' = List.take q (List.drop 0 G) ++ [.i p.1] :: []) (e2 : q' = q + 1) (e3 : q' ≤ cg') (e4 : O' = List.take r (List.drop 0 O) ++ p.2.row :: []) (e5 : r' = r + 1) (e6 : r' ≤ co') : U.jbdpI P f i' G' q' cg' O' r' co' := by
  obtain ⟨⟨h1, h2⟩, h3, h4, h5, h6, h7, h8, h9, h10⟩ := h.out
  have hl := (List.getElem?_eq_some_iff.1 hp).1
  subst hi
  have e := jbtake1 h1 hj hp
  have ef : (P.take (i + 1).toNat).filter f = (P.take i.toNat).filter f ++ [p] := by
    rw [e, List.filter_append, List.filter_cons_of_pos hf]; rfl
  rw [List.drop_zero, h5, List.take_length] at e1
  rw [List.drop_zero, h7, List.take_length] at e4
  refine ⟨⟨by omega, by omega⟩, ?_, ?_, ?_, e3, ?_, e6, by omega, by omega⟩
  · rw [ef, e1, h3]; unfold U.jbks; rw [List.map_append]; rfl
  · rw [ef, e4, h4]; unfold U.jbvs; rw [List.map_append]; rfl
  · rw [e1, List.length_append, e2, h5]; rfl
  · rw [e4, List.length_append, e5, h7]; rfl
theorem jbat {P : JBP} {j : Nat} {p : Int × JBv} (h : P[j]? = some p) : (U.jbvs P).getD j [] = p.2.row ∧ (U.jbks P).getD j [] = [.i p.1] ∧ U.fi (U.jbks P) j 0 = p.1 := by
  have h1 : (U.jbvs P).getD j [] = p.2.row := by rw [List.getD_eq_getElem?_getD]; simp [U.jbvs, h]
  have h2 : (U.jbks P).getD j [] = [.i p.1] := by rw [List.getD_eq_getElem?_getD]; simp [U.jbks, h]
  unfold U.fi
  rw [h2]
  exact ⟨h1, rfl, rfl⟩
theorem jbone {P : JBP} (hs : U.jbSrt P) {k : Int} {e e' : JBv} (h : (k, e) ∈ P) (h' : (k, e') ∈ P) : e = e' := by
  obtain ⟨i, hi⟩ := List.getElem?_of_mem h
  obtain ⟨j, hj⟩ := List.getElem?_of_mem h'
  obtain ⟨li, hi⟩ := List.getElem?_eq_some_iff.1 hi
  obtain ⟨lj, hj⟩ := List.getElem?_eq_some_iff.1 hj
  have hp := List.pairwise_iff_getElem.1 hs.out
  rcases Nat.lt_trichotomy i j with g | g | g
  · have := hp i j li lj g
    rw [hi, hj] at this; exact (jbirr this).elim
  · subst g
    rw [hi] at hj
    exact (Prod.mk.injEq _ _ _ _ ▸ hj).2
  · have := hp j i lj li g
    rw [hi, hj] at this; exact (jbirr this).elim
theorem jbin_ks {Q : JBP} {k : Int} : U.jbIn (U.jbks Q) Q.length k ↔ ∃ e, (k, e) ∈ Q := by
  constructor
  · rintro ⟨m, hm, hk⟩
    have hp := List.getElem?_eq_getElem hm
    have := (jbat hp).2.2
    exact ⟨Q[m].2, by rw [← hk, this]; exact List.getElem_mem hm⟩
  · rintro ⟨e, he⟩
    obtain ⟨m, hm⟩ := List.getElem?_of_mem he
    exact ⟨m, (List.getElem?_eq_some_iff.1 hm).1, (jbat hm).2.2⟩
theorem jbkeep_eq {P : JBP} (hs : U.jbSrt P) (f : Int × JBv → Bool) : P.filter (jbKeep (U.jbks (P.filter f)) (P.filter f).length) = P.filter fun p => !f p := by
  apply List.filter_congr
  intro p hp
  have : U.jbIn (U.jbks (P.filter f)) (P.filter f).length p.1 ↔ f p = true := by
    rw [jbin_ks]
    constructor
    · rintro ⟨e, he⟩
      obtain ⟨h1, h2⟩ := List.mem_filter.1 he
      have := jbone hs h1 hp
      rw [this] at h2; exact h2
    · intro h
      exact ⟨p.2, List.mem_filter.2 ⟨hp, h⟩⟩
  unfold jbKeep
  by_cases h : f p = true
  · simp [this.2 h, h]
  · have h' : ¬ U.jbIn (U.jbks (P.filter f)) (P.filter f).length p.1 := fun g => h (this.1 g)
    simp [h', h]
/-- Behind the loop: what is told is all that goes; its keys rise; without them the others are left. -/
theorem jbdp_end {P : JBP} {f : Int × JBv → Bool} {i : Int} {G O : Rws} {q cg r co : Nat} (hs : U.jbSrt P) (h : U.jbdpI P f i G q cg O r co) (hi : ¬ i < P.length) :
    G = U.jbks (P.filter f) ∧ O = U.jbvs (P.filter f) ∧ q = (P.filter f).length ∧ r = (P.filter f).length ∧ U.jbSrtR G q ∧ ∀ P', U.jbSwp P G q P' → P' = P.filter fun p => !f p := by
  obtain ⟨⟨h1, h2⟩, h3, h4, h5, h6, h7, h8, h9, h10⟩ := h.out
  rw [List.take_of_length_le (by omega)] at h3 h4
  have hq : q = (P.filter f).length := by rw [h5, h3]; simp [U.jbks]
  refine ⟨h3, h4, hq, by omega, ⟨fun a b hab hb => ?_⟩, fun P' hw => by rw [hw.out, h3, hq]; exact jbkeep_eq hs f⟩
  have ha := List.getElem?_eq_getElem (show a < (P.filter f).length by omega)
  have hb' := List.getElem?_eq_getElem (show b < (P.filter f).length by omega)
  rw [h3, (jbat ha).2.2, (jbat hb').2.2]
  exact List.pairwise_iff_getElem.1 (List.Pairwise.filter _ hs.out) a b (by omega) (by omega) hab
end Go.Proofs.Ytgopjjimafcgjaa
end
