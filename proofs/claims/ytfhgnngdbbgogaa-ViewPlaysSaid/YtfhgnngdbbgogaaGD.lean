/- Parts of a proof, one behind the other: VL6 VL7 VL8 VL9 VLA VLB. No condition. -/
import Derived.Test.YtfhgnngdbbgogaaGC
section
namespace Go.Proofs.Ytfhgnngdbbgogaa
open Go Reck Ost
set_option linter.unusedVariables false
set_option maxRecDepth 100000
def vlpBS : Pat := fun args σ => match args, σ with
  | [s, k], ⟨[], [], 0, [some ⟨3, .o (.rows [.n .i64] L), [], c0, false⟩], 0⟩ => match rslX s, aInt k with
    | some ⟨0, 1, 0, n, c⟩, some k => some fun K => (c0 = c ∧ n ≤ L.length ∧ n ≤ 1000000 ∧ U.vlSrtR L n) ∧ ∀ z : Int, U.vlAt L n k z → (U.vlHasAt L n k z → K (zbA z true) ⟨[], [], 0, [some (vlkB L c)], 0⟩) ∧ (¬ U.vlHasAt L n k z → K (zbA z false) ⟨[], [], 0, [some (vlkB L c)], 0⟩)
    | _, _ => none
  | _, _ => none
theorem vlpBS_ok : PatOk 60 vlpBS := by
  intro tm σ C h K hK w0 e w hk vs hvs
  unfold vlpBS at h
  split at h
  · split at h
    · rename_i n c k hs hk'
      obtain rfl := rslX_eq hs
      simp only [Option.some.injEq] at h; subst h
      obtain ⟨⟨rfl, h1, h2, h3⟩, h4⟩ := hK
      obtain ⟨v, u, rfl, hv, hu⟩ := twos hvs
      exact knownC noOv names (conOk_ofR (tblIf_ok vlpLess_ok)) (vlbs_run K _ _ _ k h1 h2 h3 h4) w0 e w hk _ (map2 hv (as_aInt hk' hu))
    · cases h
  · cases h
def vltSh : Tbl := tblOr vltID (tblIf 60 vlpBS)
theorem vltSh_ok : TblOk Try.prog vltSh := tblOr_ok vltID_ok (tblIf_ok vlpBS_ok)
def vlB (a b : Cell) (m : Int) : Option Blk := some ⟨81, [a, b, xintC .i64 m], none, 3, false⟩
def vlSt (n c : Nat) (L : Rws) (d : Nat) (M : Rws) (m : Int) : St := ⟨[vlB (rslC ⟨0, 1, 0, n, c⟩) (rslC ⟨1, 5, 0, n, d⟩) m], [], 0, [some (vlkB L c), some (vlvB M d)], 0⟩
theorem vlNew_vc (K:AV→St→Prop) (m:Int):(runV vlov inv0 tbl0 21 [xi .i64 m] emptySt K)=(K (Sum.inl (Sum.inl (Sum.inr (Sum.inl ((0:Nat),(0:Nat)))))) ⟨[some ⟨nat_lit 81,[Sum.inl (Value.slice none (0:Nat) (0:Nat)),Sum.inl (Value.slice none (0:Nat) (0:Nat)),xintC .i64 m],none,(0:Nat) + (1:Nat) + (1:Nat) + (1:Nat),false⟩],[],0,[],0⟩) := by kernel_rfl
theorem vlSet_vc (K:AV→St→Prop) (L M:Rws) (n c d:Nat) (m:Int) (k:Int) (v0 v1 v2 v3 v4:Int):(runV vlov inv0 vltSh 40 [ptr 0 0,xi .i64 k,.inl (.inr (vlC v0 v1 v2 v3 v4))] (vlSt n c L d M m) K)=((c=c∧n≤List.length L∧n≤1000000∧U.vlSrtR L n)∧∀ (z0:Int),U.vlAt L n k z0→(U.vlHasAt L n k z0→(0≤z0∧z0<(↑n:Int))∧∀ (j1:Nat),(↑j1:Int)=(↑((0:Nat)):Int) + z0→j1<List.length M∧∀ (L'2:List (List CV)),L'2=U.put M j1 ((0:Nat)) [CV.i v0,CV.i v1,CV.i v2,CV.i v3,CV.i v4]→K (Sum.inl (Sum.inl (xintC .i64 (0:Int)))) ⟨[some ⟨nat_lit 81,[rslC ⟨0,1,0,n,c⟩,rslC ⟨1,5,0,n,d⟩,xintC .i64 m],none,3,false⟩],[],0,[some ⟨3,.o (.rows [.n .i64] L),[],c,false⟩,some ⟨nat_lit 58,.o (.rows [.n .i64,.n .i64,.n .i64,.n .i64,.n .i64] L'2),[],d,false⟩],0⟩)∧(¬U.vlHasAt L n k z0→∀ (z3:Int),z3=(↑n:Int)→(m≤z3→K (Sum.inl (Sum.inl (xintC .i64 (4:Int)))) ⟨[some ⟨nat_lit 81,[rslC ⟨0,1,0,n,c⟩,rslC ⟨1,5,0,n,d⟩,xintC .i64 m],none,3,false⟩],[],0,[some ⟨3,.o (.rows [.n .i64] L),[],c,false⟩,some ⟨58,.o (.rows [.n .i64,.n .i64,.n .i64,.n .i64,.n .i64] M),[],d,false⟩],0⟩)∧(¬m≤z3→∃ (y4:Rws),(c=c∧U.Fu L n c y4∧(0≤z0∧z0≤(↑n:Int))∧n + (1:Nat)≤1000000)∧∀ (n'5 c'6:Nat) (L'7:Rws),n'5=n + (1:Nat)→U.Fu L'7 n'5 c'6 (U.insR y4 z0 [CV.i k])→v0=v0∧v1=v1∧v2=v2∧v3=v3∧v4=v4∧((0:Nat)=0∧n=n∧d=d)∧∃ (y8:Rws),(d=d∧U.Fu M n d y8∧(0≤z0∧z0≤(↑n:Int))∧n + (1:Nat)≤1000000)∧∀ (n'9 c'10:Nat) (L'11:Rws),n'9=n + (1:Nat)→U.Fu L'11 n'9 c'10 (U.insR y8 z0 [CV.i v0,CV.i v1,CV.i v2,CV.i v3,CV.i v4])→v0=v0∧v1=v1∧v2=v2∧v3=v3∧v4=v4∧((0:Nat)=0∧n=n∧d=d)∧K (Sum.inl (Sum.inl (xintC .i64 (0:Int)))) ⟨[some ⟨nat_lit 81,[rslC ⟨2,1,0,n'5,c'6⟩,rslC ⟨3,5,0,n'9,c'10⟩,xintC .i64 m],none,3,false⟩],[],0,[none,none,some ⟨3,.o (.rows [.n .i64] L'7),[],c'6,false⟩,some ⟨(58:TypeId),.o (.rows [.n .i64,.n .i64,.n .i64,.n .i64,.n .i64] L'11),[],c'10,false⟩],0⟩))) := by kernel_rfl
theorem vlGet_vc (K:AV→St→Prop) (L M:Rws) (n c d:Nat) (m:Int) (k:Int):(runV vlov inv0 vltSh 38 [ptr 0 0,xi .i64 k] (vlSt n c L d M m) K)=((c=c∧n≤List.length L∧n≤1000000∧U.vlSrtR L n)∧∀ (z0:Int),U.vlAt L n k z0→(U.vlHasAt L n k z0→(0≤z0∧z0<(↑n:Int))∧∀ (j1:Nat),(↑j1:Int)=(↑((0:Nat)):Int) + z0→j1<List.length M∧∀ (z2:Int),z2=U.fi M j1 ((0:Nat))→∀ (z3:Int),z3=U.fi M j1 ((0:Nat) + (1:Nat))→∀ (z4:Int),z4=U.fi M j1 ((0:Nat) + (1:Nat) + (1:Nat))→∀ (z5:Int),z5=U.fi M j1 ((0:Nat) + (1:Nat) + (1:Nat) + (1:Nat))→∀ (z6:Int),z6=U.fi M j1 ((0:Nat) + (1:Nat) + (1:Nat) + (1:Nat) + (1:Nat))→K (Sum.inr [Sum.inr [xintC .i64 z2,xintC .i64 z3,xintC .i64 z4,xintC .i64 z5,xintC .i64 z6],Sum.inl (Sum.inl (Value.bool true))]) ⟨[some ⟨nat_lit 81,[rslC ⟨0,1,0,n,c⟩,rslC ⟨1,5,0,n,d⟩,xintC .i64 m],none,3,false⟩],[],0,[some ⟨(3:TypeId),.o (.rows [.n .i64] L),[],c,false⟩,some ⟨(58:TypeId),.o (.rows [.n .i64,.n .i64,.n .i64,.n .i64,.n .i64] M),[],d,false⟩],0⟩)∧(¬U.vlHasAt L n k z0→K (Sum.inr [Sum.inr [xintC .i64 (0:Int),xintC .i64 (0:Int),xintC .i64 (0:Int),xintC .i64 (0:Int),xintC .i64 (0:Int)],Sum.inl (Sum.inl (Value.bool false))]) ⟨[some ⟨nat_lit 81,[rslC ⟨0,1,0,n,c⟩,rslC ⟨1,5,0,n,d⟩,xintC .i64 m],none,3,false⟩],[],0,[some ⟨(3:TypeId),.o (.rows [.n .i64] L),[],c,false⟩,some ⟨(58:TypeId),.o (.rows [.n .i64,.n .i64,.n .i64,.n .i64,.n .i64] M),[],d,false⟩],0⟩)) := by kernel_rfl
theorem vlVals_vc (K:AV→St→Prop) (L M:Rws) (n c d:Nat) (m:Int):(runV vlov inv0 vltSh 31 [ptr 0 0] (vlSt n c L d M m) K)=((n=0→K (Sum.inl (Sum.inl (rslC ⟨2,(4:Nat) + (1:Nat),0,0,0⟩))) ⟨[some ⟨nat_lit 81,[rslC ⟨0,1,0,n,c⟩,rslC ⟨1,5,0,n,d⟩,xintC .i64 m],none,3,false⟩],[],0,[some ⟨(3:TypeId),.o (.rows [.n .i64] L),[],c,false⟩,some ⟨(58:TypeId),.o (.rows [.n .i64,.n .i64,.n .i64,.n .i64,.n .i64] M),[],d,false⟩,some ⟨58,.o (.rows [.n .i64,.n .i64,.n .i64,.n .i64,.n .i64] U.nilL),[],0,false⟩],0⟩)∧True∧Nat.le ((0:Nat) + n) (List.length M)∧(0:Nat)≤16777216∧n≤16777216∧∀ (L'0:List (List CV)) (n'1 c'2:Nat),L'0=U.nilL ++ List.take n (List.drop ((0:Nat)) M)→n'1=0 + n→n'1≤c'2→K (Sum.inl (Sum.inl (rslC ⟨2,(4:Nat) + (1:Nat),0,n'1,c'2⟩))) ⟨[some ⟨nat_lit 81,[rslC ⟨0,1,0,n,c⟩,rslC ⟨1,5,0,n,d⟩,xintC .i64 m],none,3,false⟩],[],0,[some ⟨(3:TypeId),.o (.rows [.n .i64] L),[],c,false⟩,some ⟨(58:TypeId),.o (.rows [.n .i64,.n .i64,.n .i64,.n .i64,.n .i64] M),[],d,false⟩,some ⟨58,.o (.rows [.n .i64,.n .i64,.n .i64,.n .i64,.n .i64] L'0),[],c'2,false⟩],0⟩) := by kernel_rfl
theorem vlKeys_vc (K:AV→St→Prop) (L M:Rws) (n c d:Nat) (m:Int):(runQ inv0 tbl0 65 [ptr 0 0] (vlSt n c L d M m) K)=((n=0→K (Sum.inl (Sum.inl (rslC ⟨2,(0:Nat) + (1:Nat),0,0,0⟩))) ⟨[some ⟨nat_lit 81,[rslC ⟨0,1,0,n,c⟩,rslC ⟨1,5,0,n,d⟩,xintC .i64 m],none,3,false⟩],[],0,[some ⟨(3:TypeId),.o (.rows [.n .i64] L),[],c,false⟩,some ⟨(58:TypeId),.o (.rows [.n .i64,.n .i64,.n .i64,.n .i64,.n .i64] M),[],d,false⟩,some ⟨3,.o (.rows [.n .i64] U.nilL),[],0,false⟩],0⟩)∧True∧Nat.le ((0:Nat) + n) (List.length L)∧(0:Nat)≤16777216∧n≤16777216∧∀ (L'0:List (List CV)) (n'1 c'2:Nat),L'0=U.nilL ++ List.take n (List.drop ((0:Nat)) L)→n'1=0 + n→n'1≤c'2→K (Sum.inl (Sum.inl (rslC ⟨2,(0:Nat) + (1:Nat),0,n'1,c'2⟩))) ⟨[some ⟨nat_lit 81,[rslC ⟨0,1,0,n,c⟩,rslC ⟨1,5,0,n,d⟩,xintC .i64 m],none,3,false⟩],[],0,[some ⟨(3:TypeId),.o (.rows [.n .i64] L),[],c,false⟩,some ⟨(58:TypeId),.o (.rows [.n .i64,.n .i64,.n .i64,.n .i64,.n .i64] M),[],d,false⟩,some ⟨3,.o (.rows [.n .i64] L'0),[],c'2,false⟩],0⟩) := by kernel_rfl
end Go.Proofs.Ytfhgnngdbbgogaa
end
section
set_option linter.unusedVariables false
set_option linter.unusedSimpArgs false
set_option maxRecDepth 10000
namespace Go.Proofs.Ytfhgnngdbbgogaa
open Go Reck Ost
theorem vlirr {a : Int} (h : a < a) : False := Int.lt_irrefl _ h
theorem vltri {a b : Int} (h : ¬ a < b) (k : ¬ b < a) : a = b := by omega
abbrev VLP := List (Int × VLv)
def U.vlks (P : VLP) : Rws := P.map fun p => [.i p.1]
def U.vlvs (P : VLP) : Rws := P.map fun p => p.2.row
structure U.vlSrt (P : VLP) : Prop where
  out : P.Pairwise fun a b => a.1 < b.1
structure U.vlHasK (P : VLP) (k : Int) : Prop where
  out : ∃ e, (k, e) ∈ P
structure U.vlPut (P : VLP) (k : Int) (e : VLv) (P' : VLP) : Prop where
  srt : U.vlSrt P'
  mem : ∀ x y, (x, y) ∈ P' ↔ (x = k ∧ y = e) ∨ ((x, y) ∈ P ∧ x ≠ k)
  has : U.vlHasK P k → P'.length = P.length
  non : ¬ U.vlHasK P k → P'.length = P.length + 1
structure U.vlshI (n c : Nat) (L : Rws) (d : Nat) (M : Rws) (P : VLP) : Prop where
  kf : U.Fu L n c (U.vlks P)
  vf : U.Fu M n d (U.vlvs P)
  srt : U.vlSrt P
theorem vlshI_n {n c d : Nat} {L M : Rws} {P : VLP} (h : U.vlshI n c L d M P) : P.length = n := by
  have := h.kf.n; simpa [U.vlks] using this
theorem vlkey_at {n c d : Nat} {L M : Rws} {P : VLP} (h : U.vlshI n c L d M P) {m : Nat} {p : Int × VLv} (hp : P[m]? = some p) : U.fi L m 0 = p.1 := by
  have hm : m < n := by rw [← vlshI_n h]; exact (List.getElem?_eq_some_iff.1 hp).1
  have := fuGet h.kf hm
  unfold U.fi
  rw [List.getD_eq_getElem?_getD, this]
  simp [U.vlks, hp]
theorem vlrow_at {n c d : Nat} {L M : Rws} {P : VLP} (h : U.vlshI n c L d M P) {m : Nat} {p : Int × VLv} (hp : P[m]? = some p) : M.getD m [] = p.2.row := by
  have hm : m < n := by rw [← vlshI_n h]; exact (List.getElem?_eq_some_iff.1 hp).1
  have := fuGet h.vf hm
  rw [List.getD_eq_getElem?_getD, this]
  simp [U.vlvs, hp]
theorem vlsrt_R {n c d : Nat} {L M : Rws} {P : VLP} (h : U.vlshI n c L d M P) : U.vlSrtR L n := by
  refine ⟨fun i j hij hj => ?_⟩
  have hn := vlshI_n h
  rw [vlkey_at h (List.getElem?_eq_getElem (show i < P.length by omega)), vlkey_at h (List.getElem?_eq_getElem (show j < P.length by omega))]
  exact List.pairwise_iff_getElem.1 h.srt.out i j (by omega) (by omega) hij
theorem vlat_lo {n c d : Nat} {L M : Rws} {P : VLP} (h : U.vlshI n c L d M P) {k : Int} {z : Nat} (ha : U.vlAt L n k z) {p : Int × VLv} (hp : p ∈ P.take z) : p.1 < k := by
  obtain ⟨m, hm⟩ := List.getElem?_of_mem hp
  rw [List.getElem?_take] at hm
  split at hm
  · rename_i hlt
    have := ha.lo m (by omega)
    rwa [vlkey_at h hm] at this
  · cases hm
theorem vlat_hi {n c d : Nat} {L M : Rws} {P : VLP} (h : U.vlshI n c L d M P) {k : Int} {z : Nat} (ha : U.vlAt L n k z) {p : Int × VLv} (hp : p ∈ P.drop z) : ¬ p.1 < k := by
  obtain ⟨m, hm⟩ := List.getElem?_of_mem hp
  rw [List.getElem?_drop] at hm
  have hl := (List.getElem?_eq_some_iff.1 hm).1
  have := ha.hi (z + m) (by omega) (by rw [← vlshI_n h]; exact hl)
  rwa [vlkey_at h hm] at this
theorem vlhas_iff {n c d : Nat} {L M : Rws} {P : VLP} (h : U.vlshI n c L d M P) {k : Int} {z : Nat} (ha : U.vlAt L n k z) : U.vlHasAt L n k z ↔ U.vlHasK P k := by
  have hn := vlshI_n h
  constructor
  · rintro ⟨h1, h2⟩
    have hz : z < P.length := by omega
    refine ⟨P[z].2, ?_⟩
    rw [Int.toNat_natCast, vlkey_at h (List.getElem?_eq_getElem hz)] at h2
    rw [← h2]; exact List.getElem_mem hz
  · rintro ⟨e, he⟩
    obtain ⟨m, hm⟩ := List.getElem?_of_mem he
    have hl := (List.getElem?_eq_some_iff.1 hm).1
    have hk := vlkey_at h hm
    have h1 : ¬ (m < z) := fun hlt => by
      have := ha.lo m (by omega)
      rw [hk] at this; exact vlirr this
    have h2 : ¬ (z < m) := fun hlt => by
      have a := ha.hi z (by omega) (by omega)
      have b := (vlsrt_R h).out z m hlt (by omega)
      rw [hk] at b; exact a b
    obtain rfl : m = z := by omega
    exact ⟨by omega, by rw [Int.toNat_natCast]; exact hk⟩
theorem vlput_non {n c d : Nat} {L M : Rws} {P : VLP} (h : U.vlshI n c L d M P) {k : Int} {z : Nat} (ha : U.vlAt L n k z) (hk : ¬ U.vlHasK P k) (e : VLv) :
    U.vlPut P k e (P.take z ++ [(k, e)] ++ P.drop z) ∧ U.vlks (P.take z ++ [(k, e)] ++ P.drop z) = U.insR (U.vlks P) z [.i k] ∧ U.vlvs (P.take z ++ [(k, e)] ++ P.drop z) = U.insR (U.vlvs P) z e.row := by
  have hne : ∀ p ∈ P, p.1 ≠ k := fun p hp he => hk ⟨p.2, he ▸ hp⟩
  have hgt : ∀ p ∈ P.drop z, k < p.1 := fun p hp => by
    by_cases hx : k < p.1
    · exact hx
    · exact (hne p (List.mem_of_mem_drop hp) (vltri (vlat_hi h ha hp) hx)).elim
  have hs := h.srt.out
  refine ⟨⟨⟨?_⟩, fun x y => ?_, fun hx => (hk hx).elim, fun _ => ?_⟩, ?_, ?_⟩
  · rw [← List.take_append_drop z P, List.pairwise_append] at hs
    rw [List.append_assoc, List.pairwise_append]
    refine ⟨hs.1, ?_, ?_⟩
    · rw [List.singleton_append, List.pairwise_cons]
      exact ⟨hgt, hs.2.1⟩
    · intro a ha' b hb
      rcases List.mem_cons.1 hb with rfl | hb
      · exact vlat_lo h ha ha'
      · exact hs.2.2 a ha' b hb
  · have hm : (x, y) ∈ P ↔ (x, y) ∈ P.take z ∨ (x, y) ∈ P.drop z := by
      rw [← List.mem_append, List.take_append_drop]
    simp only [List.mem_append, List.mem_singleton, Prod.mk.injEq]
    constructor
    · rintro ((hx | hx) | hx)
      · exact .inr ⟨hm.2 (.inl hx), hne _ (hm.2 (.inl hx))⟩
      · exact .inl hx
      · exact .inr ⟨hm.2 (.inr hx), hne _ (hm.2 (.inr hx))⟩
    · rintro (hx | ⟨hx, _⟩)
      · exact .inl (.inr hx)
      · rcases hm.1 hx with hx | hx
        · exact .inl (.inl hx)
        · exact .inr hx
  · have := ha.b
    have hn := vlshI_n h
    simp; omega
  · simp [U.vlks, U.insR, List.map_take, List.map_drop]
  · simp [U.vlvs, U.insR, List.map_take, List.map_drop]
theorem vlput_has {n c d : Nat} {L M : Rws} {P : VLP} (h : U.vlshI n c L d M P) {k : Int} {z : Nat} (ha : U.vlAt L n k z) (hk : U.vlHasAt L n k z) (e : VLv) :
    U.vlPut P k e (P.set z (k, e)) ∧ U.vlks (P.set z (k, e)) = U.vlks P ∧ U.vlvs (P.set z (k, e)) = (U.vlvs P).set z e.row := by
  have hn := vlshI_n h
  obtain ⟨h1, h2⟩ := hk.out
  have hz : z < P.length := by omega
  have hkz : P[z].1 = k := by
    rw [Int.toNat_natCast, vlkey_at h (List.getElem?_eq_getElem hz)] at h2; exact h2
  have hks : U.vlks (P.set z (k, e)) = U.vlks P := by
    apply List.ext_getElem?
    intro m
    simp only [U.vlks, List.getElem?_map, List.getElem?_set]
    by_cases hm : z = m
    · subst hm
      rw [if_pos rfl, if_pos hz, List.getElem?_eq_getElem hz]; simp [hkz]
    · rw [if_neg hm]
  have hlk : ∀ i (hi : i < P.length) (hi' : i < (P.set z (k, e)).length), ((P.set z (k, e))[i]).1 = (P[i]).1 := fun i hi hi' => by
    rw [List.getElem_set]
    split
    · rename_i hzi; subst hzi; exact hkz.symm
    · rfl
  refine ⟨⟨⟨?_⟩, fun x y => ?_, fun _ => List.length_set, fun hx => (hx ((vlhas_iff h ha).1 hk)).elim⟩, hks, ?_⟩
  · rw [List.pairwise_iff_getElem]
    intro i j hi hj hij
    rw [List.length_set] at hi hj
    rw [hlk i hi, hlk j hj]
    exact List.pairwise_iff_getElem.1 h.srt.out i j hi hj hij
  · constructor
    · intro hx
      obtain ⟨m, hm⟩ := List.getElem?_of_mem hx
      rw [List.getElem?_set] at hm
      split at hm
      · try rw [if_pos hz] at hm
        simp only [Option.some.injEq, Prod.mk.injEq] at hm
        exact .inl ⟨hm.1.symm, hm.2.symm⟩
      · rename_i hne
        refine .inr ⟨List.mem_of_getElem? hm, fun he => ?_⟩
        have hl := (List.getElem?_eq_some_iff.1 hm).1
        have e1 := vlkey_at h hm
        have e2 := vlkey_at h (List.getElem?_eq_getElem hz)
        rw [hkz] at e2
        dsimp only at e1
        rcases Nat.lt_or_gt_of_ne hne with hlt | hlt
        · have := (vlsrt_R h).out z m hlt (by omega)
          rw [e1, e2, he] at this; exact vlirr this
        · have := (vlsrt_R h).out m z hlt (by omega)
          rw [e1, e2, he] at this; exact vlirr this
    · rintro (⟨rfl, rfl⟩ | ⟨hx, hne⟩)
      · exact List.mem_of_getElem? (i := z) (by rw [List.getElem?_set, if_pos rfl, if_pos hz])
      · obtain ⟨m, hm⟩ := List.getElem?_of_mem hx
        refine List.mem_of_getElem? (i := m) ?_
        rw [List.getElem?_set]
        by_cases hmz : z = m
        · subst hmz
          rw [List.getElem?_eq_getElem hz] at hm
          simp only [Option.some.injEq] at hm
          exact (hne (by rw [hm] at hkz; exact hkz)).elim
        · rw [if_neg hmz]; exact hm
  · apply List.ext_getElem?
    intro m
    simp only [U.vlvs, List.getElem?_map, List.getElem?_set, List.length_map]
    by_cases hm : z = m
    · subst hm
      rw [if_pos rfl, if_pos rfl, if_pos hz, if_pos hz]; rfl
    · rw [if_neg hm, if_neg hm]
theorem vlput_row {n c d : Nat} {L M M' : Rws} {P : VLP} (h : U.vlshI n c L d M P) {z : Nat} (hz : z < n) (e : VLv) {r : List CV} (hr : r = e.row) (hM : M' = U.put M z 0 r) : U.Fu M' n d ((U.vlvs P).set z e.row) := by
  subst hr
  have hn := vlshI_n h
  have hrow := vlrow_at h (List.getElem?_eq_getElem (show z < P.length by omega))
  have hp1 : put1 (M.getD z []) 0 e.row = e.row := by
    rw [hrow]
    simp [put1, VLv.row, vlR]
  unfold U.put at hM
  rw [hp1] at hM
  obtain ⟨v1, v2, v3, v4⟩ := h.vf
  exact ⟨by rw [hM, v1, List.take_set], by rw [hM, List.length_set]; exact v2, v3, v4⟩
def vlshNw (n c : Nat) (L : Rws) (d : Nat) (M : Rws) (m : Int) : St := ⟨[vlB (rslC ⟨2, 1, 0, n, c⟩) (rslC ⟨3, 5, 0, n, d⟩) m], [], 0, [none, none, some (vlkB L c), some (vlvB M d)], 0⟩
structure U.vlRem (P : VLP) (k : Int) (P' : VLP) : Prop where
  srt : U.vlSrt P'
  mem : ∀ x y, (x, y) ∈ P' ↔ (x, y) ∈ P ∧ x ≠ k
  len : P'.length + 1 = P.length
theorem vlSet_run (K : AV → St → Prop) (L M : Rws) (n c d : Nat) (m : Int) (k : Int) (e : VLv) (P : VLP) (h : U.vlshI n c L d M P) (hn : n ≤ 100000)
    (h1 : U.vlHasK P k → ∀ (M' : Rws) (P' : VLP), U.vlPut P k e P' → U.vlshI n c L d M' P' → K (xi .i64 0) (vlSt n c L d M' m))
    (h2 : ¬ U.vlHasK P k → m ≤ n → K (xi .i64 4) (vlSt n c L d M m))
    (h3 : ¬ U.vlHasK P k → (n : Int) < m → ∀ (L' : Rws) (n' c' : Nat) (M' : Rws) (d' : Nat) (P' : VLP), n' = n + 1 → U.vlPut P k e P' → U.vlshI n' c' L' d' M' P' → K (xi .i64 0) (vlshNw n' c' L' d' M' m)) :
    runV vlov inv0 vltSh 40 [ptr 0 0, xi .i64 k, .inl (.inr e.cells)] (vlSt n c L d M m) K := by
  obtain ⟨v0, v1, v2, v3, v4⟩ := e
  have hPn := vlshI_n h
  have hl := h.kf.len
  have hle := h.kf.le
  have hl2 := h.vf.len
  have hle2 := h.vf.le
  have G : ∀ (z : Nat), U.vlAt L n k z → (U.vlHasAt L n k z ↔ U.vlHasK P k) := fun z ha => vlhas_iff h ha
  show runV vlov inv0 vltSh 40 [ptr 0 0, xi .i64 k, .inl (.inr (vlC v0 v1 v2 v3 v4))] (vlSt n c L d M m) K
  rw [vlSet_vc]
  refine ⟨⟨rfl, by omega, by omega, vlsrt_R h⟩, fun z hz => ?_⟩
  have hb := hz.b
  obtain ⟨z, rfl⟩ : ∃ y : Nat, z = y := ⟨z.toNat, by omega⟩
  refine ⟨fun hx => ⟨by have := hx.out.1; omega, fun j1 hj1 => ⟨by have := hx.out.1; omega, fun M' hM => ?_⟩⟩, fun hx z3 h3' => ⟨fun hfull => ?_, fun hroom => ⟨U.vlks P, ⟨rfl, h.kf, by omega, by omega⟩, fun n5 c6 L7 e5 e7 => ?_⟩⟩⟩
  · obtain rfl : j1 = z := by omega
    obtain ⟨q1, q2, q3⟩ := vlput_has h hz hx ⟨v0, v1, v2, v3, v4⟩
    exact h1 ((G j1 hz).1 hx) M' _ q1 ⟨by rw [q2]; exact h.kf, by rw [q3]; exact vlput_row h (by have := hx.out.1; omega) _ rfl hM, q1.srt⟩
  · exact h2 (fun hy => hx ((G z hz).2 hy)) (by omega)
  · repeat (first | refine ⟨rfl, ?_⟩ | refine ⟨⟨rfl, rfl, rfl⟩, ?_⟩)
    refine ⟨U.vlvs P, ⟨rfl, h.vf, by omega, by omega⟩, fun n9 d10 M11 e9 e11 => ?_⟩
    obtain rfl : n9 = n5 := by omega
    obtain ⟨q1, q2, q3⟩ := vlput_non h hz (fun hy => hx ((G z hz).2 hy)) ⟨v0, v1, v2, v3, v4⟩
    repeat' (first | exact rfl | with_reducible apply And.intro)
    exact h3 (fun hy => hx ((G z hz).2 hy)) (by omega) _ _ _ _ _ _ e5 q1 ⟨by rw [q2]; exact e7, by rw [q3]; exact e11, q1.srt⟩
structure U.vlHasE (P : VLP) (k : Int) (v0 v1 v2 v3 v4 : Int) : Prop where
  out : (k, (⟨v0, v1, v2, v3, v4⟩ : VLv)) ∈ P
theorem vlof {M : Rws} {j : Nat} {e : VLv} (h : M.getD j [] = e.row) : (⟨U.fi M j 0, U.fi M j 1, U.fi M j 2, U.fi M j 3, U.fi M j 4⟩ : VLv) = e := by
  unfold U.fi
  rw [h]
  rfl
abbrev vlge (v0 v1 v2 v3 v4 : Int) (ok : Bool) : AV := .inr [.inr (vlC v0 v1 v2 v3 v4), .inl (.inl (.bool ok))]
theorem vlGet_run (K : AV → St → Prop) (L M : Rws) (n c d : Nat) (m : Int) (k : Int) (P : VLP) (h : U.vlshI n c L d M P) (hn : n ≤ 100000)
    (hT : ∀ v0 v1 v2 v3 v4 : Int, U.vlHasE P k v0 v1 v2 v3 v4 → K (vlge v0 v1 v2 v3 v4 true) (vlSt n c L d M m)) (hF : ¬ U.vlHasK P k → K (vlge 0 0 0 0 0 false) (vlSt n c L d M m)) :
    runV vlov inv0 vltSh 38 [ptr 0 0, xi .i64 k] (vlSt n c L d M m) K := by
  rw [vlGet_vc]
  have hPn := vlshI_n h
  have hl := h.kf.len
  have hle := h.kf.le
  have hl2 := h.vf.len
  have hle2 := h.vf.le
  refine ⟨⟨rfl, by omega, by omega, vlsrt_R h⟩, fun z hz => ?_⟩
  have hb := hz.b
  obtain ⟨z, rfl⟩ : ∃ y : Nat, z = y := ⟨z.toNat, by omega⟩
  refine ⟨fun hx => ⟨by have := hx.out.1; omega, fun j1 hj1 => ⟨by have := hx.out.1; omega, ?_⟩⟩, fun hx => hF (fun hy => hx ((vlhas_iff h hz).2 hy))⟩
  obtain rfl : j1 = z := by omega
  obtain ⟨g1, g2⟩ := hx.out
  have hzl : j1 < P.length := by omega
  have hP := List.getElem?_eq_getElem hzl
  have hrow := vlrow_at h hP
  have hkz := vlkey_at h hP
  rw [Int.toNat_natCast, hkz] at g2
  have hmem : (k, P[j1].2) ∈ P := by rw [← g2]; exact List.getElem_mem hzl
  have hT := hT (U.fi M j1 0) (U.fi M j1 1) (U.fi M j1 2) (U.fi M j1 3) (U.fi M j1 4) ⟨by rw [vlof hrow]; exact hmem⟩
  rintro _ rfl _ rfl _ rfl _ rfl _ rfl
  exact hT
theorem vlVals_run (K : AV → St → Prop) (L M : Rws) (n c d : Nat) (m : Int) (P : VLP) (h : U.vlshI n c L d M P)
    (hK : ∀ (L' : Rws) (n' c' : Nat), n' = n → n' ≤ c' → L' = U.vlvs P → K (cell (rslC ⟨2, 5, 0, n', c'⟩)) ⟨[vlB (rslC ⟨0, 1, 0, n, c⟩) (rslC ⟨1, 5, 0, n, d⟩) m], [], 0, [some (vlkB L c), some (vlvB M d), some (vlvB L' c')], 0⟩) :
    runV vlov inv0 vltSh 31 [ptr 0 0] (vlSt n c L d M m) K := by
  rw [vlVals_vc]
  have hPn := vlshI_n h
  have hv := h.vf.n
  have hl2 := h.vf.len
  have hle2 := h.vf.le
  have hsm := h.vf.sm
  refine ⟨fun h0 => hK [] 0 0 h0.symm (Nat.le_refl _) (List.eq_nil_of_length_eq_zero (by omega)).symm, trivial, (by omega : 0 + n ≤ M.length), by omega, by omega, fun L0 n1 c2 e0 e1 e2 => ?_⟩
  obtain rfl : n1 = n := by omega
  refine hK L0 n1 c2 rfl e2 ?_
  rw [e0, List.drop_zero, h.vf.eq]; rfl
theorem vlKeys_run (K : AV → St → Prop) (L M : Rws) (n c d : Nat) (m : Int) (P : VLP) (h : U.vlshI n c L d M P)
    (hK : ∀ (L' : Rws) (n' c' : Nat), n' = n → n' ≤ c' → L' = U.vlks P → K (cell (rslC ⟨2, 1, 0, n', c'⟩)) ⟨[vlB (rslC ⟨0, 1, 0, n, c⟩) (rslC ⟨1, 5, 0, n, d⟩) m], [], 0, [some (vlkB L c), some (vlvB M d), some (vlkB L' c')], 0⟩) :
    runQ inv0 tbl0 65 [ptr 0 0] (vlSt n c L d M m) K := by
  rw [vlKeys_vc]
  have hPn := vlshI_n h
  have hv := h.kf.n
  have hl2 := h.kf.len
  have hle2 := h.kf.le
  have hsm := h.kf.sm
  refine ⟨fun h0 => hK [] 0 0 h0.symm (Nat.le_refl _) (List.eq_nil_of_length_eq_zero (by omega)).symm, trivial, (by omega : 0 + n ≤ L.length), by omega, by omega, fun L0 n1 c2 e0 e1 e2 => ?_⟩
  obtain rfl : n1 = n := by omega
  refine hK L0 n1 c2 rfl e2 ?_
  rw [e0, List.drop_zero, h.kf.eq]; rfl
end Go.Proofs.Ytfhgnngdbbgogaa
end
section
set_option linter.unusedVariables false
set_option linter.unusedSimpArgs false
set_option maxRecDepth 10000
namespace Go.Proofs.Ytfhgnngdbbgogaa
open Go Reck Ost
def vlshC (p : Option Blk) (a1 a2 : Option ABlk) : Option (Nat × Nat × Rws × Nat × Rws × Int) :=
  match p, a1, a2 with
  | some ⟨81, [a, b, m], none, 3, false⟩, some ⟨3, .o (.rows [.n .i64] L), [], c0, false⟩, some ⟨58, .o (.rows ks M), [], d0, false⟩ => match cRsl a, cRsl b, cInt m, sameK ks vlvK with
    | some ⟨0, 1, 0, n, c⟩, some ⟨1, 5, 0, n2, d⟩, some m, true => some (n, c0, L, d0, M, m)
    | _, _, _, _ => none
  | _, _, _ => none
def vlshD (p : Option Blk) (a1 a2 : Option ABlk) : Prop :=
  match p, a1, a2 with
  | some ⟨_, [a, b, _], _, _, _⟩, some ⟨_, _, _, c0, _⟩, some ⟨_, _, _, d0, _⟩ => match cRsl a, cRsl b with
    | some ⟨_, _, _, n, c⟩, some ⟨_, _, _, n2, d⟩ => c = c0 ∧ d = d0 ∧ n2 = n
    | _, _ => False
  | _, _, _ => False
theorem vlshC_eq {p : Option Blk} {a1 a2 : Option ABlk} {n c d : Nat} {L M : Rws} {m : Int} (h : vlshC p a1 a2 = some (n, c, L, d, M, m)) (hy : vlshD p a1 a2) : p = vlB (rslC ⟨0, 1, 0, n, c⟩) (rslC ⟨1, 5, 0, n, d⟩) m ∧ a1 = some (vlkB L c) ∧ a2 = some (vlvB M d) := by
  unfold vlshC at h
  split at h
  · split at h
    · rename_i h1 h2 h3 h4
      simp only [Option.some.injEq, Prod.mk.injEq] at h
      obtain ⟨rfl, rfl, rfl, rfl, rfl, rfl⟩ := h
      simp only [vlshD, h1, h2] at hy
      obtain ⟨rfl, rfl, rfl⟩ := hy
      rw [cRsl_eq h1, cRsl_eq h2, cInt_eq h3, sameK_eq h4]
      exact ⟨rfl, rfl, rfl⟩
    · cases h
  · cases h
theorem vlmv {w0 w : World} {e : Env} {n c d : Nat} {L M : Rws} {m : Int} {H : List (Option Blk)} (h : Ok w0 e ⟨vlB (rslC ⟨0, 1, 0, n, c⟩) (rslC ⟨1, 5, 0, n, d⟩) m :: H, [], 0, [some (vlkB L c), some (vlvB M d)], 0⟩ w) :
    ∃ e', e.le e' ∧ Ok w0 e' ⟨vlB (rslC ⟨2, 1, 0, n, c⟩) (rslC ⟨3, 5, 0, n, d⟩) m :: H, [], 0, [none, none, some (vlkB L c), some (vlvB M d)], 0⟩ w := by
  have hb : ∃ q, e.blk[0]? = some q := by
    have := h.blks
    exact ⟨_, List.getElem?_eq_getElem (by rw [this]; exact Nat.succ_pos _)⟩
  obtain ⟨q, hq⟩ := hb
  obtain ⟨_, cur, fz, _, hc, _⟩ := h.blk 0 _ q rfl hq
  obtain ⟨v0, a0, _⟩ := hc 0 _ rfl
  obtain ⟨v1, a1, _⟩ := hc 1 _ rfl
  have b0 : Reck.av e (cell (rslC ⟨0, 1, 0, n, c⟩)) = some v0 := a0
  obtain ⟨q1, m1, k1⟩ := h.mvRows (i := 0) (b := vlkB L c) rfl rfl rfl b0
  have b1 := av_mono (le_arr e q1) (cell (rslC ⟨1, 5, 0, n, d⟩)) v1 a1
  obtain ⟨q2, m2, k2⟩ := k1.mvRows (i := 1) (b := vlvB M d) rfl rfl rfl b1
  have l2 := le_arr ⟨e.blk, e.int, e.opq, e.arr ++ [q1], e.S, e.junk⟩ q2
  have m1 := av_mono l2 _ _ m1
  have le := (le_arr e q1).trans l2
  refine ⟨_, le, ?_⟩
  exact k2.reCell (i := 0) (cells' := [rslC ⟨2, 1, 0, n, c⟩, rslC ⟨3, 5, 0, n, d⟩, xintC .i64 m]) rfl (by
    intro j c' hc'
    match j, hc' with
    | 0, hc' => simp at hc'; subst hc'; exact ⟨_, _, rfl, cv_mono le _ _ a0, m1⟩
    | 1, hc' => simp at hc'; subst hc'; exact ⟨_, _, rfl, cv_mono le _ _ a1, m2⟩
    | 2, hc' => simp at hc'; subst hc'; exact ⟨_, _, rfl, rfl, rfl⟩
    | n + 3, hc' => simp at hc')
def U.vllen (P : VLP) : Nat := P.length
structure U.vlRoom (P : VLP) (k : Int) (m : Int) : Prop where
  out : U.vlHasK P k ∨ (P.length : Int) < m
def vlpNew : Pat := fun args σ => match args, σ with
  | [m], ⟨[], [], 0, [], 0⟩ => match aInt m with
    | some m => some fun K => K (ptr 0 0) ⟨[vlB (rslC ⟨0, 1, 0, 0, 0⟩) (rslC ⟨1, 5, 0, 0, 0⟩) m], [], 0, [some (vlkB [] 0), some (vlvB [] 0)], 0⟩
    | _ => none
  | _, _ => none
theorem vlpNew_ok : PatOk 21 vlpNew := by
  intro tm σ C h K hK w0 e w hk vs hvs
  unfold vlpNew at h
  split at h
  · split at h
    · rename_i m hm
      simp only [Option.some.injEq] at h; subst h
      obtain ⟨v, rfl, hv⟩ := ones hvs
      refine (knownD noOv names (opMV_ok vlovOk) (conOk_ofR tbl0_ok) (show runV vlov inv0 tbl0 21 [xi .i64 m] emptySt (fun x σ' => x = ptr 0 0 ∧ σ' = ⟨[vlB (.inl (.slice none 0 0)) (.inl (.slice none 0 0)) m], [], 0, [], 0⟩) by rw [vlNew_vc]; exact ⟨rfl, rfl⟩) w0 e w hk _ (map1 (as_aInt hm hv))).mono ?_
      rintro en w' ⟨x, σ', e', v', h1, h2, h3, h4, rfl, rfl⟩
      obtain ⟨k1, c1⟩ := h4.addNone 3 [.n .i64] 1
      obtain ⟨k2, c2⟩ := k1.addNone 58 vlvK 5
      have l2 := le_arr ⟨e'.blk, e'.int, e'.opq, e'.arr ++ [.inl none], e'.S, e'.junk⟩ (.inl none)
      have c1 := cv_mono l2 _ _ c1
      have k3 := k2.reCell (i := 0) (cells' := [rslC ⟨0, 1, 0, 0, 0⟩, rslC ⟨1, 5, 0, 0, 0⟩, xintC .i64 m]) rfl (by
        intro j c' hc'
        match j, hc' with
        | 0, hc' => simp at hc'; subst hc'; exact ⟨_, _, rfl, rfl, c1⟩
        | 1, hc' => simp at hc'; subst hc'; exact ⟨_, _, rfl, rfl, c2⟩
        | 2, hc' => simp at hc'; subst hc'; exact ⟨_, _, rfl, rfl, rfl⟩
        | n + 3, hc' => simp at hc')
      exact ⟨_, _, _, v', h1, h2.trans ((le_arr e' (.inl none)).trans l2), av_mono ((le_arr e' (.inl none)).trans l2) _ _ h3, k3, hK⟩
    · cases h
  · cases h
def vlpSet : Pat := fun args σ => match args, σ with
  | [.inl (.inl (.inr (.inl (0, 0)))), k, .inl (.inr l)], ⟨[p], [], 0, [a1, a2], 0⟩ => match aInt k, vlX l, vlshC p a1 a2 with
    | some k, some e, some (n, c, L, d, M, m) => some fun K => ∃ P, (vlshD p a1 a2 ∧ U.vlshI n c L d M P ∧ n ≤ 100000) ∧
      (U.vlRoom P k m → ∀ (L' : Rws) (n' c' : Nat) (M' : Rws) (d' : Nat) (P' : VLP), n' = U.vllen P' → U.vlPut P k e P' → U.vlshI n' c' L' d' M' P' → K (xi .i64 0) (vlshNw n' c' L' d' M' m)) ∧
      (¬ U.vlRoom P k m → K (xi .i64 4) (vlSt n c L d M m))
    | _, _, _ => none
  | _, _ => none
theorem vlpSet_ok : PatOk 40 vlpSet := by
  intro tm σ C h K hK w0 e w hk vs hvs
  unfold vlpSet at h
  split at h
  · split at h
    · rename_i k en n c L d M m hkk hl hσ
      simp only [Option.some.injEq] at h; subst h
      obtain ⟨P, ⟨hy, h1, h2⟩, h3, h4⟩ := hK
      obtain ⟨rfl, rfl, rfl⟩ := vlshC_eq hσ hy
      obtain rfl := vlX_eq hl
      obtain ⟨x, y, z, rfl, q1, q2, q3⟩ := threes hvs
      have hn := vlshI_n h1
      refine (knownD noOv names (opMV_ok vlovOk) (conOk_ofR vltSh_ok) (vlSet_run (fun x σ' => (x = xi .i64 0 ∧ U.vlRoom P k m ∧ ∃ (L' : Rws) (n' c' : Nat) (M' : Rws) (d' : Nat) (P' : VLP), n' = P'.length ∧ U.vlPut P k en P' ∧ U.vlshI n' c' L' d' M' P' ∧ (σ' = vlSt n' c' L' d' M' m ∨ σ' = vlshNw n' c' L' d' M' m)) ∨ (x = xi .i64 4 ∧ ¬ U.vlRoom P k m ∧ σ' = vlSt n c L d M m)) L M n c d m k en P h1 h2 ?_ ?_ ?_) w0 e w hk _ (map3 q1 (as_aInt hkk q2) q3)).mono ?_
      · exact fun hh M' P' hp hi => .inl ⟨rfl, ⟨.inl hh⟩, L, n, c, M', d, P', by rw [hp.has hh, hn], hp, hi, .inl rfl⟩
      · exact fun hh hm => .inr ⟨rfl, fun ⟨hx⟩ => hx.elim hh (fun h => by omega), rfl⟩
      · exact fun hh hm L' n' c' M' d' P' he hp hi => .inl ⟨rfl, ⟨.inr (by omega)⟩, L', n', c', M', d', P', by rw [hp.non hh]; omega, hp, hi, .inr rfl⟩
      · rintro en' w' ⟨x, σ', e', v, g1, g2, g3, g4, hw⟩
        rcases hw with ⟨rfl, hr, L', n', c', M', d', P', f1, f2, f3, rfl | rfl⟩ | ⟨rfl, hr, rfl⟩
        · obtain ⟨e2, l2, k2⟩ := vlmv g4
          exact ⟨_, _, e2, v, g1, g2.trans l2, av_mono l2 _ _ g3, k2, h3 hr L' n' c' M' d' P' f1 f2 f3⟩
        · exact ⟨_, _, e', v, g1, g2, g3, g4, h3 hr L' n' c' M' d' P' f1 f2 f3⟩
        · exact ⟨_, _, e', v, g1, g2, g3, g4, h4 hr⟩
    · cases h
  · cases h
def vlpGet : Pat := fun args σ => match args, σ with
  | [.inl (.inl (.inr (.inl (0, 0)))), k], ⟨[p], [], 0, [a1, a2], 0⟩ => match aInt k, vlshC p a1 a2 with
    | some k, some (n, c, L, d, M, m) => some fun K => ∃ P, (vlshD p a1 a2 ∧ U.vlshI n c L d M P ∧ n ≤ 100000) ∧ (∀ v0 v1 v2 v3 v4 : Int, U.vlHasE P k v0 v1 v2 v3 v4 → K (vlge v0 v1 v2 v3 v4 true) (vlSt n c L d M m)) ∧ (¬ U.vlHasK P k → K (vlge 0 0 0 0 0 false) (vlSt n c L d M m))
    | _, _ => none
  | _, _ => none
theorem vlpGet_ok : PatOk 38 vlpGet := by
  intro tm σ C h K hK w0 e w hk vs hvs
  unfold vlpGet at h
  split at h
  · split at h
    · rename_i hkk hσ
      simp only [Option.some.injEq] at h; subst h
      obtain ⟨P, ⟨hy, h1, h2⟩, h3, h4⟩ := hK
      obtain ⟨rfl, rfl, rfl⟩ := vlshC_eq hσ hy
      obtain ⟨x, y, rfl, q1, q2⟩ := twos hvs
      exact knownD noOv names (opMV_ok vlovOk) (conOk_ofR vltSh_ok) (vlGet_run K _ _ _ _ _ _ _ P h1 h2 h3 h4) w0 e w hk _ (map2 q1 (as_aInt hkk q2))
    · cases h
  · cases h
structure U.vlRm (P : VLP) (k : Int) (P' : VLP) : Prop where
  srt : U.vlSrt P'
  mem : ∀ x y, (x, y) ∈ P' ↔ (x, y) ∈ P ∧ x ≠ k
  len : P'.length ≤ P.length
structure U.vlRmN (P : VLP) (k : Int) (z : Int) : Prop where
  yes : U.vlHasK P k → z = 1
  no : ¬ U.vlHasK P k → z = 0
def vlpVals : Pat := fun args σ => match args, σ with
  | [.inl (.inl (.inr (.inl (0, 0))))], ⟨[p], [], 0, [a1, a2], 0⟩ => match vlshC p a1 a2 with
    | some (n, c, L, d, M, m) => some fun K => ∃ P, (vlshD p a1 a2 ∧ U.vlshI n c L d M P) ∧ ∀ (L' : Rws) (n' c' : Nat), n' = n → n' ≤ c' → L' = U.vlvs P → K (cell (rslC ⟨2, 5, 0, n', c'⟩)) ⟨[vlB (rslC ⟨0, 1, 0, n, c⟩) (rslC ⟨1, 5, 0, n, d⟩) m], [], 0, [some (vlkB L c), some (vlvB M d), some (vlvB L' c')], 0⟩
    | _ => none
  | _, _ => none
theorem vlpVals_ok : PatOk 31 vlpVals := by
  intro tm σ C h K hK w0 e w hk vs hvs
  unfold vlpVals at h
  split at h
  · split at h
    · rename_i hσ
      simp only [Option.some.injEq] at h; subst h
      obtain ⟨P, ⟨hy, h1⟩, h2⟩ := hK
      obtain ⟨rfl, rfl, rfl⟩ := vlshC_eq hσ hy
      exact knownD noOv names (opMV_ok vlovOk) (conOk_ofR vltSh_ok) (vlVals_run K _ _ _ _ _ _ P h1 h2) w0 e w hk vs hvs
    · cases h
  · cases h
def vlpKeys : Pat := fun args σ => match args, σ with
  | [.inl (.inl (.inr (.inl (0, 0))))], ⟨[p], [], 0, [a1, a2], 0⟩ => match vlshC p a1 a2 with
    | some (n, c, L, d, M, m) => some fun K => ∃ P, (vlshD p a1 a2 ∧ U.vlshI n c L d M P) ∧ ∀ (L' : Rws) (n' c' : Nat), n' = n → n' ≤ c' → L' = U.vlks P → K (cell (rslC ⟨2, 1, 0, n', c'⟩)) ⟨[vlB (rslC ⟨0, 1, 0, n, c⟩) (rslC ⟨1, 5, 0, n, d⟩) m], [], 0, [some (vlkB L c), some (vlvB M d), some (vlkB L' c')], 0⟩
    | _ => none
  | _, _ => none
theorem vlpKeys_ok : PatOk 65 vlpKeys := by
  intro tm σ C h K hK w0 e w hk vs hvs
  unfold vlpKeys at h
  split at h
  · split at h
    · rename_i hσ
      simp only [Option.some.injEq] at h; subst h
      obtain ⟨P, ⟨hy, h1⟩, h2⟩ := hK
      obtain ⟨rfl, rfl, rfl⟩ := vlshC_eq hσ hy
      exact knownD noOv names opMK_ok (conOk_ofR tbl0_ok) (vlKeys_run K _ _ _ _ _ _ P h1 h2) w0 e w hk vs hvs
    · cases h
  · cases h
def vltS : Tbl := tblOr (tblIf 21 vlpNew) (tblOr (tblIf 40 vlpSet) (tblOr (tblIf 38 vlpGet) ((tblOr (tblIf 31 vlpVals) (tblIf 65 vlpKeys)))))
theorem vltS_ok : TblOk Try.prog vltS := tblOr_ok (tblIf_ok vlpNew_ok) (tblOr_ok (tblIf_ok vlpSet_ok) (tblOr_ok (tblIf_ok vlpGet_ok) ((tblOr_ok (tblIf_ok vlpVals_ok) (tblIf_ok vlpKeys_ok)))))
end Go.Proofs.Ytfhgnngdbbgogaa
end
section
namespace Go.Proofs.Ytfhgnngdbbgogaa
open Go Reck Ost
set_option linter.unusedVariables false
set_option maxRecDepth 100000
structure U.vlIn (G : Rws) (q : Nat) (k : Int) : Prop where
  out : ∃ m : Nat, m < q ∧ U.fi G m 0 = k
noncomputable def U.vlKp (G : Rws) (q : Nat) (L : Rws) (i : Nat) : List Nat := (List.range i).filter fun m => @decide (¬ U.vlIn G q (U.fi L m 0)) (Classical.propDecidable _)
structure U.vlswI (G : Rws) (q : Nat) (L M : Rws) (n : Nat) (i j : Int) (L' M' : Rws) : Prop where
  b : 0 ≤ i ∧ i ≤ n ∧ 0 ≤ j ∧ j ≤ i
  ln : L'.length = L.length ∧ M'.length = M.length
  jq : j = (U.vlKp G q L i.toNat).length
  kk : L'.take j.toNat = (U.vlKp G q L i.toNat).map fun m => L.getD m []
  vv : M'.take j.toNat = (U.vlKp G q L i.toNat).map fun m => M.getD m []
  rl : ∀ m : Nat, i ≤ m → L'[m]? = L[m]?
  rm : ∀ m : Nat, i ≤ m → M'[m]? = M[m]?
  tk : ∀ m : Nat, m < n → ∃ k : Int, L'[m]? = some [.i k]
  tv : ∀ m : Nat, m < n → ∃ v : VLv, M'[m]? = some v.row
def vlshArr (σ : St) (s i : Nat) : RSl := match getBlk σ s with
  | some x => (match cRsl (x.cells.getD i (.inl undef)) with
    | some r => r
    | none => ⟨0, 0, 0, 0, 0⟩)
  | none => ⟨0, 0, 0, 0, 0⟩
def vlcapAt (σ : St) (a : Nat) : Nat := match getArr σ a with
  | some b => b.cap
  | none => 0
def vlswInv (tm : List AV) (σ : St) : Inv where
  X := Int × (Int × (Rws × Rws))
  tags := [0]
  tag _ _ := 0
  J := [2,3,5,6,7,8,9,10,11,15,16,17,18,19,20,21,22,23,24,25,26,27,28,29,30,31,32,33,34,35,36,37,38,39,40,41,42,43,44,45,46,47,48,49,50,51,52,53,54,55,56,57,58,59,60,61,62,63,64,65,66,67,68,69,70,71,72,73,74,75,76,77,78,79]
  val _ x := [(4, xi .i64 x.2.1), (14, xi .i64 x.1)]
  st _ x σ' := ⟨σ'.heap, σ'.ints, σ'.opqs, (σ'.arrs.set (vlshArr σ 0 0).a (some (vlkB x.2.2.1 (vlcapAt σ (vlshArr σ 0 0).a)))).set (vlshArr σ 0 1).a (some (vlvB x.2.2.2 (vlcapAt σ (vlshArr σ 0 1).a))), σ'.junks⟩
  I _ x := U.vlswI (rowsAt σ (slotR tm 1).a) (slotR tm 1).n (rowsAt σ (vlshArr σ 0 0).a) (rowsAt σ (vlshArr σ 0 1).a) (slotR tm 12).n x.1 x.2.1 x.2.2.1 x.2.2.2
  m _ x := ((slotR tm 12).n : Int).toNat - x.1.toNat
  ren := noRen
def vlinvSw : InvF := fun c tm σ => match tm.length, firstReg c with
  | 80, some 2 => some (vlswInv tm σ)
  | _, _ => none
def vlswSt (n c : Nat) (L : Rws) (d : Nat) (M : Rws) (m : Int) (G : Rws) (cg : Nat) : St := ⟨[vlB (rslC ⟨0, 1, 0, n, c⟩) (rslC ⟨1, 5, 0, n, d⟩) m], [], 0, [some (vlkB L c), some (vlvB M d), some (vlkB G cg)], 0⟩
theorem vlsweep_vc (K:AV→St→Prop) (L M G:Rws) (n c d q cg:Nat) (m:Int):(runW vlov vlinvSw (tblIf 60 vlpBS) 66 [ptr 0 0,cell (rslC ⟨2,1,0,q,cg⟩)] (vlswSt n c L d M m G cg) K)=(∀ (z0:Int),z0=(↑n:Int)→(∃ (y1:Int × Int × Rws × Rws),((0:Nat)=0∧q=q∧cg=cg)∧0=y1.2.1∧((0:Nat)=0∧n=n∧c=c)∧z0=z0∧0=y1.1∧((0:Nat)=0∧n=n∧c=c)∧((0:Nat)=0∧n=n∧d=d)∧m=m∧(L=y1.2.2.1∧c=c∧false=false)∧(M=y1.2.2.2∧d=d∧false=false)∧(G=G∧cg=cg∧false=false)∧U.vlswI G q L M n y1.1 y1.2.1 y1.2.2.1 y1.2.2.2)∧∀ (x2:Int × Int × Rws × Rws),U.vlswI G q L M n x2.1 x2.2.1 x2.2.2.1 x2.2.2.2→(x2.1<z0→(0≤x2.1∧x2.1<(↑n:Int))∧∀ (j3:Nat),(↑j3:Int)=(↑((0:Nat)):Int) + x2.1→j3<List.length x2.2.2.1∧∀ (z4:Int),z4=U.fi x2.2.2.1 j3 ((0:Nat))→(cg=cg∧q≤List.length G∧q≤1000000∧U.vlSrtR G q)∧∀ (z5:Int),U.vlAt G q z4 z5→(U.vlHasAt G q z4 z5→∀ (z6:Int),z6=IntKind.wrap .i64 (x2.1 + (1:Int))→∃ (y7:Int × Int × Rws × Rws),((0:Nat)=0∧q=q∧cg=cg)∧x2.2.1=y7.2.1∧((0:Nat)=0∧n=n∧c=c)∧z0=z0∧z6=y7.1∧((0:Nat)=0∧n=n∧c=c)∧((0:Nat)=0∧n=n∧d=d)∧m=m∧(x2.2.2.1=y7.2.2.1∧c=c∧false=false)∧(x2.2.2.2=y7.2.2.2∧d=d∧false=false)∧(G=G∧cg=cg∧false=false)∧U.vlswI G q L M n y7.1 y7.2.1 y7.2.2.1 y7.2.2.2∧Int.toNat (↑n:Int) - Int.toNat y7.1<Int.toNat (↑n:Int) - Int.toNat x2.1)∧(¬U.vlHasAt G q z4 z5→(0≤x2.1∧x2.1<(↑n:Int))∧∀ (j8:Nat),(↑j8:Int)=(↑((0:Nat)):Int) + x2.1→j8<List.length x2.2.2.2∧∀ (z9:Int),z9=U.fi x2.2.2.2 j8 ((0:Nat))→∀ (z10:Int),z10=U.fi x2.2.2.2 j8 ((0:Nat) + (1:Nat))→∀ (z11:Int),z11=U.fi x2.2.2.2 j8 ((0:Nat) + (1:Nat) + (1:Nat))→∀ (z12:Int),z12=U.fi x2.2.2.2 j8 ((0:Nat) + (1:Nat) + (1:Nat) + (1:Nat))→∀ (z13:Int),z13=U.fi x2.2.2.2 j8 ((0:Nat) + (1:Nat) + (1:Nat) + (1:Nat) + (1:Nat))→(0≤x2.2.1∧x2.2.1<(↑n:Int))∧∀ (j14:Nat),(↑j14:Int)=(↑((0:Nat)):Int) + x2.2.1→j14<List.length x2.2.2.1∧∀ (L'15:List (List CV)),L'15=U.put x2.2.2.1 j14 ((0:Nat)) [CV.i z4]→(0≤x2.2.1∧x2.2.1<(↑n:Int))∧∀ (j16:Nat),(↑j16:Int)=(↑((0:Nat)):Int) + x2.2.1→j16<List.length x2.2.2.2∧∀ (L'17:List (List CV)),L'17=U.put x2.2.2.2 j16 ((0:Nat)) [CV.i z9,CV.i z10,CV.i z11,CV.i z12,CV.i z13]→∀ (z18:Int),z18=IntKind.wrap .i64 (x2.2.1 + (1:Int))→∀ (z19:Int),z19=IntKind.wrap .i64 (x2.1 + (1:Int))→∃ (y20:Int × Int × Rws × Rws),((0:Nat)=0∧q=q∧cg=cg)∧z18=y20.2.1∧((0:Nat)=0∧n=n∧c=c)∧z0=z0∧z19=y20.1∧((0:Nat)=0∧n=n∧c=c)∧((0:Nat)=0∧n=n∧d=d)∧m=m∧(L'15=y20.2.2.1∧c=c∧false=false)∧(L'17=y20.2.2.2∧d=d∧false=false)∧(G=G∧cg=cg∧false=false)∧U.vlswI G q L M n y20.1 y20.2.1 y20.2.2.1 y20.2.2.2∧Int.toNat (↑n:Int) - Int.toNat y20.1<Int.toNat (↑n:Int) - Int.toNat x2.1))∧(¬x2.1<z0→(0≤x2.2.1∧x2.2.1≤(↑n:Int)∧(↑n:Int)≤(↑c:Int))∧∀ (o21 n22 c23:Nat),((↑o21:Int)=if (↑c:Int)=Option.getD (some x2.2.1) (0:Int) then (↑((0:Nat)):Int) else (↑((0:Nat)):Int) + x2.2.1)→(↑n22:Int)=(↑n:Int) - x2.2.1→(↑c23:Int)=(↑c:Int) - x2.2.1→o21 + n22≤List.length x2.2.2.1∧∀ (L'24:List (List CV)),L'24=List.take o21 x2.2.2.1 ++ List.replicate n22 [CV.i (0:Int)] ++ List.drop (o21 + n22) x2.2.2.1→(0≤x2.2.1∧x2.2.1≤(↑n:Int)∧(↑n:Int)≤(↑d:Int))∧∀ (o25 n26 c27:Nat),((↑o25:Int)=if (↑d:Int)=Option.getD (some x2.2.1) (0:Int) then (↑((0:Nat)):Int) else (↑((0:Nat)):Int) + x2.2.1)→(↑n26:Int)=(↑n:Int) - x2.2.1→(↑c27:Int)=(↑d:Int) - x2.2.1→o25 + n26≤List.length x2.2.2.2∧∀ (L'28:List (List CV)),L'28=List.take o25 x2.2.2.2 ++ List.replicate n26 [CV.i (0:Int),CV.i (0:Int),CV.i (0:Int),CV.i (0:Int),CV.i (0:Int)] ++ List.drop (o25 + n26) x2.2.2.2→((0:Int)≤0∧0≤x2.2.1∧x2.2.1≤(↑c:Int))∧∀ (o29 n30 c31:Nat),((↑o29:Int)=if (↑c:Int)=Option.getD none (0:Int) then (↑((0:Nat)):Int) else (0:Int))→(↑n30:Int)=x2.2.1 - (0:Int)→(↑c31:Int)=(↑c:Int) - (0:Int)→((0:Int)≤0∧0≤x2.2.1∧x2.2.1≤(↑d:Int))∧∀ (o32 n33 c34:Nat),((↑o32:Int)=if (↑d:Int)=Option.getD none (0:Int) then (↑((0:Nat)):Int) else (0:Int))→(↑n33:Int)=x2.2.1 - (0:Int)→(↑c34:Int)=(↑d:Int) - (0:Int)→K (Sum.inr []) ⟨[some ⟨nat_lit 81,[rslC ⟨0,1,o29,n30,c31⟩,rslC ⟨1,5,o32,n33,c34⟩,xintC .i64 m],none,3,false⟩],[],0,[some ⟨nat_lit 3,.o (.rows [.n .i64] L'24),[],c,false⟩,some ⟨nat_lit 58,.o (.rows [.n .i64,.n .i64,.n .i64,.n .i64,.n .i64] L'28),[],d,false⟩,some ⟨3,.o (.rows [.n .i64] G),[],cg,false⟩],0⟩)) := by kernel_rfl
end Go.Proofs.Ytfhgnngdbbgogaa
end
section
set_option linter.unusedVariables false
set_option linter.unusedSimpArgs false
set_option maxRecDepth 10000
namespace Go.Proofs.Ytfhgnngdbbgogaa
open Go Reck Ost
noncomputable def vlKeep (G : Rws) (q : Nat) (p : Int × VLv) : Bool := @decide (¬ U.vlIn G q p.1) (Classical.propDecidable _)
theorem vlkp_succ (G : Rws) (q : Nat) (L : Rws) (i : Nat) : (¬ U.vlIn G q (U.fi L i 0) → U.vlKp G q L (i + 1) = U.vlKp G q L i ++ [i]) ∧ (U.vlIn G q (U.fi L i 0) → U.vlKp G q L (i + 1) = U.vlKp G q L i) := by
  unfold U.vlKp
  rw [List.range_succ, List.filter_append]
  refine ⟨fun h => ?_, fun h => ?_⟩
  · rw [List.filter_cons_of_pos (by simp [h])]; rfl
  · rw [List.filter_cons_of_neg (by simp [h])]; simp
theorem vlrow_key {n c d : Nat} {L M : Rws} {P : VLP} (h : U.vlshI n c L d M P) {m : Nat} {p : Int × VLv} (hp : P[m]? = some p) : L[m]? = some [.i p.1] ∧ M[m]? = some p.2.row ∧ U.fi L m 0 = p.1 := by
  have hm : m < n := by rw [← vlshI_n h]; exact (List.getElem?_eq_some_iff.1 hp).1
  have h1 := fuGet h.kf hm
  have h2 := fuGet h.vf hm
  refine ⟨?_, ?_, vlkey_at h hp⟩
  · rw [h1]; simp [U.vlks, hp]
  · rw [h2]; simp [U.vlvs, hp]
theorem vlkp_map {n c d : Nat} {L M : Rws} {P : VLP} (h : U.vlshI n c L d M P) (G : Rws) (q : Nat) : ∀ i : Nat, i ≤ n → (U.vlKp G q L i).map (fun m => L.getD m []) = U.vlks ((P.take i).filter (vlKeep G q)) ∧ (U.vlKp G q L i).map (fun m => M.getD m []) = U.vlvs ((P.take i).filter (vlKeep G q))
  | 0, _ => ⟨rfl, rfl⟩
  | i + 1, hi => by
    have hn := vlshI_n h
    obtain ⟨h1, h2⟩ := vlkp_map h G q i (by omega)
    have hp := List.getElem?_eq_getElem (show i < P.length by omega)
    obtain ⟨r1, r2, r3⟩ := vlrow_key h hp
    have hk := vlkp_succ G q L i
    have ht : P.take (i + 1) = P.take i ++ [P[i]] := by rw [List.take_add_one, hp]; rfl
    rw [ht, List.filter_append]
    by_cases hin : U.vlIn G q (U.fi L i 0)
    · have hf : vlKeep G q P[i] = false := by unfold vlKeep; rw [← r3]; simp [hin]
      rw [hk.2 hin, List.filter_cons_of_neg (by rw [hf]; decide)]
      simp only [List.filter_nil, List.append_nil]
      exact ⟨h1, h2⟩
    · have hf : vlKeep G q P[i] = true := by unfold vlKeep; rw [← r3]; simp [hin]
      rw [hk.1 hin, List.filter_cons_of_pos hf, List.map_append, List.map_append, h1, h2]
      unfold U.vlks U.vlvs
      rw [List.map_append, List.map_append]
      simp only [List.map_cons, List.map_nil, List.filter_nil, List.getD_eq_getElem?_getD, r1, r2, Option.getD_some]
      exact ⟨trivial, trivial⟩
theorem vlin_iff {G : Rws} {q : Nat} {k : Int} {z : Int} (hs : U.vlSrtR G q) (ha : U.vlAt G q k z) : U.vlHasAt G q k z ↔ U.vlIn G q k := by
  have hb := ha.b
  constructor
  · rintro ⟨h1, h2⟩
    exact ⟨z.toNat, by omega, h2⟩
  · rintro ⟨m, hm, hk⟩
    have h1 : ¬ (m : Int) < z := fun h => by
      have := ha.lo m h
      rw [hk] at this; exact vlirr this
    have h2 : ¬ z < m := fun h => by
      have a := ha.hi z.toNat (by omega) (by omega)
      have b := hs.out z.toNat m (by omega) hm
      rw [hk] at b; exact a b
    exact ⟨by omega, by rw [show z.toNat = m by omega]; exact hk⟩
theorem vlset_put {L : Rws} {j : Nat} {a v : CV} (h : L[j]? = some [a]) : U.put L j 0 [v] = L.set j [v] := by
  unfold U.put
  rw [List.getD_eq_getElem?_getD, h]; rfl
theorem vlset_putV {L : Rws} {j : Nat} {a v : VLv} (h : L[j]? = some a.row) : U.put L j 0 v.row = L.set j v.row := by
  unfold U.put
  rw [List.getD_eq_getElem?_getD, h]; rfl
theorem vltake_set {α : Type} (X : List α) (j : Nat) (v : α) (h : j < X.length) : (X.set j v).take (j + 1) = X.take j ++ [v] := by
  rw [List.take_add_one, List.getElem?_set_self h, List.take_set_of_le (Nat.le_refl _)]; rfl
theorem vlsw_no {G L M L' M' : Rws} {q n : Nat} {i j z : Int} (h : U.vlswI G q L M n i j L' M') (hi : i < n) (hz : z = i + 1) (hin : U.vlIn G q (U.fi L i.toNat 0)) : U.vlswI G q L M n z j L' M' := by
  obtain ⟨h1, h2, h3, h4, h5, h6, h7, h8, h9⟩ := h
  have e : z.toNat = i.toNat + 1 := by omega
  have hk := (vlkp_succ G q L i.toNat).2 hin
  refine ⟨by omega, h2, by rw [e, hk]; exact h3, by rw [e, hk]; exact h4, by rw [e, hk]; exact h5, fun m hm => h6 m (by omega), fun m hm => h7 m (by omega), h8, h9⟩
theorem vlsw_yes {G L M L' M' L2 M2 : Rws} {q n : Nat} {i j z y : Int} {k : Int} {v : VLv} (h : U.vlswI G q L M n i j L' M') (hi : i < n) (hz : z = i + 1) (hy : y = j + 1) (hin : ¬ U.vlIn G q (U.fi L i.toNat 0)) (hl : n ≤ L.length ∧ n ≤ M.length)
    (hk : L[i.toNat]? = some [.i k]) (hv : M[i.toNat]? = some v.row) (h2 : L2 = U.put L' j.toNat 0 [.i k]) (h3 : M2 = U.put M' j.toNat 0 v.row) : U.vlswI G q L M n z y L2 M2 := by
  obtain ⟨g1, g2, g3, g4, g5, g6, g7, g8, g9⟩ := h
  have e : z.toNat = i.toNat + 1 := by omega
  have e2 : y.toNat = j.toNat + 1 := by omega
  have hk' := (vlkp_succ G q L i.toNat).1 hin
  obtain ⟨a, ha⟩ := g8 j.toNat (by omega)
  obtain ⟨b, hb⟩ := g9 j.toNat (by omega)
  rw [vlset_put ha] at h2
  rw [vlset_putV hb] at h3
  have hjl := (List.getElem?_eq_some_iff.1 ha).1
  have hjm := (List.getElem?_eq_some_iff.1 hb).1
  refine ⟨by omega, by rw [h2, h3, List.length_set, List.length_set]; exact g2, ?_, ?_, ?_, fun m hm => ?_, fun m hm => ?_, fun m hm => ?_, fun m hm => ?_⟩
  · rw [e, hk', List.length_append]; simp; omega
  · rw [e, hk', e2, h2, vltake_set _ _ _ hjl, g4, List.map_append]
    simp only [List.map_cons, List.map_nil, List.getD_eq_getElem?_getD, hk, Option.getD_some]
  · rw [e, hk', e2, h3, vltake_set _ _ _ hjm, g5, List.map_append]
    simp only [List.map_cons, List.map_nil, List.getD_eq_getElem?_getD, hv, Option.getD_some]
  · rw [h2, List.getElem?_set_ne (by omega)]; exact g6 m (by omega)
  · rw [h3, List.getElem?_set_ne (by omega)]; exact g7 m (by omega)
  · rw [h2, List.getElem?_set]
    split
    · exact ⟨k, rfl⟩
    · exact g8 m hm
  · rw [h3, List.getElem?_set]
    split
    · exact ⟨v, rfl⟩
    · exact g9 m hm
theorem vlclr_fu {L' L2 A : Rws} {n c j o r : Nat} {z : List CV} (hl : L'.length = c) (hn : n ≤ c) (hj : j ≤ n) (hs : n ≤ 1000000) (hA : A = L'.take j) (ho : o = j ∨ n - j = 0) (hr : r = n - j) (h2 : L2 = L'.take o ++ List.replicate r z ++ L'.drop (o + r)) (hoc : o + r ≤ L'.length) : U.Fu L2 j c A := by
  have hll : L2.length = c := by
    rw [h2, List.length_append, List.length_append, List.length_take, List.length_replicate, List.length_drop]; omega
  refine ⟨?_, hll, by omega, by omega⟩
  rcases ho with rfl | h0
  · rw [h2, List.append_assoc, List.take_append_of_le_length (by rw [List.length_take]; omega), List.take_take, Nat.min_self]; exact hA
  · have : r = 0 := by omega
    subst this
    have : L2 = L' := by rw [h2]; simp
    rw [this]; exact hA
structure U.vlSwp (P : VLP) (G : Rws) (q : Nat) (P' : VLP) : Prop where
  out : P' = P.filter (vlKeep G q)
set_option maxHeartbeats 1000000 in
theorem vlsweep_run (K : AV → St → Prop) (L M G : Rws) (n c d q cg : Nat) (m : Int) (P : VLP) (h : U.vlshI n c L d M P) (hn : n ≤ 100000) (hG : q ≤ G.length) (hq : q ≤ 1000000) (hs : U.vlSrtR G q)
    (hK : ∀ (n' : Nat) (L' M' : Rws) (P' : VLP), n' = U.vllen P' → U.vlSwp P G q P' → U.vlshI n' c L' d M' P' → K (.inr []) (vlswSt n' c L' d M' m G cg)) :
    runW vlov vlinvSw (tblIf 60 vlpBS) 66 [ptr 0 0, cell (rslC ⟨2, 1, 0, q, cg⟩)] (vlswSt n c L d M m G cg) K := by
  rw [vlsweep_vc]
  have hPn := vlshI_n h
  have l1 := h.kf.len
  have l2 := h.kf.le
  have l3 := h.vf.len
  have l4 := h.vf.le
  have hrow : ∀ j : Nat, j < n → ∃ p, P[j]? = some p := fun j hj => ⟨_, List.getElem?_eq_getElem (by omega)⟩
  intro z0 h0
  constructor
  · refine ⟨(0, (0, (L, M))), ?_⟩
    repeat' (first | exact rfl | with_reducible apply And.intro)
    refine ⟨⟨Int.le_refl _, by dsimp only; omega, Int.le_refl _, Int.le_refl _⟩, ⟨rfl, rfl⟩, rfl, rfl, rfl, fun _ _ => rfl, fun _ _ => rfl, fun m hm => ?_, fun m hm => ?_⟩
    · obtain ⟨p, hp⟩ := hrow m hm
      exact ⟨p.1, (vlrow_key h hp).1⟩
    · obtain ⟨p, hp⟩ := hrow m hm
      exact ⟨p.2, (vlrow_key h hp).2.1⟩
  rintro ⟨i, j, L1, M1⟩ hI
  have hI' := hI
  obtain ⟨⟨b1, b2, b3, b4⟩, ⟨k1, k2⟩, k3, k4, k5, k6, k7, k8, k9⟩ := hI'
  dsimp only at b1 b2 b3 b4 k1 k2 k3 k4 k5 k6 k7 k8 k9 hI ⊢
  refine ⟨fun hi => ⟨by omega, fun j3 hj3 => ⟨by omega, fun z4 h4 => ⟨⟨rfl, hG, hq, hs⟩, fun z5 hat => ⟨fun hx z6 h6 => ?_, fun hx => ⟨by omega, fun j8 hj8 => ⟨by omega, fun y0 g0 y1 g1 y2 g2 y3 g3 y4 g4 => ⟨by omega, fun j10 hj10 => ⟨by omega, fun L11 e11 => ⟨by omega, fun j12 hj12 => ⟨by omega, fun L13 e13 z14 h14 z15 h15 => ?_⟩⟩⟩⟩⟩⟩⟩⟩⟩⟩, fun hi => ?_⟩
  · have e6 := iw h6 (by omega)
    obtain ⟨p, hp⟩ := hrow j3 (by omega)
    have hf : U.fi L1 j3 0 = U.fi L j3 0 := by
      unfold U.fi
      rw [List.getD_eq_getElem?_getD, List.getD_eq_getElem?_getD, k6 j3 (by omega)]
    have hin : U.vlIn G q (U.fi L i.toNat 0) := by
      rw [show i.toNat = j3 by omega, ← hf, ← h4]
      exact (vlin_iff hs hat).1 hx
    refine ⟨(z6, (j, (L1, M1))), ?_⟩
    repeat' (first | exact rfl | exact vlsw_no hI (by omega) e6 hin | with_reducible apply And.intro)
    dsimp only; omega
  · have e14 := iw h14 (by omega)
    have e15 := iw h15 (by omega)
    obtain ⟨p, hp⟩ := hrow j3 (by omega)
    obtain ⟨r1, r2, r3⟩ := vlrow_key h hp
    have hf : U.fi L1 j3 0 = U.fi L j3 0 := by
      unfold U.fi
      rw [List.getD_eq_getElem?_getD, List.getD_eq_getElem?_getD, k6 j3 (by omega)]
    have hg : M1.getD j8 [] = p.2.row := by
      rw [List.getD_eq_getElem?_getD, k7 j8 (by omega), show j8 = j3 by omega, r2]; rfl
    have ez4 : z4 = p.1 := by rw [h4, hf, r3]
    have ez9 : (⟨y0, y1, y2, y3, y4⟩ : VLv) = p.2 := by
      have q0 : y0 = p.2.v0 := by rw [g0]; unfold U.fi; rw [hg]; rfl
      have q1 : y1 = p.2.v1 := by rw [g1]; unfold U.fi; rw [hg]; rfl
      have q2 : y2 = p.2.v2 := by rw [g2]; unfold U.fi; rw [hg]; rfl
      have q3 : y3 = p.2.v3 := by rw [g3]; unfold U.fi; rw [hg]; rfl
      have q4 : y4 = p.2.v4 := by rw [g4]; unfold U.fi; rw [hg]; rfl
      rw [q0, q1, q2, q3, q4]
    have hin : ¬ U.vlIn G q (U.fi L i.toNat 0) := by
      rw [show i.toNat = j3 by omega, ← hf, ← h4]
      exact fun hy => hx ((vlin_iff hs hat).2 hy)
    have := vlsw_yes (k := z4) (v := ⟨y0, y1, y2, y3, y4⟩) hI (by omega) e15 e14 hin ⟨by omega, by omega⟩ (by rw [show i.toNat = j3 by omega, r1, ez4]) (by rw [show i.toNat = j3 by omega, r2, ez9]) (L2 := L11) (M2 := L13) (by rw [e11, show j10 = j.toNat by omega]) (by rw [e13, show j12 = j.toNat by omega]; rfl)
    refine ⟨(z15, (z14, (L11, L13))), ?_⟩
    repeat' (first | exact rfl | exact this | with_reducible apply And.intro)
    dsimp only; omega
  · obtain rfl : i = n := by omega
    have hkm := vlkp_map h G q n (Nat.le_refl _)
    rw [Int.toNat_natCast] at k3 k4 k5
    rw [List.take_of_length_le (by omega)] at hkm
    refine ⟨⟨by omega, by omega, by omega⟩, fun o17 n18 c19 h17 h18 h19 => ?_⟩
    replace h17 : (o17 : Int) = if (c : Int) = j then 0 else 0 + j := h17
    have ho : o17 = j.toNat ∨ n - j.toNat = 0 := by
      split at h17
      · right; omega
      · left; omega
    have hol : o17 + n18 ≤ L1.length := by split at h17 <;> omega
    clear h17
    refine ⟨hol, fun L20 e20 => ⟨⟨by omega, by omega, by omega⟩, fun o21 n22 c23 h21 h22 h23 => ?_⟩⟩
    replace h21 : (o21 : Int) = if (d : Int) = j then 0 else 0 + j := h21
    have ho2 : o21 = j.toNat ∨ n - j.toNat = 0 := by
      split at h21
      · right; omega
      · left; omega
    have hol2 : o21 + n22 ≤ M1.length := by split at h21 <;> omega
    clear h21
    refine ⟨hol2, fun L24 e24 => ⟨⟨by omega, by omega, by omega⟩, fun o25 n26 c27 h25 h26 h27 => ⟨⟨by omega, by omega, by omega⟩, fun o28 n29 c30 h28 h29 h30 => ?_⟩⟩⟩
    obtain rfl : o25 = 0 := by split at h25 <;> omega
    obtain rfl : o28 = 0 := by split at h28 <;> omega
    obtain rfl : n26 = j.toNat := by omega
    obtain rfl : n29 = j.toNat := by omega
    obtain rfl : c27 = c := by omega
    obtain rfl : c30 = d := by omega
    have hsm := h.kf.sm
    refine hK _ L20 L24 (P.filter (vlKeep G q)) ?_ ⟨rfl⟩ ⟨?_, ?_, ⟨List.Pairwise.filter _ h.srt.out⟩⟩
    · have : (U.vlks (P.filter (vlKeep G q))).length = j.toNat := by rw [← hkm.1, List.length_map]; omega
      unfold U.vlks at this
      rw [List.length_map] at this
      exact this.symm
    · exact vlclr_fu (by omega) l2 (by omega) hsm (by rw [k4, hkm.1]) ho (by omega) e20 hol
    · exact vlclr_fu (by omega) l4 (by omega) hsm (by rw [k5, hkm.2]) ho2 (by omega) e24 hol2
end Go.Proofs.Ytfhgnngdbbgogaa
end
section
set_option linter.unusedVariables false
set_option linter.unusedSimpArgs false
set_option maxRecDepth 10000
namespace Go.Proofs.Ytfhgnngdbbgogaa
open Go Reck Ost
def vlpSweep : Pat := fun args σ => match args, σ with
  | [.inl (.inl (.inr (.inl (0, 0)))), l], ⟨[p], [], 0, [a1, a2, some ⟨3, .o (.rows [.n .i64] G), [], cg, false⟩], 0⟩ => match rslX l, vlshC p a1 a2 with
    | some ⟨2, 1, 0, q, cl⟩, some (n, c, L, d, M, m) => some fun K => ∃ P, (cl = cg ∧ vlshD p a1 a2 ∧ U.vlshI n c L d M P ∧ n ≤ 100000 ∧ q ≤ G.length ∧ q ≤ 1000000 ∧ U.vlSrtR G q) ∧ ∀ (n' : Nat) (L' M' : Rws) (P' : VLP), n' = U.vllen P' → U.vlSwp P G q P' → U.vlshI n' c L' d M' P' → K (.inr []) (vlswSt n' c L' d M' m G cg)
    | _, _ => none
  | _, _ => none
theorem vlpSweep_ok : PatOk 66 vlpSweep := by
  intro tm σ C h K hK w0 e w hk vs hvs
  unfold vlpSweep at h
  split at h
  · split at h
    · rename_i hl hσ
      simp only [Option.some.injEq] at h; subst h
      obtain ⟨P, ⟨hc, hy, h1, h2, h3, h4, h5⟩, h6⟩ := hK
      obtain ⟨rfl, rfl, rfl⟩ := vlshC_eq hσ hy
      subst hc
      obtain rfl := rslX_eq hl
      exact knownD noOv names (opMW_ok vlovOk) (conOk_ofR (tblIf_ok vlpBS_ok)) (vlsweep_run K _ _ _ _ _ _ _ _ _ P h1 h2 h3 h4 h5 h6) w0 e w hk vs hvs
    · cases h
  · cases h
def vltD : Tbl := tblOr (tblIf 66 vlpSweep) vltS
theorem vltD_ok : TblOk Try.prog vltD := tblOr_ok (tblIf_ok vlpSweep_ok) vltS_ok
structure U.vldpI (P : VLP) (f : Int × VLv → Bool) (i : Int) (G : Rws) (q cg : Nat) (O : Rws) (r co : Nat) : Prop where
  out : (0 ≤ i ∧ i ≤ P.length) ∧ G = U.vlks ((P.take i.toNat).filter f) ∧ O = U.vlvs ((P.take i.toNat).filter f) ∧ q = G.length ∧ q ≤ cg ∧ r = O.length ∧ r ≤ co ∧ (q : Int) ≤ i ∧ r = q
theorem vldp_0 (P : VLP) (f : Int × VLv → Bool) : U.vldpI P f 0 [] 0 0 [] 0 0 :=
  ⟨⟨by omega, by omega⟩, rfl, rfl, rfl, Nat.le_refl _, rfl, Nat.le_refl _, Int.le_refl _, rfl⟩
theorem vltake1 {P : VLP} {i : Int} {j : Nat} {p : Int × VLv} (h0 : 0 ≤ i) (hj : (j : Int) = i) (hp : P[j]? = some p) : P.take (i + 1).toNat = P.take i.toNat ++ [p] := by
  rw [show (i + 1).toNat = j + 1 by omega, show i.toNat = j by omega, List.take_add_one, hp]; rfl
theorem vldp_no {P : VLP} {f : Int × VLv → Bool} {i i' : Int} {G O : Rws} {q cg r co j : Nat} {p : Int × VLv} (h : U.vldpI P f i G q cg O r co) (hj : (j : Int) = i) (hp : P[j]? = some p) (hf : f p = false) (hi : i' = i + 1) : U.vldpI P f i' G q cg O r co := by
  obtain ⟨⟨h1, h2⟩, h3, h4, h5, h6, h7, h8, h9, h10⟩ := h.out
  have hl := (List.getElem?_eq_some_iff.1 hp).1
  subst hi
  have e := vltake1 h1 hj hp
  have e2 : (P.take (i + 1).toNat).filter f = (P.take i.toNat).filter f := by
    rw [e, List.filter_append, List.filter_cons_of_neg (by rw [hf]; decide)]; simp
  exact ⟨⟨by omega, by omega⟩, by rw [e2]; exact h3, by rw [e2]; exact h4, h5, h6, h7, h8, by omega, h10⟩
theorem vldp_yes {P : VLP} {f : Int × VLv → Bool} {i i' : Int} {G O G' O' : Rws} {q cg r co q' cg' r' co' j : Nat} {p : Int × VLv} (h : U.vldpI P f i G q cg O r co) (hj : (j : Int) = i) (hp : P[j]? = some p) (hf : f p = true) (hi : i' = i + 1)
    (e1 : G' = List.take q (List.drop 0 G) ++ [.i p.1] :: []) (e2 : q' = q + 1) (e3 : q' ≤ cg') (e4 : O' = List.take r (List.drop 0 O) ++ p.2.row :: []) (e5 : r' = r + 1) (e6 : r' ≤ co') : U.vldpI P f i' G' q' cg' O' r' co' := by
  obtain ⟨⟨h1, h2⟩, h3, h4, h5, h6, h7, h8, h9, h10⟩ := h.out
  have hl := (List.getElem?_eq_some_iff.1 hp).1
  subst hi
  have e := vltake1 h1 hj hp
  have ef : (P.take (i + 1).toNat).filter f = (P.take i.toNat).filter f ++ [p] := by
    rw [e, List.filter_append, List.filter_cons_of_pos hf]; rfl
  rw [List.drop_zero, h5, List.take_length] at e1
  rw [List.drop_zero, h7, List.take_length] at e4
  refine ⟨⟨by omega, by omega⟩, ?_, ?_, ?_, e3, ?_, e6, by omega, by omega⟩
  · rw [ef, e1, h3]; unfold U.vlks; rw [List.map_append]; rfl
  · rw [ef, e4, h4]; unfold U.vlvs; rw [List.map_append]; rfl
  · rw [e1, List.length_append, e2, h5]; rfl
  · rw [e4, List.length_append, e5, h7]; rfl
theorem vlat {P : VLP} {j : Nat} {p : Int × VLv} (h : P[j]? = some p) : (U.vlvs P).getD j [] = p.2.row ∧ (U.vlks P).getD j [] = [.i p.1] ∧ U.fi (U.vlks P) j 0 = p.1 := by
  have h1 : (U.vlvs P).getD j [] = p.2.row := by rw [List.getD_eq_getElem?_getD]; simp [U.vlvs, h]
  have h2 : (U.vlks P).getD j [] = [.i p.1] := by rw [List.getD_eq_getElem?_getD]; simp [U.vlks, h]
  unfold U.fi
  rw [h2]
  exact ⟨h1, rfl, rfl⟩
theorem vlone {P : VLP} (hs : U.vlSrt P) {k : Int} {e e' : VLv} (h : (k, e) ∈ P) (h' : (k, e') ∈ P) : e = e' := by
  obtain ⟨i, hi⟩ := List.getElem?_of_mem h
  obtain ⟨j, hj⟩ := List.getElem?_of_mem h'
  obtain ⟨li, hi⟩ := List.getElem?_eq_some_iff.1 hi
  obtain ⟨lj, hj⟩ := List.getElem?_eq_some_iff.1 hj
  have hp := List.pairwise_iff_getElem.1 hs.out
  rcases Nat.lt_trichotomy i j with g | g | g
  · have := hp i j li lj g
    rw [hi, hj] at this; exact (vlirr this).elim
  · subst g
    rw [hi] at hj
    exact (Prod.mk.injEq _ _ _ _ ▸ hj).2
  · have := hp j i lj li g
    rw [hi, hj] at this; exact (vlirr this).elim
theorem vlin_ks {Q : VLP} {k : Int} : U.vlIn (U.vlks Q) Q.length k ↔ ∃ e, (k, e) ∈ Q := by
  constructor
  · rintro ⟨m, hm, hk⟩
    have hp := List.getElem?_eq_getElem hm
    have := (vlat hp).2.2
    exact ⟨Q[m].2, by rw [← hk, this]; exact List.getElem_mem hm⟩
  · rintro ⟨e, he⟩
    obtain ⟨m, hm⟩ := List.getElem?_of_mem he
    exact ⟨m, (List.getElem?_eq_some_iff.1 hm).1, (vlat hm).2.2⟩
theorem vlkeep_eq {P : VLP} (hs : U.vlSrt P) (f : Int × VLv → Bool) : P.filter (vlKeep (U.vlks (P.filter f)) (P.filter f).length) = P.filter fun p => !f p := by
  apply List.filter_congr
  intro p hp
  have : U.vlIn (U.vlks (P.filter f)) (P.filter f).length p.1 ↔ f p = true := by
    rw [vlin_ks]
    constructor
    · rintro ⟨e, he⟩
      obtain ⟨h1, h2⟩ := List.mem_filter.1 he
      have := vlone hs h1 hp
      rw [this] at h2; exact h2
    · intro h
      exact ⟨p.2, List.mem_filter.2 ⟨hp, h⟩⟩
  unfold vlKeep
  by_cases h : f p = true
  · simp [this.2 h, h]
  · have h' : ¬ U.vlIn (U.vlks (P.filter f)) (P.filter f).length p.1 := fun g => h (this.1 g)
    simp [h', h]
theorem vldp_end {P : VLP} {f : Int × VLv → Bool} {i : Int} {G O : Rws} {q cg r co : Nat} (hs : U.vlSrt P) (h : U.vldpI P f i G q cg O r co) (hi : ¬ i < P.length) :
    G = U.vlks (P.filter f) ∧ O = U.vlvs (P.filter f) ∧ q = (P.filter f).length ∧ r = (P.filter f).length ∧ U.vlSrtR G q ∧ ∀ P', U.vlSwp P G q P' → P' = P.filter fun p => !f p := by
  obtain ⟨⟨h1, h2⟩, h3, h4, h5, h6, h7, h8, h9, h10⟩ := h.out
  rw [List.take_of_length_le (by omega)] at h3 h4
  have hq : q = (P.filter f).length := by rw [h5, h3]; simp [U.vlks]
  refine ⟨h3, h4, hq, by omega, ⟨fun a b hab hb => ?_⟩, fun P' hw => by rw [hw.out, h3, hq]; exact vlkeep_eq hs f⟩
  have ha := List.getElem?_eq_getElem (show a < (P.filter f).length by omega)
  have hb' := List.getElem?_eq_getElem (show b < (P.filter f).length by omega)
  rw [h3, (vlat ha).2.2, (vlat hb').2.2]
  exact List.pairwise_iff_getElem.1 (List.Pairwise.filter _ hs.out) a b (by omega) (by omega) hab
end Go.Proofs.Ytfhgnngdbbgogaa
end
