/- Parts of a proof, one behind the other: VV1 VV2 VV3 VV4 VV5. No condition. -/
import Derived.Test.YtfhgnngdbbgogaaGB
import Derived.Test.YtfhgnngdbbgogaaGD
section
namespace Go.Proofs.Ytfhgnngdbbgogaa
open Go Reck Ost
set_option linter.unusedVariables false
set_option maxRecDepth 100000
abbrev plA (a b : Int) : AV := .inl (.inr [xintC .i64 a, xintC .i64 b])
def aPl (x : AV) : Option (Int × Int) := match x with
  | .inl (.inr [a, b]) => match cInt a, cInt b with
    | some a, some b => some (a, b)
    | _, _ => none
  | _ => none
theorem aPl_av {x : AV} {a b : Int} (h : aPl x = some (a, b)) {e : Env} {v : Value} (hv : Reck.av e x = some v) : Reck.av e (plA a b) = some v := by
  unfold aPl at h
  split at h
  · split at h
    · rename_i h1 h2
      simp only [Option.some.injEq, Prod.mk.injEq] at h
      obtain ⟨rfl, rfl⟩ := h
      rw [cInt_eq h1, cInt_eq h2] at hv; exact hv
    · cases h
  · cases h
structure U.Gd (a b : Int) : Prop where
  out : (1 ≤ a ∧ a ≤ 8) ∧ 1 ≤ b ∧ b ≤ 8
def pGood : Pat := fun args σ => match args, σ with
  | [p], ⟨[], [], 0, [], 0⟩ => match aPl p with
    | some (a, b) => some fun K => (U.Gd a b → K (lit (.bool true)) emptySt) ∧ (¬ U.Gd a b → K (lit (.bool false)) emptySt)
    | _ => none
  | _, _ => none
def U.num (a b : Int) : Int := (a - 1) * 8 + b - 1
def pNum : Pat := fun args σ => match args, σ with
  | [p], ⟨[], [], 0, [], 0⟩ => match aPl p with
    | some (a, b) => some fun K => U.Gd a b ∧ ∀ z : Int, z = U.num a b → K (xi .i64 z) emptySt
    | _ => none
  | _, _ => none
def aSn (x : AV) : Option (Int × Int × Int × Int × Int) := match x with
  | .inl (.inr [a, b, c, d, e]) => match cInt a, cInt b, cInt c, cInt d, cInt e with
    | some a, some b, some c, some d, some e => some (a, b, c, d, e)
    | _, _, _, _, _ => none
  | _ => none
theorem aSn_eq {x : AV} {a b c d e : Int} (h : aSn x = some (a, b, c, d, e)) : x = .inl (.inr (vlC a b c d e)) := by
  unfold aSn at h
  split at h
  · split at h
    · rename_i h1 h2 h3 h4 h5
      simp only [Option.some.injEq, Prod.mk.injEq] at h
      obtain ⟨rfl, rfl, rfl, rfl, rfl⟩ := h
      rw [cInt_eq h1, cInt_eq h2, cInt_eq h3, cInt_eq h4, cInt_eq h5]; rfl
    · cases h
  · cases h
structure U.End (v0 v1 v2 v3 a b : Int) : Prop where
  out : (a = v0 ∧ b = v1) ∨ (a = v2 ∧ b = v3)
def pEnds : Pat := fun args σ => match args, σ with
  | [s, p], ⟨[], [], 0, [], 0⟩ => match aSn s, aPl p with
    | some (v0, v1, v2, v3, v4), some (a, b) => some fun K => (U.End v0 v1 v2 v3 a b → K (lit (.bool true)) emptySt) ∧ (¬ U.End v0 v1 v2 v3 a b → K (lit (.bool false)) emptySt)
    | _, _ => none
  | _, _ => none
def liA (a b c d : Int) : AV := .inl (.inr [xintC .i64 a, xintC .i64 b, xintC .i64 c, xintC .i64 d])
def pBtw : Pat := fun args σ => match args, σ with
  | [p, q], ⟨[], [], 0, [], 0⟩ => match aPl p, aPl q with
    | some (a, b), some (a', b') => some fun K => (U.Gd a b ∧ U.Gd a' b') ∧ (U.num a' b' < U.num a b → K (liA a' b' a b) emptySt) ∧ (¬ U.num a' b' < U.num a b → K (liA a b a' b') emptySt)
    | _, _ => none
  | _, _ => none
def tPl : Tbl := tblOr (tblIf 32 pGood) (tblOr (tblIf 49 pGood) (tblIf 39 pNum))
def vwB : Option Blk := some ⟨60, [.inr (.inl (1, 0)), .inr (.inl (2, 0))], none, 2, false⟩
def vwSt (n c : Nat) (L : Rws) (d : Nat) (M : Rws) (m : Int) (e f : Nat) (S : Rws) (g : Nat) (T : Rws) (k : Int) : St := ⟨[vwB, vuB (rslC ⟨0, 1, 0, n, c⟩) (rslC ⟨1, 1, 0, n, d⟩) m, vlB (rslC ⟨2, 1, 0, e, f⟩) (rslC ⟨3, 5, 0, e, g⟩) k], [], 0, [some (vukB L c), some (vuvB M d), some (vlkB S f), some (vlvB T g)], 0⟩
def tUp0 : Tbl := tblOr tPl vutS
theorem good_vc (K:AV→St→Prop) (a b:Int):(runR inv0 tbl0 32 [plA a b] emptySt K)=((1≤a→(a≤8→(1≤b→(b≤8→K (lit (.bool true)) ⟨[],[],0,[],0⟩)∧(¬b≤8→K (lit (.bool false)) ⟨[],[],0,[],0⟩))∧(¬1≤b→K (lit (.bool false)) ⟨[],[],0,[],0⟩))∧(¬a≤8→K (lit (.bool false)) ⟨[],[],0,[],0⟩))∧(¬1≤a→K (lit (.bool false)) ⟨[],[],0,[],0⟩)) := by kernel_rfl
theorem rgood_vc (K:AV→St→Prop) (a b:Int):(runR inv0 tbl0 49 [plA a b] emptySt K)=((0<a→(a<9→(0<b→(b<9→K (lit (.bool true)) ⟨[],[],0,[],0⟩)∧(¬b<9→K (lit (.bool false)) ⟨[],[],0,[],0⟩))∧(¬0<b→K (lit (.bool false)) ⟨[],[],0,[],0⟩))∧(¬a<9→K (lit (.bool false)) ⟨[],[],0,[],0⟩))∧(¬0<a→K (lit (.bool false)) ⟨[],[],0,[],0⟩)) := by kernel_rfl
theorem num_vc (K:AV→St→Prop) (a b:Int):(runR inv0 tbl0 39 [plA a b] emptySt K)=(∀ (z0:Int),z0=IntKind.wrap .i64 (a - (1:Int))→∀ (z1:Int),z1=IntKind.wrap .i64 (z0 * (8:Int))→∀ (z2:Int),z2=IntKind.wrap .i64 (z1 + b)→∀ (z3:Int),z3=IntKind.wrap .i64 (z2 - (1:Int))→K (Sum.inl (Sum.inl (xintC .i64 z3))) ⟨[],[],0,[],0⟩) := by kernel_rfl
theorem ends_vc (K:AV→St→Prop) (v0 v1 v2 v3 v4 a b:Int):(runR inv0 tbl0 36 [.inl (.inr (vlC v0 v1 v2 v3 v4)),plA a b] emptySt K)=((a=v0∧b=v1∧True→K (lit (.bool true)) ⟨[],[],0,[],0⟩)∧(¬(a=v0∧b=v1∧True)→(a=v2∧b=v3∧True→K (lit (.bool true)) ⟨[],[],0,[],0⟩)∧(¬(a=v2∧b=v3∧True)→K (lit (.bool false)) ⟨[],[],0,[],0⟩))) := by kernel_rfl
theorem btw_vc (K:AV→St→Prop) (a b a' b':Int):(runR inv0 tPl 37 [plA a b,plA a' b'] emptySt K)=(U.Gd a' b'∧∀ (z0:Int),z0=U.num a' b'→a=a∧b=b∧a'=a'∧b'=b'∧U.Gd a b∧∀ (z1:Int),z1=U.num a b→a=a∧b=b∧a'=a'∧b'=b'∧(z0<z1→K (Sum.inl (Sum.inr [xintC .i64 a',xintC .i64 b',xintC .i64 a,xintC .i64 b])) ⟨[],[],0,[],0⟩)∧(¬z0<z1→K (Sum.inl (Sum.inr [xintC .i64 a,xintC .i64 b,xintC .i64 a',xintC .i64 b'])) ⟨[],[],0,[],0⟩)) := by kernel_rfl
theorem up_vc (K:AV→St→Prop) (n c:Nat) (L:Rws) (d:Nat) (M:Rws) (m:Int) (e f:Nat) (S:Rws) (g:Nat) (T:Rws) (k:Int) (a b:Int):(runR inv0 tUp0 12 [ptr 0 0,plA a b] (vwSt n c L d M m e f S g T k) K)=((U.Gd a b→∃ (y0:VUP),((c=c∧d=d∧n=n)∧U.vushI n c L d M y0∧n≤100000)∧(∀ (v01:Int),U.vuHasE y0 a v01→a=a∧∀ (z2:Int),z2=IntKind.wrap .i64 (b - (1:Int))→0≤z2∧∀ (z3:Int),z3=shrI IntKind.i64 v01 z2→∀ (z4:Int),z4=andI .i64 z3 (1:Int)→(z4=1→K (lit (.bool true)) ⟨[vwB,vuB (rslC ⟨0,1,0,n,c⟩) (rslC ⟨1,1,0,n,d⟩) m,vlB (rslC ⟨2,1,0,e,f⟩) (rslC ⟨3,5,0,e,g⟩) k],[],0,[some (vukB L c),some (vukB M d),some (vukB S f),some (vlvB T g)],0⟩)∧(¬z4=1→K (lit (.bool false)) ⟨[vwB,vuB (rslC ⟨0,1,0,n,c⟩) (rslC ⟨1,1,0,n,d⟩) m,vlB (rslC ⟨2,1,0,e,f⟩) (rslC ⟨3,5,0,e,g⟩) k],[],0,[some (vukB L c),some (vukB M d),some (vukB S f),some (vlvB T g)],0⟩))∧(¬U.vuHasK y0 a→a=a∧∀ (z5:Int),z5=IntKind.wrap .i64 (b - (1:Int))→0≤z5∧∀ (z6:Int),z6=shrI IntKind.i64 (0:Int) z5→∀ (z7:Int),z7=andI .i64 z6 (1:Int)→(z7=1→K (lit (.bool true)) ⟨[vwB,vuB (rslC ⟨0,1,0,n,c⟩) (rslC ⟨1,1,0,n,d⟩) m,vlB (rslC ⟨2,1,0,e,f⟩) (rslC ⟨3,5,0,e,g⟩) k],[],0,[some (vukB L c),some (vukB M d),some (vukB S f),some (vlvB T g)],0⟩)∧(¬z7=1→K (lit (.bool false)) ⟨[vwB,vuB (rslC ⟨0,1,0,n,c⟩) (rslC ⟨1,1,0,n,d⟩) m,vlB (rslC ⟨2,1,0,e,f⟩) (rslC ⟨3,5,0,e,g⟩) k],[],0,[some (vukB L c),some (vukB M d),some (vukB S f),some (vlvB T g)],0⟩)))∧(¬U.Gd a b→K (lit (.bool false)) ⟨[vwB,vuB (rslC ⟨0,1,0,n,c⟩) (rslC ⟨1,1,0,n,d⟩) m,vlB (rslC ⟨2,1,0,e,f⟩) (rslC ⟨3,5,0,e,g⟩) k],[],0,[some (vukB L c),some (vukB M d),some (vukB S f),some (vlvB T g)],0⟩)) := by kernel_rfl
end Go.Proofs.Ytfhgnngdbbgogaa
end
section
set_option linter.unusedVariables false
set_option linter.unusedSimpArgs false
set_option maxRecDepth 10000
namespace Go.Proofs.Ytfhgnngdbbgogaa
open Go Reck Ost
theorem gd_all {a b : Int} {X Y : Prop} (h1 : U.Gd a b → X) (h2 : ¬ U.Gd a b → Y) : (1 ≤ a → (a ≤ 8 → (1 ≤ b → (b ≤ 8 → X) ∧ (¬ b ≤ 8 → Y)) ∧ (¬ 1 ≤ b → Y)) ∧ (¬ a ≤ 8 → Y)) ∧ (¬ 1 ≤ a → Y) :=
  ⟨fun g1 => ⟨fun g2 => ⟨fun g3 => ⟨fun g4 => h1 ⟨⟨g1, g2⟩, g3, g4⟩, fun g4 => h2 fun h => g4 h.out.2.2⟩, fun g3 => h2 fun h => g3 h.out.2.1⟩, fun g2 => h2 fun h => g2 h.out.1.2⟩, fun g1 => h2 fun h => g1 h.out.1.1⟩
theorem good_run (K : AV → St → Prop) (a b : Int) (h1 : U.Gd a b → K (lit (.bool true)) emptySt) (h2 : ¬ U.Gd a b → K (lit (.bool false)) emptySt) : runR inv0 tbl0 32 [plA a b] emptySt K := by
  rw [good_vc]
  exact gd_all h1 h2
theorem rgood_run (K : AV → St → Prop) (a b : Int) (h1 : U.Gd a b → K (lit (.bool true)) emptySt) (h2 : ¬ U.Gd a b → K (lit (.bool false)) emptySt) : runR inv0 tbl0 49 [plA a b] emptySt K := by
  rw [rgood_vc]
  refine ⟨fun g1 => ⟨fun g2 => ⟨fun g3 => ⟨fun g4 => h1 ⟨by omega, by omega⟩, fun g4 => h2 fun h => g4 (by have := h.out; omega)⟩, fun g3 => h2 fun h => g3 (by have := h.out; omega)⟩, fun g2 => h2 fun h => g2 (by have := h.out; omega)⟩, fun g1 => h2 fun h => g1 (by have := h.out; omega)⟩
theorem num_run (K : AV → St → Prop) (a b : Int) (h : U.Gd a b) (hK : ∀ z : Int, z = U.num a b → K (xi .i64 z) emptySt) : runR inv0 tbl0 39 [plA a b] emptySt K := by
  rw [num_vc]
  have := h.out
  intro z0 h0 z1 h1 z2 h2 z3 h3
  have e0 := iw h0 (by omega)
  have e1 := iw h1 (by omega)
  have e2 := iw h2 (by omega)
  have e3 := iw h3 (by omega)
  exact hK z3 (by unfold U.num; omega)
theorem ends_run (K : AV → St → Prop) (v0 v1 v2 v3 v4 a b : Int) (h1 : U.End v0 v1 v2 v3 a b → K (lit (.bool true)) emptySt) (h2 : ¬ U.End v0 v1 v2 v3 a b → K (lit (.bool false)) emptySt) : runR inv0 tbl0 36 [.inl (.inr (vlC v0 v1 v2 v3 v4)), plA a b] emptySt K := by
  rw [ends_vc]
  exact ⟨fun g => h1 ⟨.inl ⟨g.1, g.2.1⟩⟩, fun g => ⟨fun k => h1 ⟨.inr ⟨k.1, k.2.1⟩⟩, fun k => h2 fun h => h.out.elim (fun x => g ⟨x.1, x.2, trivial⟩) fun x => k ⟨x.1, x.2, trivial⟩⟩⟩
theorem pGood_ok : PatOk 32 pGood := by
  intro tm σ C h K hK w0 e w hk vs hvs
  unfold pGood at h
  split at h
  · split at h
    · rename_i a b hp
      simp only [Option.some.injEq] at h; subst h
      obtain ⟨v, rfl, hv⟩ := ones hvs
      exact knownC noOv names (conOk_ofR tbl0_ok) (good_run K a b hK.1 hK.2) w0 e w hk _ (map1 (aPl_av hp hv))
    · cases h
  · cases h
theorem prGood_ok : PatOk 49 pGood := by
  intro tm σ C h K hK w0 e w hk vs hvs
  unfold pGood at h
  split at h
  · split at h
    · rename_i a b hp
      simp only [Option.some.injEq] at h; subst h
      obtain ⟨v, rfl, hv⟩ := ones hvs
      exact knownC noOv names (conOk_ofR tbl0_ok) (rgood_run K a b hK.1 hK.2) w0 e w hk _ (map1 (aPl_av hp hv))
    · cases h
  · cases h
theorem pNum_ok : PatOk 39 pNum := by
  intro tm σ C h K hK w0 e w hk vs hvs
  unfold pNum at h
  split at h
  · split at h
    · rename_i a b hp
      simp only [Option.some.injEq] at h; subst h
      obtain ⟨v, rfl, hv⟩ := ones hvs
      exact knownC noOv names (conOk_ofR tbl0_ok) (num_run K a b hK.1 hK.2) w0 e w hk _ (map1 (aPl_av hp hv))
    · cases h
  · cases h
theorem tPl_ok : TblOk Try.prog tPl := tblOr_ok (tblIf_ok pGood_ok) (tblOr_ok (tblIf_ok prGood_ok) (tblIf_ok pNum_ok))
theorem tUp0_ok : TblOk Try.prog tUp0 := tblOr_ok tPl_ok vutS_ok
theorem pEnds_ok : PatOk 36 pEnds := by
  intro tm σ C h K hK w0 e w hk vs hvs
  unfold pEnds at h
  split at h
  · split at h
    · rename_i hs hp
      simp only [Option.some.injEq] at h; subst h
      obtain ⟨x, y, rfl, q1, q2⟩ := twos hvs
      obtain rfl := aSn_eq hs
      exact knownC noOv names (conOk_ofR tbl0_ok) (ends_run K _ _ _ _ _ _ _ hK.1 hK.2) w0 e w hk _ (map2 q1 (aPl_av hp q2))
    · cases h
  · cases h
theorem btw_run (K : AV → St → Prop) (a b a' b' : Int) (h : U.Gd a b ∧ U.Gd a' b') (h1 : U.num a' b' < U.num a b → K (liA a' b' a b) emptySt) (h2 : ¬ U.num a' b' < U.num a b → K (liA a b a' b') emptySt) : runR inv0 tPl 37 [plA a b, plA a' b'] emptySt K := by
  rw [btw_vc]
  repeat' (first | exact h.1 | exact h.2 | exact rfl | with_reducible apply And.intro | (intro z hz; first | subst hz | skip) | intro _)
  all_goals first | exact h1 (by assumption) | exact h2 (by assumption) | (subst_vars; first | exact h1 (by assumption) | exact h2 (by assumption))
theorem pBtw_ok : PatOk 37 pBtw := by
  intro tm σ C h K hK w0 e w hk vs hvs
  unfold pBtw at h
  split at h
  · split at h
    · rename_i hp hq
      simp only [Option.some.injEq] at h; subst h
      obtain ⟨x, y, rfl, q1, q2⟩ := twos hvs
      exact knownC noOv names (conOk_ofR tPl_ok) (btw_run K _ _ _ _ hK.1 hK.2.1 hK.2.2) w0 e w hk _ (map2 (aPl_av hp q1) (aPl_av hq q2))
    · cases h
  · cases h
structure U.KU (P : VUP) : Prop where
  out : ∀ k v, (k, v) ∈ P → (1 ≤ k ∧ k ≤ 8) ∧ 0 ≤ v.v0 ∧ v.v0 ≤ 255
def U.bit (v b : Int) : Int := v / 2 ^ (b - 1).toNat % 2
structure U.Upp (P : VUP) (a b : Int) : Prop where
  out : U.Gd a b ∧ ∃ v, (a, (⟨v⟩ : VUv)) ∈ P ∧ U.bit v b = 1
theorem shr_i {v z : Int} (hv : 0 ≤ v) (hz : 0 ≤ z ∧ z ≤ 63) : shrI .i64 v z = v / 2 ^ z.toNat := by
  unfold shrI
  rw [Nat.min_eq_left (by simp [IntKind.bits]; omega)]
  exact Int.fdiv_eq_ediv_of_nonneg _ (Int.pow_nonneg (by decide))
theorem and_1 {x : Int} (h : 0 ≤ x ∧ x ≤ 255) : andI .i64 x 1 = x % 2 := by
  obtain ⟨n, rfl⟩ : ∃ n : Nat, x = n := ⟨x.toNat, by omega⟩
  have : ∀ n : Nat, n < 256 → andI .i64 (n : Int) 1 = (n : Int) % 2 := by decide
  exact this n (by omega)
end Go.Proofs.Ytfhgnngdbbgogaa
end
section
namespace Go.Proofs.Ytfhgnngdbbgogaa
open Go Reck Ost
set_option linter.unusedVariables false
set_option maxRecDepth 100000
theorem hasE_mem {P : VUP} {k v : Int} (h : U.vuHasE P k v) : (k, (⟨v⟩ : VUv)) ∈ P := h.out
theorem vu_one {P : VUP} (hs : U.vuSrt P) {k : Int} {e e' : VUv} (h : (k, e) ∈ P) (h' : (k, e') ∈ P) : e = e' := by
  obtain ⟨i, hi⟩ := List.getElem?_of_mem h
  obtain ⟨j, hj⟩ := List.getElem?_of_mem h'
  obtain ⟨li, hi⟩ := List.getElem?_eq_some_iff.1 hi
  obtain ⟨lj, hj⟩ := List.getElem?_eq_some_iff.1 hj
  have hp := List.pairwise_iff_getElem.1 hs.out
  rcases Nat.lt_trichotomy i j with g | g | g
  · have := hp i j li lj g
    rw [hi, hj] at this; exact (Int.lt_irrefl _ this).elim
  · subst g
    rw [hi] at hj
    exact (Prod.mk.injEq _ _ _ _ ▸ hj).2
  · have := hp j i lj li g
    rw [hi, hj] at this; exact (Int.lt_irrefl _ this).elim
theorem up_run (K : AV → St → Prop) (n c : Nat) (L : Rws) (d : Nat) (M : Rws) (m : Int) (e f : Nat) (S : Rws) (g : Nat) (T : Rws) (k : Int) (a b : Int) (P : VUP) (h : U.vushI n c L d M P) (hn : n ≤ 100000) (hu : U.KU P)
    (h1 : U.Upp P a b → K (lit (.bool true)) (vwSt n c L d M m e f S g T k)) (h2 : ¬ U.Upp P a b → K (lit (.bool false)) (vwSt n c L d M m e f S g T k)) :
    runR inv0 tUp0 12 [ptr 0 0, plA a b] (vwSt n c L d M m e f S g T k) K := by
  rw [up_vc]
  refine ⟨fun hg => ⟨P, ⟨⟨rfl, rfl, rfl⟩, h, hn⟩, fun v hv => ⟨rfl, fun z2 e2 => ?_⟩, fun hno => ⟨rfl, fun z2 e2 => ?_⟩⟩, fun hg => h2 fun h => hg h.out.1⟩
  · have hb := hg.out
    have e2 := iw e2 (by omega)
    have hv' := hasE_mem hv
    obtain ⟨_, v1, v2⟩ := hu.out _ _ hv'
    dsimp only at v1 v2
    refine ⟨by omega, fun z3 e3 z4 e4 => ?_⟩
    rw [shr_i v1 (by omega), show z2.toNat = (b - 1).toNat by rw [e2]] at e3
    have h3 : 0 ≤ z3 ∧ z3 ≤ 255 := by
      have hp : (0 : Int) < 2 ^ (b - 1).toNat := Int.pow_pos (by decide)
      refine ⟨by rw [e3]; exact Int.ediv_nonneg v1 (Int.le_of_lt hp), ?_⟩
      have := Int.ediv_le_self (2 ^ (b - 1).toNat) v1
      omega
    rw [and_1 h3, e3] at e4
    refine ⟨fun hz => h1 ⟨hg, v, hv', ?_⟩, fun hz => h2 fun hx => hz ?_⟩
    · unfold U.bit; omega
    · obtain ⟨_, w, hw, hb⟩ := hx.out
      have := vu_one h.srt hv' hw
      cases this
      unfold U.bit at hb
      omega
  · have hb := hg.out
    have e2 := iw e2 (by omega)
    refine ⟨by omega, fun z3 e3 z4 e4 => ?_⟩
    rw [shr_i (by decide) (by omega), Int.zero_ediv] at e3
    rw [and_1 (by omega), e3] at e4
    exact ⟨fun hz => absurd (e4.symm.trans hz) (by decide), fun _ => h2 fun hx => by
      obtain ⟨_, w, hw, _⟩ := hx.out
      exact hno ⟨_, hw⟩⟩
def vwC (σ : St) : Option (Nat × Nat × Rws × Nat × Rws × Int × Nat × Nat × Rws × Nat × Rws × Int) := match σ with
  | ⟨[some ⟨60, [.inr (.inl (1, 0)), .inr (.inl (2, 0))], none, 2, false⟩, p, some ⟨81, [a, b, k], none, 3, false⟩], [], 0, [a1, a2, some ⟨3, .o (.rows [.n .i64] S), [], f0, false⟩, some ⟨58, .o (.rows ks T), [], g0, false⟩], 0⟩ => match vushC p a1 a2, cRsl a, cRsl b, cInt k, sameK ks vlvK with
    | some (n, c, L, d, M, m), some ⟨2, 1, 0, e, f⟩, some ⟨3, 5, 0, e2, g⟩, some k, true => some (n, c, L, d, M, m, e, f0, S, g0, T, k)
    | _, _, _, _, _ => none
  | _ => none
def vwD (σ : St) : Prop := match σ with
  | ⟨[_, p, some ⟨_, [a, b, _], _, _, _⟩], _, _, [a1, a2, some ⟨_, _, _, f0, _⟩, some ⟨_, _, _, g0, _⟩], _⟩ => vushD p a1 a2 ∧ (match cRsl a, cRsl b with
    | some ⟨_, _, _, e, f⟩, some ⟨_, _, _, e2, g⟩ => f = f0 ∧ g = g0 ∧ e2 = e
    | _, _ => False)
  | _ => False
theorem vwC_eq {σ : St} {n c : Nat} {L : Rws} {d : Nat} {M : Rws} {m : Int} {e f : Nat} {S : Rws} {g : Nat} {T : Rws} {k : Int} (h : vwC σ = some (n, c, L, d, M, m, e, f, S, g, T, k)) (hy : vwD σ) : σ = vwSt n c L d M m e f S g T k := by
  unfold vwC at h
  split at h
  · split at h
    · rename_i h1 h2 h3 h4 h5
      simp only [Option.some.injEq, Prod.mk.injEq] at h
      obtain ⟨rfl, rfl, rfl, rfl, rfl, rfl, rfl, rfl, rfl, rfl, rfl, rfl⟩ := h
      obtain ⟨y1, y2⟩ := hy
      simp only [h2, h3] at y2
      obtain ⟨rfl, rfl, rfl⟩ := y2
      obtain ⟨rfl, rfl, rfl⟩ := vushC_eq h1 y1
      rw [cRsl_eq h2, cRsl_eq h3, cInt_eq h4, sameK_eq h5]
      rfl
    · cases h
  · cases h
structure U.VwI (n c : Nat) (L : Rws) (d : Nat) (M : Rws) (e f : Nat) (S : Rws) (g : Nat) (T : Rws) (Pu : VUP) (Pl : VLP) : Prop where
  u : U.vushI n c L d M Pu
  l : U.vlshI e f S g T Pl
  ku : U.KU Pu
  sm : n ≤ 8 ∧ e ≤ 32
def pUp : Pat := fun args σ => match args with
  | [.inl (.inl (.inr (.inl (0, 0)))), p] => match aPl p, vwC σ with
    | some (a, b), some (n, c, L, d, M, m, e, f, S, g, T, k) => some fun K => ∃ Pu : VUP, (vwD σ ∧ U.vushI n c L d M Pu ∧ n ≤ 8 ∧ U.KU Pu) ∧ (U.Upp Pu a b → K (lit (.bool true)) (vwSt n c L d M m e f S g T k)) ∧ (¬ U.Upp Pu a b → K (lit (.bool false)) (vwSt n c L d M m e f S g T k))
    | _, _ => none
  | _ => none
theorem pUp_ok : PatOk 12 pUp := by
  intro tm σ C h K hK w0 e w hk vs hvs
  unfold pUp at h
  split at h
  · split at h
    · rename_i hp hσ
      simp only [Option.some.injEq] at h; subst h
      obtain ⟨Pu, ⟨hy, h1, h2, h3⟩, h4, h5⟩ := hK
      obtain rfl := vwC_eq hσ hy
      obtain ⟨x, y, rfl, q1, q2⟩ := twos hvs
      exact knownC noOv names (conOk_ofR tUp0_ok) (up_run K _ _ _ _ _ _ _ _ _ _ _ _ _ _ Pu h1 (by omega) h3 h4 h5) w0 e w hk _ (map2 q1 (aPl_av hp q2))
    · cases h
  · cases h
def U.lks (P : VLP) : Rws := P.map fun p => [.i p.2.v0, .i p.2.v1, .i p.2.v2, .i p.2.v3]
def liB (O : Rws) (c : Nat) : ABlk := rowB 42 [.n .i64, .n .i64, .n .i64, .n .i64] O c false
structure U.plI (P : VLP) (i : Int) (O : Rws) (q c : Nat) : Prop where
  out : 0 ≤ i ∧ i ≤ P.length ∧ O = U.lks (P.take i.toNat) ∧ q = O.length ∧ (q : Int) = i ∧ q ≤ c
def plInv (P : VLP) (tm : List AV) (σ : St) : Inv where
  X := Int × (Rws × (Nat × Nat))
  tags := [0]
  tag _ _ := 0
  J := [0,1,2,4,5,9,10,11,12,13,14,15,16,17,18]
  val _ x := [(8, xi .i64 x.1), (3, cell (rslC ⟨σ.arrs.length, 4, 0, x.2.2.1, x.2.2.2⟩))]
  st _ x σ' := ⟨σ'.heap, σ'.ints, σ'.opqs, σ'.arrs.dropLast ++ [some (liB x.2.1 x.2.2.2)], σ'.junks⟩
  I _ x := U.plI P x.1 x.2.1 x.2.2.1 x.2.2.2
  m _ x := ((slotR tm 6).n : Int).toNat - x.1.toNat
  ren tm' σ' := ([], [(slotR tm' 3).a])
structure U.ifI (P : VLP) (a b i : Int) : Prop where
  out : 0 ≤ i ∧ i ≤ P.length ∧ ∀ m : Nat, (m : Int) < i → ∀ p, P[m]? = some p → ¬ U.End p.2.v0 p.2.v1 p.2.v2 p.2.v3 a b
def ifInv (P : VLP) (a b : Int) (tm : List AV) (σ : St) : Inv where
  X := Int
  tags := [0]
  tag _ _ := 0
  J := [2,3,4,5,9,10,11,12,13,14,15,16,17,18]
  val _ x := [(8, xi .i64 x)]
  st _ _ σ' := σ'
  I _ x := U.ifI P a b x
  m _ x := ((slotR tm 6).n : Int).toNat - x.toNat
  ren := noRen
def invV3 (P : VLP) (a b : Int) : InvF := fun c tm σ => match tm.length, firstReg c with
  | 19, some 3 => some (plInv P tm σ)
  | 19, some 2 => some (ifInv P a b tm σ)
  | _, _ => none
def tV3 : Tbl := tblOr (tblIf 12 pUp) (tblOr (tblIf 36 pEnds) (tblOr (tblIf 37 pBtw) (tblOr tPl vltD)))
theorem tV3_ok : TblOk Try.prog tV3 := tblOr_ok (tblIf_ok pUp_ok) (tblOr_ok (tblIf_ok pEnds_ok) (tblOr_ok (tblIf_ok pBtw_ok) (tblOr_ok tPl_ok vltD_ok)))
theorem plain_vc (K:AV→St→Prop) (P:VLP) (R:Rws) (n c:Nat):(runR (invV3 P 0 0) tbl0 30 [cell (rslC ⟨0,5,0,n,c⟩)] ⟨[],[],0,[some (vlvB R c)],0⟩ K)=(∀ (z0:Int),z0=(↑n:Int)→(∃ (y1:Int × Rws × Nat × Nat),((0:Nat)=0∧0=y1.2.2.1∧0=y1.2.2.2)∧((0:Nat)=0∧n=n∧c=c)∧z0=z0∧0=y1.1∧(R=R∧c=c∧false=false)∧(U.nilL=U.nilL∧(0:Nat)=0∧false=false)∧(U.nilL=y1.2.1∧0=y1.2.2.2∧false=false)∧U.plI P y1.1 y1.2.1 y1.2.2.1 y1.2.2.2)∧∀ (x2:Int × Rws × Nat × Nat),U.plI P x2.1 x2.2.1 x2.2.2.1 x2.2.2.2→(x2.1<z0→(0≤x2.1∧x2.1<(↑n:Int))∧∀ (j3:Nat),(↑j3:Int)=(↑((0:Nat)):Int) + x2.1→j3<List.length R∧∀ (z4:Int),z4=U.fi R j3 ((0:Nat))→∀ (z5:Int),z5=U.fi R j3 ((0:Nat) + (1:Nat))→∀ (z6:Int),z6=U.fi R j3 ((0:Nat) + (1:Nat) + (1:Nat))→∀ (z7:Int),z7=U.fi R j3 ((0:Nat) + (1:Nat) + (1:Nat) + (1:Nat))→∀ (z8:Int),z8=U.fi R j3 ((0:Nat) + (1:Nat) + (1:Nat) + (1:Nat) + (1:Nat))→((0:Nat) + x2.2.2.1≤List.length x2.2.1∧(0:Nat) + x2.2.2.2≤x2.2.2.2)∧True∧x2.2.2.1≤16777216∧(1:Nat)≤16777216∧∀ (L'9:List (List CV)) (n'10 c'11:Nat),L'9=List.take x2.2.2.1 (List.drop ((0:Nat)) x2.2.1) ++ [CV.i z4,CV.i z5,CV.i z6,CV.i z7] :: U.nilL→n'10=x2.2.2.1 + (1:Nat)→n'10≤c'11→∀ (z12:Int),z12=IntKind.wrap .i64 (x2.1 + (1:Int))→∃ (y13:Int × Rws × Nat × Nat),((0:Nat)=0∧n'10=y13.2.2.1∧c'11=y13.2.2.2)∧((0:Nat)=0∧n=n∧c=c)∧z0=z0∧z12=y13.1∧(R=R∧c=c∧false=false)∧(U.nilL=U.nilL∧(0:Nat)=0∧false=false)∧(L'9=y13.2.1∧c'11=y13.2.2.2∧false=false)∧U.plI P y13.1 y13.2.1 y13.2.2.1 y13.2.2.2∧Int.toNat (↑n:Int) - Int.toNat y13.1<Int.toNat (↑n:Int) - Int.toNat x2.1)∧(¬x2.1<z0→K (Sum.inl (Sum.inl (rslC ⟨1,4,0,x2.2.2.1,x2.2.2.2⟩))) ⟨[],[],0,[some (vlvB R c),some ⟨42,.o (.rows [.n .i64,.n .i64,.n .i64,.n .i64] x2.2.1),[],x2.2.2.2,false⟩],0⟩)) := by kernel_rfl
theorem edge_vc (K:AV→St→Prop) (P:VLP) (n c:Nat) (L:Rws) (d:Nat) (M:Rws) (m:Int) (e f:Nat) (S:Rws) (g:Nat) (T:Rws) (k:Int) (a b:Int):(runR (invV3 P a b) tV3 14 [ptr 0 0,plA a b] (vwSt n c L d M m e f S g T k) K)=(∃ (y0:VUP),(((c=c∧d=d∧n=n)∧f=f∧g=g∧e=e)∧U.vushI n c L d M y0∧n≤8∧U.KU y0)∧(U.Upp y0 a b→∃ (y1:VLP),((f=f∧g=g∧e=e)∧U.vlshI e f S g T y1)∧∀ (L'2:Rws) (n'3 c'4:Nat),n'3=e→n'3≤c'4→L'2=U.vlvs y1→∀ (z5:Int),z5=(↑n'3:Int)→(∃ (y6:Int),((0:Nat)=0∧n'3=n'3∧c'4=c'4)∧((0:Nat)=0∧n'3=n'3∧c'4=c'4)∧z5=z5∧0=y6∧((0:Nat)=0∧n=n∧c=c)∧((0:Nat)=0∧n=n∧d=d)∧m=m∧((0:Nat)=0∧e=e∧f=f)∧((0:Nat)=0∧e=e∧g=g)∧k=k∧a=a∧b=b∧(L=L∧c=c∧false=false)∧(M=M∧d=d∧false=false)∧(S=S∧f=f∧false=false)∧(T=T∧g=g∧false=false)∧(L'2=L'2∧c'4=c'4∧false=false)∧U.ifI P a b y6)∧∀ (x7:Int),U.ifI P a b x7→(x7<z5→(0≤x7∧x7<(↑n'3:Int))∧∀ (j8:Nat),(↑j8:Int)=(↑((0:Nat)):Int) + x7→j8<List.length L'2∧∀ (z9:Int),z9=U.fi L'2 j8 ((0:Nat))→∀ (z10:Int),z10=U.fi L'2 j8 ((0:Nat) + (1:Nat))→∀ (z11:Int),z11=U.fi L'2 j8 ((0:Nat) + (1:Nat) + (1:Nat))→∀ (z12:Int),z12=U.fi L'2 j8 ((0:Nat) + (1:Nat) + (1:Nat) + (1:Nat))→∀ (z13:Int),z13=U.fi L'2 j8 ((0:Nat) + (1:Nat) + (1:Nat) + (1:Nat) + (1:Nat))→(U.End z9 z10 z11 z12 a b→(0≤x7→K (lit (.bool false)) ⟨[vwB,vuB (rslC ⟨0,1,0,n,c⟩) (rslC ⟨1,1,0,n,d⟩) m,vlB (rslC ⟨2,1,0,e,f⟩) (rslC ⟨3,5,0,e,g⟩) k],[],0,[some (vukB L c),some (vukB M d),some (vukB S f),some ⟨(58:TypeId),.o (.rows [.n .i64,.n .i64,.n .i64,.n .i64,.n .i64] T),[],g,false⟩],0⟩)∧(¬0≤x7→K (lit (.bool true)) ⟨[vwB,vuB (rslC ⟨0,1,0,n,c⟩) (rslC ⟨1,1,0,n,d⟩) m,vlB (rslC ⟨2,1,0,e,f⟩) (rslC ⟨3,5,0,e,g⟩) k],[],0,[some (vukB L c),some (vukB M d),some (vukB S f),some ⟨(58:TypeId),.o (.rows [.n .i64,.n .i64,.n .i64,.n .i64,.n .i64] T),[],g,false⟩],0⟩))∧(¬U.End z9 z10 z11 z12 a b→∀ (z14:Int),z14=IntKind.wrap .i64 (x7 + (1:Int))→∃ (y15:Int),((0:Nat)=0∧n'3=n'3∧c'4=c'4)∧((0:Nat)=0∧n'3=n'3∧c'4=c'4)∧z5=z5∧z14=y15∧((0:Nat)=0∧n=n∧c=c)∧((0:Nat)=0∧n=n∧d=d)∧m=m∧((0:Nat)=0∧e=e∧f=f)∧((0:Nat)=0∧e=e∧g=g)∧k=k∧a=a∧b=b∧(L=L∧c=c∧false=false)∧(M=M∧d=d∧false=false)∧(S=S∧f=f∧false=false)∧(T=T∧g=g∧false=false)∧(L'2=L'2∧c'4=c'4∧false=false)∧U.ifI P a b y15∧Int.toNat (↑n'3:Int) - Int.toNat y15<Int.toNat (↑n'3:Int) - Int.toNat x7))∧(¬x7<z5→K (lit (.bool true)) ⟨[vwB,vuB (rslC ⟨0,1,0,n,c⟩) (rslC ⟨1,1,0,n,d⟩) m,vlB (rslC ⟨2,1,0,e,f⟩) (rslC ⟨3,5,0,e,g⟩) k],[],0,[some (vukB L c),some (vukB M d),some (vukB S f),some ⟨(58:TypeId),.o (.rows [.n .i64,.n .i64,.n .i64,.n .i64,.n .i64] T),[],g,false⟩],0⟩))∧(¬U.Upp y0 a b→K (lit (.bool false)) ⟨[vwB,vuB (rslC ⟨0,1,0,n,c⟩) (rslC ⟨1,1,0,n,d⟩) m,vlB (rslC ⟨2,1,0,e,f⟩) (rslC ⟨3,5,0,e,g⟩) k],[],0,[some (vukB L c),some (vukB M d),some (vukB S f),some ⟨(58:TypeId),.o (.rows [.n .i64,.n .i64,.n .i64,.n .i64,.n .i64] T),[],g,false⟩],0⟩)) := by kernel_rfl
end Go.Proofs.Ytfhgnngdbbgogaa
end
section
namespace Go.Proofs.Ytfhgnngdbbgogaa
open Go Reck Ost
set_option linter.unusedVariables false
set_option maxRecDepth 100000
theorem vl_fi {P : VLP} {j : Nat} {p : Int × VLv} (h : P[j]? = some p) : U.fi (U.vlvs P) j 0 = p.2.v0 ∧ U.fi (U.vlvs P) j (0 + 1) = p.2.v1 ∧ U.fi (U.vlvs P) j (0 + 1 + 1) = p.2.v2 ∧ U.fi (U.vlvs P) j (0 + 1 + 1 + 1) = p.2.v3 ∧ U.fi (U.vlvs P) j (0 + 1 + 1 + 1 + 1) = p.2.v4 := by
  have := (vlat h).1
  unfold U.fi
  rw [this]
  exact ⟨rfl, rfl, rfl, rfl, rfl⟩
theorem lks_len (P : VLP) : (U.lks P).length = P.length := by simp [U.lks]
theorem plain_run (K : AV → St → Prop) (P : VLP) (n c : Nat) (hn : n = P.length) (hs : n ≤ 100000) (hK : ∀ (O : Rws) (q c' : Nat), O = U.lks P → q = n → q ≤ c' → K (cell (rslC ⟨1, 4, 0, q, c'⟩)) ⟨[], [], 0, [some (vlvB (U.vlvs P) c), some (liB O c')], 0⟩) :
    runR (invV3 P 0 0) tbl0 30 [cell (rslC ⟨0, 5, 0, n, c⟩)] ⟨[], [], 0, [some (vlvB (U.vlvs P) c)], 0⟩ K := by
  rw [plain_vc]
  have hvl : (U.vlvs P).length = P.length := by simp [U.vlvs]
  intro z0 h0
  constructor
  · refine ⟨(0, ([], (0, 0))), ?_⟩
    repeat' (first | exact rfl | with_reducible apply And.intro)
    exact ⟨by dsimp only; omega, by dsimp only; omega, rfl, rfl, rfl, Nat.le_refl _⟩
  rintro ⟨i, O, q, qc⟩ hI
  obtain ⟨i1, i2, i3, i4, i5, i6⟩ := hI.out
  dsimp only at i1 i2 i3 i4 i5 i6 ⊢
  refine ⟨fun hi => ⟨⟨by omega, by omega⟩, fun j hj => ⟨by omega, ?_⟩⟩, fun hi => ?_⟩
  · obtain ⟨p, hp⟩ : ∃ p, P[j]? = some p := ⟨_, List.getElem?_eq_getElem (show j < P.length by omega)⟩
    obtain ⟨f0, f1, f2, f3, f4⟩ := vl_fi hp
    rintro _ rfl _ rfl _ rfl _ rfl _ rfl
    refine ⟨⟨by omega, by omega⟩, trivial, by omega, by decide, fun L9 n10 c11 e9 e10 e11 z12 h12 => ?_⟩
    have e := iw h12 (by omega)
    refine ⟨(z12, (L9, (n10, c11))), ?_⟩
    repeat' (first | exact rfl | with_reducible apply And.intro)
    · rw [List.drop_zero, i4, List.take_length] at e9
      refine ⟨by dsimp only; omega, by dsimp only; omega, ?_, ?_, by dsimp only; omega, e11⟩
      · dsimp only
        rw [e9, e, show (i + 1).toNat = j + 1 by omega, List.take_add_one, hp, i3, show i.toNat = j by omega, f0, f1, f2, f3]
        unfold U.lks
        rw [List.map_append]; rfl
      · rw [e9, List.length_append, e10, i4]; rfl
    · dsimp only; omega
  · exact hK O q qc (by rw [i3, List.take_of_length_le (by omega)]) (by omega) i6
def pPlain : Pat := fun args σ => match args, σ with
  | [l], ⟨[], [], 0, [some ⟨58, .o (.rows ks R), [], c, false⟩], 0⟩ => match rslX l, sameK ks vlvK with
    | some ⟨0, 5, 0, n, cl⟩, true => some fun K => ∃ P : VLP, (cl = c ∧ R = U.vlvs P ∧ n = U.vllen P ∧ n ≤ 100000) ∧ ∀ (O : Rws) (q c' : Nat), O = U.lks P → q = n → q ≤ c' → K (cell (rslC ⟨1, 4, 0, q, c'⟩)) ⟨[], [], 0, [some (vlvB R c), some (liB O c')], 0⟩
    | _, _ => none
  | _, _ => none
theorem pPlain_ok : PatOk 30 pPlain := by
  intro tm σ C h K hK w0 e w hk vs hvs
  unfold pPlain at h
  split at h
  · split at h
    · rename_i hl hks
      simp only [Option.some.injEq] at h; subst h
      obtain ⟨P, ⟨rfl, rfl, h1, h2⟩, h3⟩ := hK
      obtain rfl := rslX_eq hl
      rw [sameK_eq hks] at hk
      exact knownC noOv names (conOk_ofR tbl0_ok) (plain_run K P _ _ h1 h2 h3) w0 e w hk vs hvs
    · cases h
  · cases h
structure U.Edg (Pu : VUP) (Pl : VLP) (a b : Int) : Prop where
  up : U.Upp Pu a b
  no : ∀ p ∈ Pl, ¬ U.End p.2.v0 p.2.v1 p.2.v2 p.2.v3 a b
theorem edge_run (K : AV → St → Prop) (P : VLP) (n c : Nat) (L : Rws) (d : Nat) (M : Rws) (m : Int) (e f : Nat) (S : Rws) (g : Nat) (T : Rws) (k : Int) (a b : Int) (Pu : VUP) (h : U.vushI n c L d M Pu) (hn : n ≤ 8) (hu : U.KU Pu) (hl : U.vlshI e f S g T P) (hs : e ≤ 100000)
    (h1 : U.Edg Pu P a b → K (lit (.bool true)) (vwSt n c L d M m e f S g T k)) (h2 : ¬ U.Edg Pu P a b → K (lit (.bool false)) (vwSt n c L d M m e f S g T k)) :
    runR (invV3 P a b) tV3 14 [ptr 0 0, plA a b] (vwSt n c L d M m e f S g T k) K := by
  rw [edge_vc]
  have hpn := vlshI_n hl
  refine ⟨Pu, ⟨⟨⟨rfl, rfl, rfl⟩, rfl, rfl, rfl⟩, h, hn, hu⟩, fun hup => ⟨P, ⟨⟨rfl, rfl, rfl⟩, hl⟩, fun V n3 c4 e3 e4 e5 z5 h5 => ⟨?_, ?_⟩⟩, fun hup => h2 fun hx => hup hx.up⟩
  · refine ⟨0, ?_⟩
    repeat' (first | exact rfl | with_reducible apply And.intro)
    exact ⟨by omega, by omega, fun m hm => by omega⟩
  · rintro i hI
    obtain ⟨i1, i2, i3⟩ := hI.out
    have hvl : V.length = P.length := by rw [e5]; simp [U.vlvs]
    refine ⟨fun hi => ⟨⟨by omega, by omega⟩, fun j hj => ⟨by omega, ?_⟩⟩, fun hi => ?_⟩
    · obtain ⟨p, hp⟩ : ∃ p, P[j]? = some p := ⟨_, List.getElem?_eq_getElem (show j < P.length by omega)⟩
      obtain ⟨f0, f1, f2, f3, f4⟩ := vl_fi hp
      rw [← e5] at f0 f1 f2 f3 f4
      rw [f0, f1, f2, f3, f4]
      rintro _ rfl _ rfl _ rfl _ rfl _ rfl
      refine ⟨fun he => ⟨fun _ => h2 fun hx => hx.no p (List.mem_of_getElem? hp) he, fun hne => absurd i1 hne⟩, fun hne z14 h14 => ?_⟩
      have e14 := iw h14 (by omega)
      refine ⟨z14, ?_⟩
      repeat' (first | exact rfl | with_reducible apply And.intro)
      · refine ⟨by omega, by omega, fun m hm p' hpm => ?_⟩
        by_cases em : m = j
        · subst em
          rw [hp] at hpm
          cases hpm; exact hne
        · exact i3 m (by omega) p' hpm
      · omega
    · refine h1 ⟨hup, fun p hp he => ?_⟩
      obtain ⟨m, hm⟩ := List.getElem?_of_mem hp
      have hml := (List.getElem?_eq_some_iff.1 hm).1
      exact i3 m (by omega) p hm he
def pEdge : Pat := fun args σ => match args with
  | [.inl (.inl (.inr (.inl (0, 0)))), p] => match aPl p, vwC σ with
    | some (a, b), some (n, c, L, d, M, m, e, f, S, g, T, k) => some fun K => ∃ Pu : VUP, ∃ Pl : VLP, (vwD σ ∧ U.vushI n c L d M Pu ∧ n ≤ 8 ∧ U.KU Pu ∧ U.vlshI e f S g T Pl ∧ e ≤ 100000) ∧ (U.Edg Pu Pl a b → K (lit (.bool true)) (vwSt n c L d M m e f S g T k)) ∧ (¬ U.Edg Pu Pl a b → K (lit (.bool false)) (vwSt n c L d M m e f S g T k))
    | _, _ => none
  | _ => none
theorem pEdge_ok : PatOk 14 pEdge := by
  intro tm σ C h K hK w0 e w hk vs hvs
  unfold pEdge at h
  split at h
  · split at h
    · rename_i hp hσ
      simp only [Option.some.injEq] at h; subst h
      obtain ⟨Pu, Pl, ⟨hy, h1, h2, h3, h6, h7⟩, h4, h5⟩ := hK
      obtain rfl := vwC_eq hσ hy
      obtain ⟨x, y, rfl, q1, q2⟩ := twos hvs
      exact knownC noOv names (conOk_ofR tV3_ok) (edge_run K Pl _ _ _ _ _ _ _ _ _ _ _ _ _ _ Pu h1 h2 h3 h6 h7 h4 h5) w0 e w hk _ (map2 q1 (aPl_av hp q2))
    · cases h
  · cases h
abbrev XP := Rws × (Nat × Nat)
def dpInv (P : VLP) (f : Int × VLv → Bool) (tm : List AV) (σ : St) : Inv where
  X := Int × (XP × XP)
  tags := [0]
  tag _ _ := 0
  J := [2,3,4,8,9,10,11,12,13,14,15,16,17,18,22,23,24,25,26,27,28,29,30,31,32,33,34,35,36,37,38,39,40,41,42,43,44,45,46,47,48]
  val _ x := [(21, xi .i64 x.1), (5, cell (rslC ⟨σ.arrs.length, 1, 0, x.2.1.2.1, x.2.1.2.2⟩)), (6, cell (rslC ⟨σ.arrs.length + 1, 5, 0, x.2.2.2.1, x.2.2.2.2⟩))]
  st _ x σ' := ⟨σ'.heap, σ'.ints, σ'.opqs, σ'.arrs.dropLast.dropLast ++ [some (vlkB x.2.1.1 x.2.1.2.2), some (vlvB x.2.2.1 x.2.2.2.2)], σ'.junks⟩
  I _ x := U.vldpI P f x.1 x.2.1.1 x.2.1.2.1 x.2.1.2.2 x.2.2.1 x.2.2.2.1 x.2.2.2.2
  m _ x := ((slotR tm 19).n : Int).toNat - x.1.toNat
  ren tm' σ' := ([], [(slotR tm' 5).a, (slotR tm' 6).a])
def invDp (P : VLP) (f : Int × VLv → Bool) : InvF := fun c tm σ => match tm.length, firstReg c with
  | 49, some 7 => some (dpInv P f tm σ)
  | _, _ => none
def tV4 : Tbl := tblOr (tblIf 30 pPlain) (tblOr tV3 vutS)
theorem tV4_ok : TblOk Try.prog tV4 := tblOr_ok (tblIf_ok pPlain_ok) (tblOr_ok tV3_ok vutS_ok)
def cloC (f : Nat) (l : List (Nat × Nat)) : Cell := .inr (.inr (.inr (.inr (.inl (f, l)))))
def bxP (a b : Int) : Option Blk := some ⟨32, [xintC .i64 a, xintC .i64 b], none, 2, false⟩
def bxI (a : Int) : Option Blk := some ⟨2, [xintC .i64 a], none, 1, false⟩
def vwSx (n c : Nat) (L : Rws) (d : Nat) (M : Rws) (m : Int) (e f : Nat) (S : Rws) (g : Nat) (T : Rws) (k : Int) (H : List (Option Blk)) : St := ⟨vwB :: vuB (rslC ⟨0, 1, 0, n, c⟩) (rslC ⟨1, 1, 0, n, d⟩) m :: vlB (rslC ⟨2, 1, 0, e, f⟩) (rslC ⟨3, 5, 0, e, g⟩) k :: H, [], 0, [some (vukB L c), some (vuvB M d), some (vlkB S f), some (vlvB T g)], 0⟩
theorem loseB_vc (K:AV→St→Prop) (P:VLP) (F:Int × VLv→Bool) (n c:Nat) (L:Rws) (d:Nat) (M:Rws) (m:Int) (e f:Nat) (S:Rws) (g:Nat) (T:Rws) (k:Int):(runQ (invDp P F) tV4 41 [ptr 0 0,cell (cloC (1048576 + 44) [(0,0)])] (vwSx n c L d M m e f S g T k []) K)=(∃ (y0:VLP),((f=f∧g=g∧e=e)∧U.vlshI e f S g T y0)∧∀ (L'1:Rws) (n'2 c'3:Nat),n'2=e→n'2≤c'3→L'1=U.vlvs y0→∃ (y4:VLP),((f=f∧g=g∧e=e)∧U.vlshI e f S g T y4)∧∀ (L'5:Rws) (n'6 c'7:Nat),n'6=e→n'6≤c'7→L'5=U.vlks y4→∀ (z8:Int),z8=(↑n'6:Int)→(∃ (y9:Int × XP × XP),((0:Nat)=0∧0=y9.2.1.2.1∧0=y9.2.1.2.2)∧((0:Nat)=0∧0=y9.2.2.2.1∧0=y9.2.2.2.2)∧((0:Nat)=0∧n'2=n'2∧c'3=c'3)∧((0:Nat)=0∧n'6=n'6∧c'7=c'7)∧z8=z8∧0=y9.1∧((0:Nat)=0∧n=n∧c=c)∧((0:Nat)=0∧n=n∧d=d)∧m=m∧((0:Nat)=0∧e=e∧f=f)∧((0:Nat)=0∧e=e∧g=g)∧k=k∧(L=L∧c=c∧false=false)∧(M=M∧d=d∧false=false)∧(S=S∧f=f∧false=false)∧(T=T∧g=g∧false=false)∧(U.nilL=U.nilL∧(0:Nat)=0∧false=false)∧(U.nilL=U.nilL∧(0:Nat)=0∧false=false)∧(L'1=L'1∧c'3=c'3∧false=false)∧(L'5=L'5∧c'7=c'7∧false=false)∧(U.nilL=y9.2.1.1∧0=y9.2.1.2.2∧false=false)∧(U.nilL=y9.2.2.1∧0=y9.2.2.2.2∧false=false)∧U.vldpI P F y9.1 y9.2.1.1 y9.2.1.2.1 y9.2.1.2.2 y9.2.2.1 y9.2.2.2.1 y9.2.2.2.2)∧∀ (x10:Int × XP × XP),U.vldpI P F x10.1 x10.2.1.1 x10.2.1.2.1 x10.2.1.2.2 x10.2.2.1 x10.2.2.2.1 x10.2.2.2.2→(x10.1<z8→(0≤x10.1∧x10.1<(↑n'6:Int))∧∀ (j11:Nat),(↑j11:Int)=(↑((0:Nat)):Int) + x10.1→j11<List.length L'5∧∀ (z12:Int),z12=U.fi L'5 j11 ((0:Nat))→(0≤x10.1∧x10.1<(↑n'2:Int))∧∀ (j13:Nat),(↑j13:Int)=(↑((0:Nat)):Int) + x10.1→j13<List.length L'1∧∀ (z14:Int),z14=U.fi L'1 j13 ((0:Nat))→∀ (z15:Int),z15=U.fi L'1 j13 ((0:Nat) + (1:Nat))→∀ (z16:Int),z16=U.fi L'1 j13 ((0:Nat) + (1:Nat) + (1:Nat))→∀ (z17:Int),z17=U.fi L'1 j13 ((0:Nat) + (1:Nat) + (1:Nat) + (1:Nat))→∀ (z18:Int),z18=U.fi L'1 j13 ((0:Nat) + (1:Nat) + (1:Nat) + (1:Nat) + (1:Nat))→∃ (y19:VUP),(((c=c∧d=d∧n=n)∧f=f∧g=g∧e=e)∧U.vushI n c L d M y19∧n≤8∧U.KU y19)∧(U.Upp y19 z14 z15→∃ (y20:VUP),(((c=c∧d=d∧n=n)∧f=f∧g=g∧e=e)∧U.vushI n c L d M y20∧n≤8∧U.KU y20)∧(U.Upp y20 z16 z17→∀ (z21:Int),z21=IntKind.wrap .i64 (x10.1 + (1:Int))→∃ (y22:Int × XP × XP),((0:Nat)=0∧x10.2.1.2.1=y22.2.1.2.1∧x10.2.1.2.2=y22.2.1.2.2)∧((0:Nat)=0∧x10.2.2.2.1=y22.2.2.2.1∧x10.2.2.2.2=y22.2.2.2.2)∧((0:Nat)=0∧n'2=n'2∧c'3=c'3)∧((0:Nat)=0∧n'6=n'6∧c'7=c'7)∧z8=z8∧z21=y22.1∧((0:Nat)=0∧n=n∧c=c)∧((0:Nat)=0∧n=n∧d=d)∧m=m∧((0:Nat)=0∧e=e∧f=f)∧((0:Nat)=0∧e=e∧g=g)∧k=k∧(L=L∧c=c∧false=false)∧(M=M∧d=d∧false=false)∧(S=S∧f=f∧false=false)∧(T=T∧g=g∧false=false)∧(U.nilL=U.nilL∧(0:Nat)=0∧false=false)∧(U.nilL=U.nilL∧(0:Nat)=0∧false=false)∧(L'1=L'1∧c'3=c'3∧false=false)∧(L'5=L'5∧c'7=c'7∧false=false)∧(x10.2.1.1=y22.2.1.1∧x10.2.1.2.2=y22.2.1.2.2∧false=false)∧(x10.2.2.1=y22.2.2.1∧x10.2.2.2.2=y22.2.2.2.2∧false=false)∧U.vldpI P F y22.1 y22.2.1.1 y22.2.1.2.1 y22.2.1.2.2 y22.2.2.1 y22.2.2.2.1 y22.2.2.2.2∧Int.toNat (↑n'6:Int) - Int.toNat y22.1<Int.toNat (↑n'6:Int) - Int.toNat x10.1)∧(¬U.Upp y20 z16 z17→((0:Nat) + x10.2.1.2.1≤List.length x10.2.1.1∧(0:Nat) + x10.2.1.2.2≤x10.2.1.2.2)∧True∧x10.2.1.2.1≤16777216∧(1:Nat)≤16777216∧∀ (L'23:List (List CV)) (n'24 c'25:Nat),L'23=List.take x10.2.1.2.1 (List.drop ((0:Nat)) x10.2.1.1) ++ [CV.i z12] :: U.nilL→n'24=x10.2.1.2.1 + (1:Nat)→n'24≤c'25→(0≤x10.1∧x10.1<(↑n'2:Int))∧∀ (j26:Nat),(↑j26:Int)=(↑((0:Nat)):Int) + x10.1→j26<List.length L'1∧∀ (z27:Int),z27=U.fi L'1 j26 ((0:Nat))→∀ (z28:Int),z28=U.fi L'1 j26 ((0:Nat) + (1:Nat))→∀ (z29:Int),z29=U.fi L'1 j26 ((0:Nat) + (1:Nat) + (1:Nat))→∀ (z30:Int),z30=U.fi L'1 j26 ((0:Nat) + (1:Nat) + (1:Nat) + (1:Nat))→∀ (z31:Int),z31=U.fi L'1 j26 ((0:Nat) + (1:Nat) + (1:Nat) + (1:Nat) + (1:Nat))→((0:Nat) + x10.2.2.2.1≤List.length x10.2.2.1∧(0:Nat) + x10.2.2.2.2≤x10.2.2.2.2)∧True∧x10.2.2.2.1≤16777216∧(1:Nat)≤16777216∧∀ (L'32:List (List CV)) (n'33 c'34:Nat),L'32=List.take x10.2.2.2.1 (List.drop ((0:Nat)) x10.2.2.1) ++ [CV.i z27,CV.i z28,CV.i z29,CV.i z30,CV.i z31] :: U.nilL→n'33=x10.2.2.2.1 + (1:Nat)→n'33≤c'34→∀ (z35:Int),z35=IntKind.wrap .i64 (x10.1 + (1:Int))→∃ (y36:Int × XP × XP),((0:Nat)=0∧n'24=y36.2.1.2.1∧c'25=y36.2.1.2.2)∧((0:Nat)=0∧n'33=y36.2.2.2.1∧c'34=y36.2.2.2.2)∧((0:Nat)=0∧n'2=n'2∧c'3=c'3)∧((0:Nat)=0∧n'6=n'6∧c'7=c'7)∧z8=z8∧z35=y36.1∧((0:Nat)=0∧n=n∧c=c)∧((0:Nat)=0∧n=n∧d=d)∧m=m∧((0:Nat)=0∧e=e∧f=f)∧((0:Nat)=0∧e=e∧g=g)∧k=k∧(L=L∧c=c∧false=false)∧(M=M∧d=d∧false=false)∧(S=S∧f=f∧false=false)∧(T=T∧g=g∧false=false)∧(U.nilL=U.nilL∧(0:Nat)=0∧false=false)∧(U.nilL=U.nilL∧(0:Nat)=0∧false=false)∧(L'1=L'1∧c'3=c'3∧false=false)∧(L'5=L'5∧c'7=c'7∧false=false)∧(L'23=y36.2.1.1∧c'25=y36.2.1.2.2∧false=false)∧(L'32=y36.2.2.1∧c'34=y36.2.2.2.2∧false=false)∧U.vldpI P F y36.1 y36.2.1.1 y36.2.1.2.1 y36.2.1.2.2 y36.2.2.1 y36.2.2.2.1 y36.2.2.2.2∧Int.toNat (↑n'6:Int) - Int.toNat y36.1<Int.toNat (↑n'6:Int) - Int.toNat x10.1))∧(¬U.Upp y19 z14 z15→((0:Nat) + x10.2.1.2.1≤List.length x10.2.1.1∧(0:Nat) + x10.2.1.2.2≤x10.2.1.2.2)∧True∧x10.2.1.2.1≤16777216∧(1:Nat)≤16777216∧∀ (L'37:List (List CV)) (n'38 c'39:Nat),L'37=List.take x10.2.1.2.1 (List.drop ((0:Nat)) x10.2.1.1) ++ [CV.i z12] :: U.nilL→n'38=x10.2.1.2.1 + (1:Nat)→n'38≤c'39→(0≤x10.1∧x10.1<(↑n'2:Int))∧∀ (j40:Nat),(↑j40:Int)=(↑((0:Nat)):Int) + x10.1→j40<List.length L'1∧∀ (z41:Int),z41=U.fi L'1 j40 ((0:Nat))→∀ (z42:Int),z42=U.fi L'1 j40 ((0:Nat) + (1:Nat))→∀ (z43:Int),z43=U.fi L'1 j40 ((0:Nat) + (1:Nat) + (1:Nat))→∀ (z44:Int),z44=U.fi L'1 j40 ((0:Nat) + (1:Nat) + (1:Nat) + (1:Nat))→∀ (z45:Int),z45=U.fi L'1 j40 ((0:Nat) + (1:Nat) + (1:Nat) + (1:Nat) + (1:Nat))→((0:Nat) + x10.2.2.2.1≤List.length x10.2.2.1∧(0:Nat) + x10.2.2.2.2≤x10.2.2.2.2)∧True∧x10.2.2.2.1≤16777216∧(1:Nat)≤16777216∧∀ (L'46:List (List CV)) (n'47 c'48:Nat),L'46=List.take x10.2.2.2.1 (List.drop ((0:Nat)) x10.2.2.1) ++ [CV.i z41,CV.i z42,CV.i z43,CV.i z44,CV.i z45] :: U.nilL→n'47=x10.2.2.2.1 + (1:Nat)→n'47≤c'48→∀ (z49:Int),z49=IntKind.wrap .i64 (x10.1 + (1:Int))→∃ (y50:Int × XP × XP),((0:Nat)=0∧n'38=y50.2.1.2.1∧c'39=y50.2.1.2.2)∧((0:Nat)=0∧n'47=y50.2.2.2.1∧c'48=y50.2.2.2.2)∧((0:Nat)=0∧n'2=n'2∧c'3=c'3)∧((0:Nat)=0∧n'6=n'6∧c'7=c'7)∧z8=z8∧z49=y50.1∧((0:Nat)=0∧n=n∧c=c)∧((0:Nat)=0∧n=n∧d=d)∧m=m∧((0:Nat)=0∧e=e∧f=f)∧((0:Nat)=0∧e=e∧g=g)∧k=k∧(L=L∧c=c∧false=false)∧(M=M∧d=d∧false=false)∧(S=S∧f=f∧false=false)∧(T=T∧g=g∧false=false)∧(U.nilL=U.nilL∧(0:Nat)=0∧false=false)∧(U.nilL=U.nilL∧(0:Nat)=0∧false=false)∧(L'1=L'1∧c'3=c'3∧false=false)∧(L'5=L'5∧c'7=c'7∧false=false)∧(L'37=y50.2.1.1∧c'39=y50.2.1.2.2∧false=false)∧(L'46=y50.2.2.1∧c'48=y50.2.2.2.2∧false=false)∧U.vldpI P F y50.1 y50.2.1.1 y50.2.1.2.1 y50.2.1.2.2 y50.2.2.1 y50.2.2.2.1 y50.2.2.2.2∧Int.toNat (↑n'6:Int) - Int.toNat y50.1<Int.toNat (↑n'6:Int) - Int.toNat x10.1))∧(¬x10.1<z8→∃ (y51:VLP),(x10.2.1.2.2=x10.2.1.2.2∧(f=f∧g=g∧e=e)∧U.vlshI e f S g T y51∧e≤100000∧x10.2.1.2.1≤List.length x10.2.1.1∧x10.2.1.2.1≤1000000∧U.vlSrtR x10.2.1.1 x10.2.1.2.1)∧∀ (n'52:Nat) (L'53 M'54:Rws) (P'55:VLP),n'52=U.vllen P'55→U.vlSwp y51 x10.2.1.1 x10.2.1.2.1 P'55→U.vlshI n'52 f L'53 g M'54 P'55→∃ (y56:VLP),(x10.2.2.2.2=x10.2.2.2.2∧x10.2.2.1=U.vlvs y56∧x10.2.2.2.1=U.vllen y56∧x10.2.2.2.1≤100000)∧∀ (O57:Rws) (q58 c'59:Nat),O57=U.lks y56→q58=x10.2.2.2.1→q58≤c'59→K (Sum.inl (Sum.inl (rslC ⟨4,4,0,q58,c'59⟩))) ⟨[vwB,vuB (rslC ⟨0,1,0,n,c⟩) (rslC ⟨1,1,0,n,d⟩) m,vlB (rslC ⟨2,1,0,n'52,f⟩) (rslC ⟨3,5,0,n'52,g⟩) k],[],0,[some (vukB L c),some (vukB M d),some (vukB L'53 f),some (vlvB M'54 g),some (liB O57 c'59)],0⟩)) := by kernel_rfl
theorem loseE_vc (K:AV→St→Prop) (P:VLP) (F:Int × VLv→Bool) (n c:Nat) (L:Rws) (d:Nat) (M:Rws) (m:Int) (e f:Nat) (S:Rws) (g:Nat) (T:Rws) (k:Int) (a b a' b':Int):(runQ (invDp P F) tV4 41 [ptr 0 0,cell (cloC 42 [(3,0),(4,0)])] (vwSx n c L d M m e f S g T k [bxP a b,bxP a' b']) K)=(∃ (y0:VLP),((f=f∧g=g∧e=e)∧U.vlshI e f S g T y0)∧∀ (L'1:Rws) (n'2 c'3:Nat),n'2=e→n'2≤c'3→L'1=U.vlvs y0→∃ (y4:VLP),((f=f∧g=g∧e=e)∧U.vlshI e f S g T y4)∧∀ (L'5:Rws) (n'6 c'7:Nat),n'6=e→n'6≤c'7→L'5=U.vlks y4→∀ (z8:Int),z8=(↑n'6:Int)→(∃ (y9:Int × XP × XP),((0:Nat)=0∧0=y9.2.1.2.1∧0=y9.2.1.2.2)∧((0:Nat)=0∧0=y9.2.2.2.1∧0=y9.2.2.2.2)∧((0:Nat)=0∧n'2=n'2∧c'3=c'3)∧((0:Nat)=0∧n'6=n'6∧c'7=c'7)∧z8=z8∧0=y9.1∧((0:Nat)=0∧n=n∧c=c)∧((0:Nat)=0∧n=n∧d=d)∧m=m∧((0:Nat)=0∧e=e∧f=f)∧((0:Nat)=0∧e=e∧g=g)∧k=k∧a=a∧b=b∧a'=a'∧b'=b'∧(L=L∧c=c∧false=false)∧(M=M∧d=d∧false=false)∧(S=S∧f=f∧false=false)∧(T=T∧g=g∧false=false)∧(U.nilL=U.nilL∧(0:Nat)=0∧false=false)∧(U.nilL=U.nilL∧(0:Nat)=0∧false=false)∧(L'1=L'1∧c'3=c'3∧false=false)∧(L'5=L'5∧c'7=c'7∧false=false)∧(U.nilL=y9.2.1.1∧0=y9.2.1.2.2∧false=false)∧(U.nilL=y9.2.2.1∧0=y9.2.2.2.2∧false=false)∧U.vldpI P F y9.1 y9.2.1.1 y9.2.1.2.1 y9.2.1.2.2 y9.2.2.1 y9.2.2.2.1 y9.2.2.2.2)∧∀ (x10:Int × XP × XP),U.vldpI P F x10.1 x10.2.1.1 x10.2.1.2.1 x10.2.1.2.2 x10.2.2.1 x10.2.2.2.1 x10.2.2.2.2→(x10.1<z8→(0≤x10.1∧x10.1<(↑n'6:Int))∧∀ (j11:Nat),(↑j11:Int)=(↑((0:Nat)):Int) + x10.1→j11<List.length L'5∧∀ (z12:Int),z12=U.fi L'5 j11 ((0:Nat))→(0≤x10.1∧x10.1<(↑n'2:Int))∧∀ (j13:Nat),(↑j13:Int)=(↑((0:Nat)):Int) + x10.1→j13<List.length L'1∧∀ (z14:Int),z14=U.fi L'1 j13 ((0:Nat))→∀ (z15:Int),z15=U.fi L'1 j13 ((0:Nat) + (1:Nat))→∀ (z16:Int),z16=U.fi L'1 j13 ((0:Nat) + (1:Nat) + (1:Nat))→∀ (z17:Int),z17=U.fi L'1 j13 ((0:Nat) + (1:Nat) + (1:Nat) + (1:Nat))→∀ (z18:Int),z18=U.fi L'1 j13 ((0:Nat) + (1:Nat) + (1:Nat) + (1:Nat) + (1:Nat))→(U.End z14 z15 z16 z17 a b→((0:Nat) + x10.2.1.2.1≤List.length x10.2.1.1∧(0:Nat) + x10.2.1.2.2≤x10.2.1.2.2)∧True∧x10.2.1.2.1≤16777216∧(1:Nat)≤16777216∧∀ (L'19:List (List CV)) (n'20 c'21:Nat),L'19=List.take x10.2.1.2.1 (List.drop ((0:Nat)) x10.2.1.1) ++ [CV.i z12] :: U.nilL→n'20=x10.2.1.2.1 + (1:Nat)→n'20≤c'21→(0≤x10.1∧x10.1<(↑n'2:Int))∧∀ (j22:Nat),(↑j22:Int)=(↑((0:Nat)):Int) + x10.1→j22<List.length L'1∧∀ (z23:Int),z23=U.fi L'1 j22 ((0:Nat))→∀ (z24:Int),z24=U.fi L'1 j22 ((0:Nat) + (1:Nat))→∀ (z25:Int),z25=U.fi L'1 j22 ((0:Nat) + (1:Nat) + (1:Nat))→∀ (z26:Int),z26=U.fi L'1 j22 ((0:Nat) + (1:Nat) + (1:Nat) + (1:Nat))→∀ (z27:Int),z27=U.fi L'1 j22 ((0:Nat) + (1:Nat) + (1:Nat) + (1:Nat) + (1:Nat))→((0:Nat) + x10.2.2.2.1≤List.length x10.2.2.1∧(0:Nat) + x10.2.2.2.2≤x10.2.2.2.2)∧True∧x10.2.2.2.1≤16777216∧(1:Nat)≤16777216∧∀ (L'28:List (List CV)) (n'29 c'30:Nat),L'28=List.take x10.2.2.2.1 (List.drop ((0:Nat)) x10.2.2.1) ++ [CV.i z23,CV.i z24,CV.i z25,CV.i z26,CV.i z27] :: U.nilL→n'29=x10.2.2.2.1 + (1:Nat)→n'29≤c'30→∀ (z31:Int),z31=IntKind.wrap .i64 (x10.1 + (1:Int))→∃ (y32:Int × XP × XP),((0:Nat)=0∧n'20=y32.2.1.2.1∧c'21=y32.2.1.2.2)∧((0:Nat)=0∧n'29=y32.2.2.2.1∧c'30=y32.2.2.2.2)∧((0:Nat)=0∧n'2=n'2∧c'3=c'3)∧((0:Nat)=0∧n'6=n'6∧c'7=c'7)∧z8=z8∧z31=y32.1∧((0:Nat)=0∧n=n∧c=c)∧((0:Nat)=0∧n=n∧d=d)∧m=m∧((0:Nat)=0∧e=e∧f=f)∧((0:Nat)=0∧e=e∧g=g)∧k=k∧a=a∧b=b∧a'=a'∧b'=b'∧(L=L∧c=c∧false=false)∧(M=M∧d=d∧false=false)∧(S=S∧f=f∧false=false)∧(T=T∧g=g∧false=false)∧(U.nilL=U.nilL∧(0:Nat)=0∧false=false)∧(U.nilL=U.nilL∧(0:Nat)=0∧false=false)∧(L'1=L'1∧c'3=c'3∧false=false)∧(L'5=L'5∧c'7=c'7∧false=false)∧(L'19=y32.2.1.1∧c'21=y32.2.1.2.2∧false=false)∧(L'28=y32.2.2.1∧c'30=y32.2.2.2.2∧false=false)∧U.vldpI P F y32.1 y32.2.1.1 y32.2.1.2.1 y32.2.1.2.2 y32.2.2.1 y32.2.2.2.1 y32.2.2.2.2∧Int.toNat (↑n'6:Int) - Int.toNat y32.1<Int.toNat (↑n'6:Int) - Int.toNat x10.1)∧(¬U.End z14 z15 z16 z17 a b→(U.End z14 z15 z16 z17 a' b'→((0:Nat) + x10.2.1.2.1≤List.length x10.2.1.1∧(0:Nat) + x10.2.1.2.2≤x10.2.1.2.2)∧True∧x10.2.1.2.1≤16777216∧(1:Nat)≤16777216∧∀ (L'33:List (List CV)) (n'34 c'35:Nat),L'33=List.take x10.2.1.2.1 (List.drop ((0:Nat)) x10.2.1.1) ++ [CV.i z12] :: U.nilL→n'34=x10.2.1.2.1 + (1:Nat)→n'34≤c'35→(0≤x10.1∧x10.1<(↑n'2:Int))∧∀ (j36:Nat),(↑j36:Int)=(↑((0:Nat)):Int) + x10.1→j36<List.length L'1∧∀ (z37:Int),z37=U.fi L'1 j36 ((0:Nat))→∀ (z38:Int),z38=U.fi L'1 j36 ((0:Nat) + (1:Nat))→∀ (z39:Int),z39=U.fi L'1 j36 ((0:Nat) + (1:Nat) + (1:Nat))→∀ (z40:Int),z40=U.fi L'1 j36 ((0:Nat) + (1:Nat) + (1:Nat) + (1:Nat))→∀ (z41:Int),z41=U.fi L'1 j36 ((0:Nat) + (1:Nat) + (1:Nat) + (1:Nat) + (1:Nat))→((0:Nat) + x10.2.2.2.1≤List.length x10.2.2.1∧(0:Nat) + x10.2.2.2.2≤x10.2.2.2.2)∧True∧x10.2.2.2.1≤16777216∧(1:Nat)≤16777216∧∀ (L'42:List (List CV)) (n'43 c'44:Nat),L'42=List.take x10.2.2.2.1 (List.drop ((0:Nat)) x10.2.2.1) ++ [CV.i z37,CV.i z38,CV.i z39,CV.i z40,CV.i z41] :: U.nilL→n'43=x10.2.2.2.1 + (1:Nat)→n'43≤c'44→∀ (z45:Int),z45=IntKind.wrap .i64 (x10.1 + (1:Int))→∃ (y46:Int × XP × XP),((0:Nat)=0∧n'34=y46.2.1.2.1∧c'35=y46.2.1.2.2)∧((0:Nat)=0∧n'43=y46.2.2.2.1∧c'44=y46.2.2.2.2)∧((0:Nat)=0∧n'2=n'2∧c'3=c'3)∧((0:Nat)=0∧n'6=n'6∧c'7=c'7)∧z8=z8∧z45=y46.1∧((0:Nat)=0∧n=n∧c=c)∧((0:Nat)=0∧n=n∧d=d)∧m=m∧((0:Nat)=0∧e=e∧f=f)∧((0:Nat)=0∧e=e∧g=g)∧k=k∧a=a∧b=b∧a'=a'∧b'=b'∧(L=L∧c=c∧false=false)∧(M=M∧d=d∧false=false)∧(S=S∧f=f∧false=false)∧(T=T∧g=g∧false=false)∧(U.nilL=U.nilL∧(0:Nat)=0∧false=false)∧(U.nilL=U.nilL∧(0:Nat)=0∧false=false)∧(L'1=L'1∧c'3=c'3∧false=false)∧(L'5=L'5∧c'7=c'7∧false=false)∧(L'33=y46.2.1.1∧c'35=y46.2.1.2.2∧false=false)∧(L'42=y46.2.2.1∧c'44=y46.2.2.2.2∧false=false)∧U.vldpI P F y46.1 y46.2.1.1 y46.2.1.2.1 y46.2.1.2.2 y46.2.2.1 y46.2.2.2.1 y46.2.2.2.2∧Int.toNat (↑n'6:Int) - Int.toNat y46.1<Int.toNat (↑n'6:Int) - Int.toNat x10.1)∧(¬U.End z14 z15 z16 z17 a' b'→∀ (z47:Int),z47=IntKind.wrap .i64 (x10.1 + (1:Int))→∃ (y48:Int × XP × XP),((0:Nat)=0∧x10.2.1.2.1=y48.2.1.2.1∧x10.2.1.2.2=y48.2.1.2.2)∧((0:Nat)=0∧x10.2.2.2.1=y48.2.2.2.1∧x10.2.2.2.2=y48.2.2.2.2)∧((0:Nat)=0∧n'2=n'2∧c'3=c'3)∧((0:Nat)=0∧n'6=n'6∧c'7=c'7)∧z8=z8∧z47=y48.1∧((0:Nat)=0∧n=n∧c=c)∧((0:Nat)=0∧n=n∧d=d)∧m=m∧((0:Nat)=0∧e=e∧f=f)∧((0:Nat)=0∧e=e∧g=g)∧k=k∧a=a∧b=b∧a'=a'∧b'=b'∧(L=L∧c=c∧false=false)∧(M=M∧d=d∧false=false)∧(S=S∧f=f∧false=false)∧(T=T∧g=g∧false=false)∧(U.nilL=U.nilL∧(0:Nat)=0∧false=false)∧(U.nilL=U.nilL∧(0:Nat)=0∧false=false)∧(L'1=L'1∧c'3=c'3∧false=false)∧(L'5=L'5∧c'7=c'7∧false=false)∧(x10.2.1.1=y48.2.1.1∧x10.2.1.2.2=y48.2.1.2.2∧false=false)∧(x10.2.2.1=y48.2.2.1∧x10.2.2.2.2=y48.2.2.2.2∧false=false)∧U.vldpI P F y48.1 y48.2.1.1 y48.2.1.2.1 y48.2.1.2.2 y48.2.2.1 y48.2.2.2.1 y48.2.2.2.2∧Int.toNat (↑n'6:Int) - Int.toNat y48.1<Int.toNat (↑n'6:Int) - Int.toNat x10.1)))∧(¬x10.1<z8→∃ (y49:VLP),(x10.2.1.2.2=x10.2.1.2.2∧(f=f∧g=g∧e=e)∧U.vlshI e f S g T y49∧e≤100000∧x10.2.1.2.1≤List.length x10.2.1.1∧x10.2.1.2.1≤1000000∧U.vlSrtR x10.2.1.1 x10.2.1.2.1)∧∀ (n'50:Nat) (L'51 M'52:Rws) (P'53:VLP),n'50=U.vllen P'53→U.vlSwp y49 x10.2.1.1 x10.2.1.2.1 P'53→U.vlshI n'50 f L'51 g M'52 P'53→∃ (y54:VLP),(x10.2.2.2.2=x10.2.2.2.2∧x10.2.2.1=U.vlvs y54∧x10.2.2.2.1=U.vllen y54∧x10.2.2.2.1≤100000)∧∀ (O55:Rws) (q56 c'57:Nat),O55=U.lks y54→q56=x10.2.2.2.1→q56≤c'57→K (Sum.inl (Sum.inl (rslC ⟨4,4,0,q56,c'57⟩))) ⟨[vwB,vuB (rslC ⟨0,1,0,n,c⟩) (rslC ⟨1,1,0,n,d⟩) m,vlB (rslC ⟨2,1,0,n'50,f⟩) (rslC ⟨3,5,0,n'50,g⟩) k,some ⟨nat_lit 32,[xintC .i64 a,xintC .i64 b],none,2,false⟩,some ⟨nat_lit 32,[xintC .i64 a',xintC .i64 b'],none,2,false⟩],[],0,[some (vukB L c),some (vukB M d),some (vukB L'51 f),some (vlvB M'52 g),some (liB O55 c'57)],0⟩)) := by kernel_rfl
theorem loseA_vc (K:AV→St→Prop) (P:VLP) (F:Int × VLv→Bool) (n c:Nat) (L:Rws) (d:Nat) (M:Rws) (m:Int) (e f:Nat) (S:Rws) (g:Nat) (T:Rws) (k:Int) (now most:Int):(runQ (invDp P F) tV4 41 [ptr 0 0,cell (cloC 46 [(3,0),(4,0)])] (vwSx n c L d M m e f S g T k [bxI now,bxI most]) K)=(∃ (y0:VLP),((f=f∧g=g∧e=e)∧U.vlshI e f S g T y0)∧∀ (L'1:Rws) (n'2 c'3:Nat),n'2=e→n'2≤c'3→L'1=U.vlvs y0→∃ (y4:VLP),((f=f∧g=g∧e=e)∧U.vlshI e f S g T y4)∧∀ (L'5:Rws) (n'6 c'7:Nat),n'6=e→n'6≤c'7→L'5=U.vlks y4→∀ (z8:Int),z8=(↑n'6:Int)→(∃ (y9:Int × XP × XP),((0:Nat)=0∧0=y9.2.1.2.1∧0=y9.2.1.2.2)∧((0:Nat)=0∧0=y9.2.2.2.1∧0=y9.2.2.2.2)∧((0:Nat)=0∧n'2=n'2∧c'3=c'3)∧((0:Nat)=0∧n'6=n'6∧c'7=c'7)∧z8=z8∧0=y9.1∧((0:Nat)=0∧n=n∧c=c)∧((0:Nat)=0∧n=n∧d=d)∧m=m∧((0:Nat)=0∧e=e∧f=f)∧((0:Nat)=0∧e=e∧g=g)∧k=k∧now=now∧most=most∧(L=L∧c=c∧false=false)∧(M=M∧d=d∧false=false)∧(S=S∧f=f∧false=false)∧(T=T∧g=g∧false=false)∧(U.nilL=U.nilL∧(0:Nat)=0∧false=false)∧(U.nilL=U.nilL∧(0:Nat)=0∧false=false)∧(L'1=L'1∧c'3=c'3∧false=false)∧(L'5=L'5∧c'7=c'7∧false=false)∧(U.nilL=y9.2.1.1∧0=y9.2.1.2.2∧false=false)∧(U.nilL=y9.2.2.1∧0=y9.2.2.2.2∧false=false)∧U.vldpI P F y9.1 y9.2.1.1 y9.2.1.2.1 y9.2.1.2.2 y9.2.2.1 y9.2.2.2.1 y9.2.2.2.2)∧∀ (x10:Int × XP × XP),U.vldpI P F x10.1 x10.2.1.1 x10.2.1.2.1 x10.2.1.2.2 x10.2.2.1 x10.2.2.2.1 x10.2.2.2.2→(x10.1<z8→(0≤x10.1∧x10.1<(↑n'6:Int))∧∀ (j11:Nat),(↑j11:Int)=(↑((0:Nat)):Int) + x10.1→j11<List.length L'5∧∀ (z12:Int),z12=U.fi L'5 j11 ((0:Nat))→(0≤x10.1∧x10.1<(↑n'2:Int))∧∀ (j13:Nat),(↑j13:Int)=(↑((0:Nat)):Int) + x10.1→j13<List.length L'1∧∀ (z14:Int),z14=U.fi L'1 j13 ((0:Nat))→∀ (z15:Int),z15=U.fi L'1 j13 ((0:Nat) + (1:Nat))→∀ (z16:Int),z16=U.fi L'1 j13 ((0:Nat) + (1:Nat) + (1:Nat))→∀ (z17:Int),z17=U.fi L'1 j13 ((0:Nat) + (1:Nat) + (1:Nat) + (1:Nat))→∀ (z18:Int),z18=U.fi L'1 j13 ((0:Nat) + (1:Nat) + (1:Nat) + (1:Nat) + (1:Nat))→∀ (z19:Int),z19=IntKind.wrap .i64 (now - z18)→(most<z19→((0:Nat) + x10.2.1.2.1≤List.length x10.2.1.1∧(0:Nat) + x10.2.1.2.2≤x10.2.1.2.2)∧True∧x10.2.1.2.1≤16777216∧(1:Nat)≤16777216∧∀ (L'20:List (List CV)) (n'21 c'22:Nat),L'20=List.take x10.2.1.2.1 (List.drop ((0:Nat)) x10.2.1.1) ++ [CV.i z12] :: U.nilL→n'21=x10.2.1.2.1 + (1:Nat)→n'21≤c'22→(0≤x10.1∧x10.1<(↑n'2:Int))∧∀ (j23:Nat),(↑j23:Int)=(↑((0:Nat)):Int) + x10.1→j23<List.length L'1∧∀ (z24:Int),z24=U.fi L'1 j23 ((0:Nat))→∀ (z25:Int),z25=U.fi L'1 j23 ((0:Nat) + (1:Nat))→∀ (z26:Int),z26=U.fi L'1 j23 ((0:Nat) + (1:Nat) + (1:Nat))→∀ (z27:Int),z27=U.fi L'1 j23 ((0:Nat) + (1:Nat) + (1:Nat) + (1:Nat))→∀ (z28:Int),z28=U.fi L'1 j23 ((0:Nat) + (1:Nat) + (1:Nat) + (1:Nat) + (1:Nat))→((0:Nat) + x10.2.2.2.1≤List.length x10.2.2.1∧(0:Nat) + x10.2.2.2.2≤x10.2.2.2.2)∧True∧x10.2.2.2.1≤16777216∧(1:Nat)≤16777216∧∀ (L'29:List (List CV)) (n'30 c'31:Nat),L'29=List.take x10.2.2.2.1 (List.drop ((0:Nat)) x10.2.2.1) ++ [CV.i z24,CV.i z25,CV.i z26,CV.i z27,CV.i z28] :: U.nilL→n'30=x10.2.2.2.1 + (1:Nat)→n'30≤c'31→∀ (z32:Int),z32=IntKind.wrap .i64 (x10.1 + (1:Int))→∃ (y33:Int × XP × XP),((0:Nat)=0∧n'21=y33.2.1.2.1∧c'22=y33.2.1.2.2)∧((0:Nat)=0∧n'30=y33.2.2.2.1∧c'31=y33.2.2.2.2)∧((0:Nat)=0∧n'2=n'2∧c'3=c'3)∧((0:Nat)=0∧n'6=n'6∧c'7=c'7)∧z8=z8∧z32=y33.1∧((0:Nat)=0∧n=n∧c=c)∧((0:Nat)=0∧n=n∧d=d)∧m=m∧((0:Nat)=0∧e=e∧f=f)∧((0:Nat)=0∧e=e∧g=g)∧k=k∧now=now∧most=most∧(L=L∧c=c∧false=false)∧(M=M∧d=d∧false=false)∧(S=S∧f=f∧false=false)∧(T=T∧g=g∧false=false)∧(U.nilL=U.nilL∧(0:Nat)=0∧false=false)∧(U.nilL=U.nilL∧(0:Nat)=0∧false=false)∧(L'1=L'1∧c'3=c'3∧false=false)∧(L'5=L'5∧c'7=c'7∧false=false)∧(L'20=y33.2.1.1∧c'22=y33.2.1.2.2∧false=false)∧(L'29=y33.2.2.1∧c'31=y33.2.2.2.2∧false=false)∧U.vldpI P F y33.1 y33.2.1.1 y33.2.1.2.1 y33.2.1.2.2 y33.2.2.1 y33.2.2.2.1 y33.2.2.2.2∧Int.toNat (↑n'6:Int) - Int.toNat y33.1<Int.toNat (↑n'6:Int) - Int.toNat x10.1)∧(¬most<z19→∀ (z34:Int),z34=IntKind.wrap .i64 (x10.1 + (1:Int))→∃ (y35:Int × XP × XP),((0:Nat)=0∧x10.2.1.2.1=y35.2.1.2.1∧x10.2.1.2.2=y35.2.1.2.2)∧((0:Nat)=0∧x10.2.2.2.1=y35.2.2.2.1∧x10.2.2.2.2=y35.2.2.2.2)∧((0:Nat)=0∧n'2=n'2∧c'3=c'3)∧((0:Nat)=0∧n'6=n'6∧c'7=c'7)∧z8=z8∧z34=y35.1∧((0:Nat)=0∧n=n∧c=c)∧((0:Nat)=0∧n=n∧d=d)∧m=m∧((0:Nat)=0∧e=e∧f=f)∧((0:Nat)=0∧e=e∧g=g)∧k=k∧now=now∧most=most∧(L=L∧c=c∧false=false)∧(M=M∧d=d∧false=false)∧(S=S∧f=f∧false=false)∧(T=T∧g=g∧false=false)∧(U.nilL=U.nilL∧(0:Nat)=0∧false=false)∧(U.nilL=U.nilL∧(0:Nat)=0∧false=false)∧(L'1=L'1∧c'3=c'3∧false=false)∧(L'5=L'5∧c'7=c'7∧false=false)∧(x10.2.1.1=y35.2.1.1∧x10.2.1.2.2=y35.2.1.2.2∧false=false)∧(x10.2.2.1=y35.2.2.1∧x10.2.2.2.2=y35.2.2.2.2∧false=false)∧U.vldpI P F y35.1 y35.2.1.1 y35.2.1.2.1 y35.2.1.2.2 y35.2.2.1 y35.2.2.2.1 y35.2.2.2.2∧Int.toNat (↑n'6:Int) - Int.toNat y35.1<Int.toNat (↑n'6:Int) - Int.toNat x10.1))∧(¬x10.1<z8→∃ (y36:VLP),(x10.2.1.2.2=x10.2.1.2.2∧(f=f∧g=g∧e=e)∧U.vlshI e f S g T y36∧e≤100000∧x10.2.1.2.1≤List.length x10.2.1.1∧x10.2.1.2.1≤1000000∧U.vlSrtR x10.2.1.1 x10.2.1.2.1)∧∀ (n'37:Nat) (L'38 M'39:Rws) (P'40:VLP),n'37=U.vllen P'40→U.vlSwp y36 x10.2.1.1 x10.2.1.2.1 P'40→U.vlshI n'37 f L'38 g M'39 P'40→∃ (y41:VLP),(x10.2.2.2.2=x10.2.2.2.2∧x10.2.2.1=U.vlvs y41∧x10.2.2.2.1=U.vllen y41∧x10.2.2.2.1≤100000)∧∀ (O42:Rws) (q43 c'44:Nat),O42=U.lks y41→q43=x10.2.2.2.1→q43≤c'44→K (Sum.inl (Sum.inl (rslC ⟨4,4,0,q43,c'44⟩))) ⟨[vwB,vuB (rslC ⟨0,1,0,n,c⟩) (rslC ⟨1,1,0,n,d⟩) m,vlB (rslC ⟨2,1,0,n'37,f⟩) (rslC ⟨3,5,0,n'37,g⟩) k,some ⟨nat_lit 2,[xintC .i64 now],none,1,false⟩,some ⟨nat_lit 2,[xintC .i64 most],none,1,false⟩],[],0,[some (vukB L c),some (vukB M d),some (vukB L'38 f),some (vlvB M'39 g),some (liB O42 c'44)],0⟩)) := by kernel_rfl
end Go.Proofs.Ytfhgnngdbbgogaa
end
section
set_option linter.unusedVariables false
set_option linter.unusedSimpArgs false
set_option maxRecDepth 10000
namespace Go.Proofs.Ytfhgnngdbbgogaa
open Go Reck Ost
noncomputable def U.dec (p : Prop) : Bool := @decide p (Classical.propDecidable p)
theorem dec_t {p : Prop} (h : p) : U.dec p = true := by unfold U.dec; simp [h]
theorem dec_f {p : Prop} (h : ¬ p) : U.dec p = false := by unfold U.dec; simp [h]
noncomputable def U.fBrk (Pu : VUP) (p : Int × VLv) : Bool := U.dec (¬ (U.Upp Pu p.2.v0 p.2.v1 ∧ U.Upp Pu p.2.v2 p.2.v3))
noncomputable def U.fEnd (a b a' b' : Int) (p : Int × VLv) : Bool := U.dec (U.End p.2.v0 p.2.v1 p.2.v2 p.2.v3 a b ∨ U.End p.2.v0 p.2.v1 p.2.v2 p.2.v3 a' b')
noncomputable def U.fAge (now most : Int) (p : Int × VLv) : Bool := U.dec (most < IntKind.wrap .i64 (now - p.2.v4))
def U.gone (F : Int × VLv → Bool) (P : VLP) : VLP := P.filter F
def U.rest (F : Int × VLv → Bool) (P : VLP) : VLP := P.filter fun p => !F p
structure LK (K : AV → St → Prop) (n c : Nat) (L : Rws) (d : Nat) (M : Rws) (m : Int) (f g : Nat) (k : Int) (H : List (Option Blk)) (F : Int × VLv → Bool) (P : VLP) : Prop where
  out : ∀ (e' : Nat) (S' T' : Rws) (P' : VLP) (O : Rws) (q qc : Nat), e' = U.vllen P' → P' = U.rest F P → U.vlshI e' f S' g T' P' → O = U.lks (U.gone F P) → q = U.vllen (U.gone F P) → q ≤ qc →
    K (cell (rslC ⟨4, 4, 0, q, qc⟩)) ⟨vwB :: vuB (rslC ⟨0, 1, 0, n, c⟩) (rslC ⟨1, 1, 0, n, d⟩) m :: vlB (rslC ⟨2, 1, 0, e', f⟩) (rslC ⟨3, 5, 0, e', g⟩) k :: H, [], 0, [some (vukB L c), some (vuvB M d), some (vlkB S' f), some (vlvB T' g), some (liB O qc)], 0⟩
section
variable (K : AV → St → Prop) (P : VLP) (n c : Nat) (L : Rws) (d : Nat) (M : Rws) (m : Int) (e f : Nat) (S : Rws) (g : Nat) (T : Rws) (k : Int) (hl : U.vlshI e f S g T P) (he : e ≤ 100000)
include hl he
set_option maxHeartbeats 2000000 in
theorem loseA_run (now most : Int) (hK : LK K n c L d M m f g k [bxI now, bxI most] (U.fAge now most) P) :
    runQ (invDp P (U.fAge now most)) tV4 41 [ptr 0 0, cell (cloC 46 [(3, 0), (4, 0)])] (vwSx n c L d M m e f S g T k [bxI now, bxI most]) K := by
  have hpn := vlshI_n hl
  have hvl : (U.vlvs P).length = P.length := by simp [U.vlvs]
  have hkl : (U.vlks P).length = P.length := by simp [U.vlks]
  rw [loseA_vc]
  refine ⟨P, ⟨⟨rfl, rfl, rfl⟩, hl⟩, fun V n2 c3 e2 e3 e4 => ⟨P, ⟨⟨rfl, rfl, rfl⟩, hl⟩, fun KK n6 c7 e6 e7 e8 z8 h8 => ⟨?_, ?_⟩⟩⟩
  · refine ⟨(0, (([], (0, 0)), ([], (0, 0)))), ?_⟩
    repeat' (first | exact rfl | with_reducible apply And.intro)
    exact vldp_0 P _
  subst e4 e8
  rintro ⟨i, ⟨G, q, cg⟩, O, r, co⟩ hI
  obtain ⟨⟨i1, i2⟩, g1, o1, g2, g3, o2, o3, o4, o5⟩ := hI.out
  dsimp only at i1 i2 g1 o1 g2 g3 o2 o3 o4 o5 hI ⊢
  refine ⟨fun hi => ⟨⟨by omega, by omega⟩, fun j hj => ⟨by omega, fun z12 h12 => ⟨⟨by omega, by omega⟩, fun j13 hj13 => ⟨by omega, ?_⟩⟩⟩⟩, fun hi => ?_⟩
  · obtain rfl : j13 = j := by omega
    obtain ⟨p, hp⟩ : ∃ p, P[j13]? = some p := ⟨_, List.getElem?_eq_getElem (show j13 < P.length by omega)⟩
    obtain ⟨f0, f1, f2, f3, f4⟩ := vl_fi hp
    rw [(vlat hp).2.2] at h12
    subst h12
    rw [f0, f1, f2, f3, f4]
    rintro _ rfl _ rfl _ rfl _ rfl _ rfl z19 h19
    refine ⟨fun hlt => ?_, fun hge z20 h20 => ?_⟩
    · have hF : U.fAge now most p = true := dec_t (by rw [← h19]; exact hlt)
      refine ⟨⟨by omega, by omega⟩, trivial, by omega, by decide, fun L20 n21 c22 e20 e21 e22 => ⟨⟨by omega, by omega⟩, fun j23 hj23 => ⟨by omega, ?_⟩⟩⟩
      obtain rfl : j23 = j13 := by omega
      rw [f0, f1, f2, f3, f4]
      rintro _ rfl _ rfl _ rfl _ rfl _ rfl
      refine ⟨⟨by omega, by omega⟩, trivial, by omega, by decide, fun L29 n30 c31 e29 e30 e31 z32 h32 => ?_⟩
      have ez := iw h32 (by omega)
      refine ⟨(z32, ((L20, (n21, c22)), (L29, (n30, c31)))), ?_⟩
      repeat' (first | exact rfl | exact vldp_yes hI (by omega) hp hF ez e20 e21 e22 e29 e30 e31 | with_reducible apply And.intro)
      dsimp only; omega
    · have hF : U.fAge now most p = false := dec_f (by rw [← h19]; exact hge)
      have ez := iw h20 (by omega)
      refine ⟨(z20, ((G, (q, cg)), (O, (r, co)))), ?_⟩
      repeat' (first | exact rfl | exact vldp_no hI (by omega) hp hF ez | with_reducible apply And.intro)
      dsimp only; omega
  · obtain ⟨x1, x2, x3, x4, x5, x6⟩ := vldp_end hl.srt hI (by omega)
    exact ⟨P, ⟨rfl, ⟨rfl, rfl, rfl⟩, hl, he, by omega, by omega, x5⟩, fun n37 L38 M39 P40 y1 y2 y3 => ⟨U.gone (U.fAge now most) P, ⟨rfl, x2, x4, by omega⟩, fun O42 q43 c44 y4 y5 y6 => hK.out _ _ _ _ _ _ _ y1 (x6 _ y2) y3 y4 (y5.trans x4) y6⟩⟩
set_option maxHeartbeats 2000000 in
theorem loseE_run (a b a' b' : Int) (hK : LK K n c L d M m f g k [bxP a b, bxP a' b'] (U.fEnd a b a' b') P) :
    runQ (invDp P (U.fEnd a b a' b')) tV4 41 [ptr 0 0, cell (cloC 42 [(3, 0), (4, 0)])] (vwSx n c L d M m e f S g T k [bxP a b, bxP a' b']) K := by
  have hpn := vlshI_n hl
  have hvl : (U.vlvs P).length = P.length := by simp [U.vlvs]
  have hkl : (U.vlks P).length = P.length := by simp [U.vlks]
  rw [loseE_vc]
  refine ⟨P, ⟨⟨rfl, rfl, rfl⟩, hl⟩, fun V n2 c3 e2 e3 e4 => ⟨P, ⟨⟨rfl, rfl, rfl⟩, hl⟩, fun KK n6 c7 e6 e7 e8 z8 h8 => ⟨?_, ?_⟩⟩⟩
  · refine ⟨(0, (([], (0, 0)), ([], (0, 0)))), ?_⟩
    repeat' (first | exact rfl | with_reducible apply And.intro)
    exact vldp_0 P _
  subst e4 e8
  rintro ⟨i, ⟨G, q, cg⟩, O, r, co⟩ hI
  obtain ⟨⟨i1, i2⟩, g1, o1, g2, g3, o2, o3, o4, o5⟩ := hI.out
  dsimp only at i1 i2 g1 o1 g2 g3 o2 o3 o4 o5 hI ⊢
  refine ⟨fun hi => ⟨⟨by omega, by omega⟩, fun j hj => ⟨by omega, fun z12 h12 => ⟨⟨by omega, by omega⟩, fun j13 hj13 => ⟨by omega, ?_⟩⟩⟩⟩, fun hi => ?_⟩
  · obtain rfl : j13 = j := by omega
    obtain ⟨p, hp⟩ : ∃ p, P[j13]? = some p := ⟨_, List.getElem?_eq_getElem (show j13 < P.length by omega)⟩
    obtain ⟨f0, f1, f2, f3, f4⟩ := vl_fi hp
    rw [(vlat hp).2.2] at h12
    subst h12
    rw [f0, f1, f2, f3, f4]
    rintro _ rfl _ rfl _ rfl _ rfl _ rfl
    refine ⟨fun h1 => ?_, fun h1 => ⟨fun h2 => ?_, fun h2 z20 h20 => ?_⟩⟩
    rotate_left 2
    · have hF : U.fEnd a b a' b' p = false := dec_f (fun h => h.elim h1 h2)
      have ez := iw h20 (by omega)
      refine ⟨(z20, ((G, (q, cg)), (O, (r, co)))), ?_⟩
      repeat' (first | exact rfl | exact vldp_no hI (by omega) hp hF ez | with_reducible apply And.intro)
      dsimp only; omega
    all_goals
      have hF : U.fEnd a b a' b' p = true := dec_t (by first | exact .inl h1 | exact .inr h2)
      refine ⟨⟨by omega, by omega⟩, trivial, by omega, by decide, fun L20 n21 c22 e20 e21 e22 => ⟨⟨by omega, by omega⟩, fun j23 hj23 => ⟨by omega, ?_⟩⟩⟩
      obtain rfl : j23 = j13 := by omega
      rw [f0, f1, f2, f3, f4]
      rintro _ rfl _ rfl _ rfl _ rfl _ rfl
      refine ⟨⟨by omega, by omega⟩, trivial, by omega, by decide, fun L29 n30 c31 e29 e30 e31 z32 h32 => ?_⟩
      have ez := iw h32 (by omega)
      refine ⟨(z32, ((L20, (n21, c22)), (L29, (n30, c31)))), ?_⟩
      repeat' (first | exact rfl | exact vldp_yes hI (by omega) hp hF ez e20 e21 e22 e29 e30 e31 | with_reducible apply And.intro)
      dsimp only; omega
  · obtain ⟨x1, x2, x3, x4, x5, x6⟩ := vldp_end hl.srt hI (by omega)
    exact ⟨P, ⟨rfl, ⟨rfl, rfl, rfl⟩, hl, he, by omega, by omega, x5⟩, fun n37 L38 M39 P40 y1 y2 y3 => ⟨U.gone (U.fEnd a b a' b') P, ⟨rfl, x2, x4, by omega⟩, fun O42 q43 c44 y4 y5 y6 => hK.out _ _ _ _ _ _ _ y1 (x6 _ y2) y3 y4 (y5.trans x4) y6⟩⟩
set_option maxHeartbeats 2000000 in
theorem loseB_run (Pu : VUP) (hu : U.vushI n c L d M Pu) (hn : n ≤ 8) (ku : U.KU Pu) (hK : LK K n c L d M m f g k [] (U.fBrk Pu) P) :
    runQ (invDp P (U.fBrk Pu)) tV4 41 [ptr 0 0, cell (cloC (1048576 + 44) [(0, 0)])] (vwSx n c L d M m e f S g T k []) K := by
  have hpn := vlshI_n hl
  have hvl : (U.vlvs P).length = P.length := by simp [U.vlvs]
  have hkl : (U.vlks P).length = P.length := by simp [U.vlks]
  rw [loseB_vc]
  refine ⟨P, ⟨⟨rfl, rfl, rfl⟩, hl⟩, fun V n2 c3 e2 e3 e4 => ⟨P, ⟨⟨rfl, rfl, rfl⟩, hl⟩, fun KK n6 c7 e6 e7 e8 z8 h8 => ⟨?_, ?_⟩⟩⟩
  · refine ⟨(0, (([], (0, 0)), ([], (0, 0)))), ?_⟩
    repeat' (first | exact rfl | with_reducible apply And.intro)
    exact vldp_0 P _
  subst e4 e8
  rintro ⟨i, ⟨G, q, cg⟩, O, r, co⟩ hI
  obtain ⟨⟨i1, i2⟩, g1, o1, g2, g3, o2, o3, o4, o5⟩ := hI.out
  dsimp only at i1 i2 g1 o1 g2 g3 o2 o3 o4 o5 hI ⊢
  refine ⟨fun hi => ⟨⟨by omega, by omega⟩, fun j hj => ⟨by omega, fun z12 h12 => ⟨⟨by omega, by omega⟩, fun j13 hj13 => ⟨by omega, ?_⟩⟩⟩⟩, fun hi => ?_⟩
  · obtain rfl : j13 = j := by omega
    obtain ⟨p, hp⟩ : ∃ p, P[j13]? = some p := ⟨_, List.getElem?_eq_getElem (show j13 < P.length by omega)⟩
    obtain ⟨f0, f1, f2, f3, f4⟩ := vl_fi hp
    rw [(vlat hp).2.2] at h12
    subst h12
    rw [f0, f1, f2, f3, f4]
    rintro _ rfl _ rfl _ rfl _ rfl _ rfl
    refine ⟨Pu, ⟨⟨⟨rfl, rfl, rfl⟩, rfl, rfl, rfl⟩, hu, hn, ku⟩, fun h1 => ⟨Pu, ⟨⟨⟨rfl, rfl, rfl⟩, rfl, rfl, rfl⟩, hu, hn, ku⟩, fun h2 z20 h20 => ?_, fun h2 => ?_⟩, fun h1 => ?_⟩
    · have hF : U.fBrk Pu p = false := dec_f (fun h => h ⟨h1, h2⟩)
      have ez := iw h20 (by omega)
      refine ⟨(z20, ((G, (q, cg)), (O, (r, co)))), ?_⟩
      repeat' (first | exact rfl | exact vldp_no hI (by omega) hp hF ez | with_reducible apply And.intro)
      dsimp only; omega
    all_goals
      have hF : U.fBrk Pu p = true := dec_t (fun h => by first | exact h2 h.2 | exact h1 h.1)
      refine ⟨⟨by omega, by omega⟩, trivial, by omega, by decide, fun L20 n21 c22 e20 e21 e22 => ⟨⟨by omega, by omega⟩, fun j23 hj23 => ⟨by omega, ?_⟩⟩⟩
      obtain rfl : j23 = j13 := by omega
      rw [f0, f1, f2, f3, f4]
      rintro _ rfl _ rfl _ rfl _ rfl _ rfl
      refine ⟨⟨by omega, by omega⟩, trivial, by omega, by decide, fun L29 n30 c31 e29 e30 e31 z32 h32 => ?_⟩
      have ez := iw h32 (by omega)
      refine ⟨(z32, ((L20, (n21, c22)), (L29, (n30, c31)))), ?_⟩
      repeat' (first | exact rfl | exact vldp_yes hI (by omega) hp hF ez e20 e21 e22 e29 e30 e31 | with_reducible apply And.intro)
      dsimp only; omega
  · obtain ⟨x1, x2, x3, x4, x5, x6⟩ := vldp_end hl.srt hI (by omega)
    exact ⟨P, ⟨rfl, ⟨rfl, rfl, rfl⟩, hl, he, by omega, by omega, x5⟩, fun n37 L38 M39 P40 y1 y2 y3 => ⟨U.gone (U.fBrk Pu) P, ⟨rfl, x2, x4, by omega⟩, fun O42 q43 c44 y4 y5 y6 => hK.out _ _ _ _ _ _ _ y1 (x6 _ y2) y3 y4 (y5.trans x4) y6⟩⟩
end
end Go.Proofs.Ytfhgnngdbbgogaa
end
