/- Parts of a proof, one behind the other: JN1 JN2 JW4. No condition. -/
import Derived.Test.YtgopjjimafcgjaaGJ
section
namespace Go.Proofs.Ytgopjjimafcgjaa
open Go Reck Ost
set_option linter.unusedVariables false
set_option maxRecDepth 100000
abbrev nilP : AV := .inl (.inl (.inl (.pointer none)))
def invJnf : InvF := fun c tm σ => match tm.length, firstReg c with
  | 28, some 5 => some (jcInv [1, 2, 4, 6, 7, 8, 9, 10, 11, 12, 16, 17, 18, 19, 20, 21, 22, 23, 24, 25, 26, 27] 15 13 tm σ)
  | _, _ => none
--PLAIN
theorem jforgetN_vc (K:AV→St→Prop) (u:List Int):(runR invJnf tJn 23 [nilP,cell (strC u)] emptySt K)=((u=[]→K (Sum.inl (Sum.inl (rslC ⟨0,(6:Nat) + (1:Nat),0,0,0⟩))) ⟨[],[],0,[some (jbvB U.nilL 0)],0⟩)∧(¬u=[]→∀ (z0:Int),z0=(↑((0:Nat)):Int)→(∃ (y1:Int),((0:Nat)=0∧(0:Nat)=0∧(0:Nat)=0)∧((0:Nat)=0∧(0:Nat)=0∧(0:Nat)=0)∧z0=z0∧0=y1∧u=u∧(U.nilL=U.nilL∧(0:Nat)=0∧false=false)∧(U.nilL=U.nilL∧(0:Nat)=0∧false=false)∧(U.nilL=U.nilL∧(0:Nat)=0∧false=false)∧U.jiI ((0:Nat)) y1)∧∀ (x2:Int),U.jiI ((0:Nat)) x2→(x2<z0→(0≤x2∧x2<0)∧∀ (j3:Nat),(↑j3:Int)=(0:Int) + x2→j3<0∧∀ (z4:Int),z4=U.fi U.nilL j3 ((0:Nat))→∀ (z5:Int),z5=U.fi U.nilL j3 ((0:Nat) + (1:Nat))→∀ (z6:Int),z6=U.fi U.nilL j3 ((0:Nat) + (1:Nat) + (1:Nat))→∀ (z7:Int),z7=U.fi U.nilL j3 ((0:Nat) + (1:Nat) + (1:Nat) + (1:Nat))→∀ (z8:List Int),z8=U.fs U.nilL j3 ((0:Nat) + (1:Nat) + (1:Nat) + (1:Nat) + (1:Nat))→∀ (z9:List Int),z9=U.fs U.nilL j3 ((0:Nat) + (1:Nat) + (1:Nat) + (1:Nat) + (1:Nat) + (1:Nat))→∀ (z10:Int),z10=U.fi U.nilL j3 ((0:Nat) + (1:Nat) + (1:Nat) + (1:Nat) + (1:Nat) + (1:Nat) + (1:Nat))→(¬z8=u→Err [(113:Nat),(1:Nat),(92:Nat)])∧(¬¬z8=u→∀ (z11:Int),z11=IntKind.wrap .i64 (x2 + (1:Int))→∃ (y12:Int),((0:Nat)=0∧(0:Nat)=0∧(0:Nat)=0)∧((0:Nat)=0∧(0:Nat)=0∧(0:Nat)=0)∧z0=z0∧z11=y12∧u=u∧(U.nilL=U.nilL∧(0:Nat)=0∧false=false)∧(U.nilL=U.nilL∧(0:Nat)=0∧false=false)∧(U.nilL=U.nilL∧(0:Nat)=0∧false=false)∧U.jiI ((0:Nat)) y12∧Int.toNat (↑((0:Nat)):Int) - Int.toNat y12<Int.toNat (↑((0:Nat)):Int) - Int.toNat x2))∧(¬x2<z0→K (Sum.inl (Sum.inl (rslC ⟨0,7,0,0,0⟩))) ⟨[],[],0,[some (jbvB U.nilL 0)],0⟩))) := by kernel_rfl
theorem jofN_vc (K:AV→St→Prop) (F:Int × JBv→Bool) (ip:Int):(runR (invJf [] F) tJn 19 [nilP,xi .u32 ip] emptySt K)=(∀ (z0:Int),z0=(↑((0:Nat)):Int)→(∃ (y1:Int),((0:Nat)=0∧(0:Nat)=0∧(0:Nat)=0)∧((0:Nat)=0∧(0:Nat)=0∧(0:Nat)=0)∧z0=z0∧0=y1∧ip=ip∧(U.nilL=U.nilL∧(0:Nat)=0∧false=false)∧(U.nilL=U.nilL∧(0:Nat)=0∧false=false)∧U.jfI [] F y1)∧∀ (x2:Int),U.jfI [] F x2→(x2<z0→(0≤x2∧x2<0)∧∀ (j3:Nat),(↑j3:Int)=(0:Int) + x2→j3<0∧∀ (z4:Int),z4=U.fi U.nilL j3 ((0:Nat))→∀ (z5:Int),z5=U.fi U.nilL j3 ((0:Nat) + (1:Nat))→∀ (z6:Int),z6=U.fi U.nilL j3 ((0:Nat) + (1:Nat) + (1:Nat))→∀ (z7:Int),z7=U.fi U.nilL j3 ((0:Nat) + (1:Nat) + (1:Nat) + (1:Nat))→∀ (z8:List Int),z8=U.fs U.nilL j3 ((0:Nat) + (1:Nat) + (1:Nat) + (1:Nat) + (1:Nat))→∀ (z9:List Int),z9=U.fs U.nilL j3 ((0:Nat) + (1:Nat) + (1:Nat) + (1:Nat) + (1:Nat) + (1:Nat))→∀ (z10:Int),z10=U.fi U.nilL j3 ((0:Nat) + (1:Nat) + (1:Nat) + (1:Nat) + (1:Nat) + (1:Nat) + (1:Nat))→(z5=ip→(x2<0→K (Sum.inr [Sum.inr [xintC .u64 (0:Int),xintC .u32 (0:Int),xintC .i64 (0:Int),xintC .i64 (0:Int),Sum.inl (Value.string { data := { toList := [] } }),Sum.inl (Value.string { data := { toList := [] } }),xintC .i64 (0:Int)],Sum.inl (Sum.inl (Value.bool false))]) ⟨[],[],0,[],0⟩)∧(¬x2<0→(0≤x2∧x2<0)∧∀ (j11:Nat),(↑j11:Int)=(0:Int) + x2→j11<0∧∀ (z12:Int),z12=U.fi U.nilL j11 ((0:Nat))→∀ (z13:Int),z13=U.fi U.nilL j11 ((0:Nat) + (1:Nat))→∀ (z14:Int),z14=U.fi U.nilL j11 ((0:Nat) + (1:Nat) + (1:Nat))→∀ (z15:Int),z15=U.fi U.nilL j11 ((0:Nat) + (1:Nat) + (1:Nat) + (1:Nat))→∀ (z16:List Int),z16=U.fs U.nilL j11 ((0:Nat) + (1:Nat) + (1:Nat) + (1:Nat) + (1:Nat))→∀ (z17:List Int),z17=U.fs U.nilL j11 ((0:Nat) + (1:Nat) + (1:Nat) + (1:Nat) + (1:Nat) + (1:Nat))→∀ (z18:Int),z18=U.fi U.nilL j11 ((0:Nat) + (1:Nat) + (1:Nat) + (1:Nat) + (1:Nat) + (1:Nat) + (1:Nat))→K (Sum.inr [Sum.inr [xintC .u64 z12,xintC .u32 z13,xintC .i64 z14,xintC .i64 z15,strC z16,strC z17,xintC .i64 z18],Sum.inl (Sum.inl (Value.bool true))]) ⟨[],[],0,[],0⟩))∧(¬z5=ip→∀ (z19:Int),z19=IntKind.wrap .i64 (x2 + (1:Int))→∃ (y20:Int),((0:Nat)=0∧(0:Nat)=0∧(0:Nat)=0)∧((0:Nat)=0∧(0:Nat)=0∧(0:Nat)=0)∧z0=z0∧z19=y20∧ip=ip∧(U.nilL=U.nilL∧(0:Nat)=0∧false=false)∧(U.nilL=U.nilL∧(0:Nat)=0∧false=false)∧U.jfI [] F y20∧Int.toNat (↑((0:Nat)):Int) - Int.toNat y20<Int.toNat (↑((0:Nat)):Int) - Int.toNat x2))∧(¬x2<z0→K (Sum.inr [Sum.inr [xintC .u64 (0:Int),xintC .u32 (0:Int),xintC .i64 (0:Int),xintC .i64 (0:Int),Sum.inl (Value.string { data := { toList := [] } }),Sum.inl (Value.string { data := { toList := [] } }),xintC .i64 (0:Int)],Sum.inl (Sum.inl (Value.bool false))]) ⟨[],[],0,[],0⟩)) := by kernel_rfl
theorem jatN_vc (K:AV→St→Prop) (F:Int × JBv→Bool) (s0 s1:Int):(runR (invJf [] F) tJn 20 [nilP,plA s0 s1] emptySt K)=(∀ (z0:Int),z0=(↑((0:Nat)):Int)→(∃ (y1:Int),((0:Nat)=0∧(0:Nat)=0∧(0:Nat)=0)∧((0:Nat)=0∧(0:Nat)=0∧(0:Nat)=0)∧z0=z0∧0=y1∧s0=s0∧s1=s1∧(U.nilL=U.nilL∧(0:Nat)=0∧false=false)∧(U.nilL=U.nilL∧(0:Nat)=0∧false=false)∧U.jfI [] F y1)∧∀ (x2:Int),U.jfI [] F x2→(x2<z0→(0≤x2∧x2<0)∧∀ (j3:Nat),(↑j3:Int)=(0:Int) + x2→j3<0∧∀ (z4:Int),z4=U.fi U.nilL j3 ((0:Nat))→∀ (z5:Int),z5=U.fi U.nilL j3 ((0:Nat) + (1:Nat))→∀ (z6:Int),z6=U.fi U.nilL j3 ((0:Nat) + (1:Nat) + (1:Nat))→∀ (z7:Int),z7=U.fi U.nilL j3 ((0:Nat) + (1:Nat) + (1:Nat) + (1:Nat))→∀ (z8:List Int),z8=U.fs U.nilL j3 ((0:Nat) + (1:Nat) + (1:Nat) + (1:Nat) + (1:Nat))→∀ (z9:List Int),z9=U.fs U.nilL j3 ((0:Nat) + (1:Nat) + (1:Nat) + (1:Nat) + (1:Nat) + (1:Nat))→∀ (z10:Int),z10=U.fi U.nilL j3 ((0:Nat) + (1:Nat) + (1:Nat) + (1:Nat) + (1:Nat) + (1:Nat) + (1:Nat))→(z6=s0∧z7=s1∧True→(x2<0→K (Sum.inr [Sum.inr [xintC .u64 (0:Int),xintC .u32 (0:Int),xintC .i64 (0:Int),xintC .i64 (0:Int),Sum.inl (Value.string { data := { toList := [] } }),Sum.inl (Value.string { data := { toList := [] } }),xintC .i64 (0:Int)],Sum.inl (Sum.inl (Value.bool false))]) ⟨[],[],0,[],0⟩)∧(¬x2<0→(0≤x2∧x2<0)∧∀ (j11:Nat),(↑j11:Int)=(0:Int) + x2→j11<0∧∀ (z12:Int),z12=U.fi U.nilL j11 ((0:Nat))→∀ (z13:Int),z13=U.fi U.nilL j11 ((0:Nat) + (1:Nat))→∀ (z14:Int),z14=U.fi U.nilL j11 ((0:Nat) + (1:Nat) + (1:Nat))→∀ (z15:Int),z15=U.fi U.nilL j11 ((0:Nat) + (1:Nat) + (1:Nat) + (1:Nat))→∀ (z16:List Int),z16=U.fs U.nilL j11 ((0:Nat) + (1:Nat) + (1:Nat) + (1:Nat) + (1:Nat))→∀ (z17:List Int),z17=U.fs U.nilL j11 ((0:Nat) + (1:Nat) + (1:Nat) + (1:Nat) + (1:Nat) + (1:Nat))→∀ (z18:Int),z18=U.fi U.nilL j11 ((0:Nat) + (1:Nat) + (1:Nat) + (1:Nat) + (1:Nat) + (1:Nat) + (1:Nat))→K (Sum.inr [Sum.inr [xintC .u64 z12,xintC .u32 z13,xintC .i64 z14,xintC .i64 z15,strC z16,strC z17,xintC .i64 z18],Sum.inl (Sum.inl (Value.bool true))]) ⟨[],[],0,[],0⟩))∧(¬(z6=s0∧z7=s1∧True)→∀ (z19:Int),z19=IntKind.wrap .i64 (x2 + (1:Int))→∃ (y20:Int),((0:Nat)=0∧(0:Nat)=0∧(0:Nat)=0)∧((0:Nat)=0∧(0:Nat)=0∧(0:Nat)=0)∧z0=z0∧z19=y20∧s0=s0∧s1=s1∧(U.nilL=U.nilL∧(0:Nat)=0∧false=false)∧(U.nilL=U.nilL∧(0:Nat)=0∧false=false)∧U.jfI [] F y20∧Int.toNat (↑((0:Nat)):Int) - Int.toNat y20<Int.toNat (↑((0:Nat)):Int) - Int.toNat x2))∧(¬x2<z0→K (Sum.inr [Sum.inr [xintC .u64 (0:Int),xintC .u32 (0:Int),xintC .i64 (0:Int),xintC .i64 (0:Int),Sum.inl (Value.string { data := { toList := [] } }),Sum.inl (Value.string { data := { toList := [] } }),xintC .i64 (0:Int)],Sum.inl (Sum.inl (Value.bool false))]) ⟨[],[],0,[],0⟩)) := by kernel_rfl
end Go.Proofs.Ytgopjjimafcgjaa
end

section
namespace Go.Proofs.Ytgopjjimafcgjaa
open Go Reck Ost
set_option linter.unusedVariables false
set_option maxRecDepth 100000
theorem jofN_run (K : AV → St → Prop) (ip : Int) (hK : K jbg0 emptySt) : runR (invJf [] fun _ => false) tJn 19 [nilP, xi .u32 ip] emptySt K := by
  rw [jofN_vc]
  refine fun z0 h0 => ⟨?_, ?_⟩
  · refine ⟨0, ?_⟩
    repeat' (first | exact rfl | with_reducible apply And.intro)
    exact ⟨by omega, by simp, fun m hm => by omega⟩
  rintro i hI
  obtain ⟨i1, i2, i3⟩ := hI.out
  exact ⟨fun hi => absurd hi (by omega), fun _ => hK⟩
theorem jatN_run (K : AV → St → Prop) (s0 s1 : Int) (hK : K jbg0 emptySt) : runR (invJf [] fun _ => false) tJn 20 [nilP, plA s0 s1] emptySt K := by
  rw [jatN_vc]
  refine fun z0 h0 => ⟨?_, ?_⟩
  · refine ⟨0, ?_⟩
    repeat' (first | exact rfl | with_reducible apply And.intro)
    exact ⟨by omega, by simp, fun m hm => by omega⟩
  rintro i hI
  obtain ⟨i1, i2, i3⟩ := hI.out
  exact ⟨fun hi => absurd hi (by omega), fun _ => hK⟩
theorem jforgetN_run (K : AV → St → Prop) (u : List Int) (hK : K (cell (rslC ⟨0, 7, 0, 0, 0⟩)) ⟨[], [], 0, [some (jbvB [] 0)], 0⟩) : runR invJnf tJn 23 [nilP, cell (strC u)] emptySt K := by
  rw [jforgetN_vc]
  refine ⟨fun _ => hK, fun _ z0 h0 => ⟨?_, ?_⟩⟩
  · refine ⟨0, ?_⟩
    repeat' (first | exact rfl | with_reducible apply And.intro)
    exact ⟨by omega, by omega⟩
  rintro i ⟨i1, i2⟩
  exact ⟨fun hi => absurd hi (by omega), fun _ => hK⟩
def pjforgetN : Pat := fun args σ => match args, σ with
  | [.inl (.inl (.inl (.pointer none))), x], ⟨[], [], 0, [], 0⟩ => match strX x with
    | some u => some fun K => K (cell (rslC ⟨0, 7, 0, 0, 0⟩)) ⟨[], [], 0, [some (jbvB [] 0)], 0⟩
    | _ => none
  | _, _ => none
theorem pjforgetN_ok : PatOk 23 pjforgetN := by
  intro tm σ C h K hK w0 e w hk vs hvs
  unfold pjforgetN at h
  split at h
  · split at h
    · rename_i h0
      simp only [Option.some.injEq] at h; subst h
      obtain ⟨y0, y1, rfl, q0, q1⟩ := twos hvs
      exact knownC noOv names (conOk_ofR tJn_ok) (jforgetN_run K _ hK) w0 e w hk _ (map2 q0 (as_str h0 q1))
    · cases h
  · cases h
def pjofN : Pat := fun args σ => match args, σ with
  | [.inl (.inl (.inl (.pointer none))), x], ⟨[], [], 0, [], 0⟩ => match aIntK .u32 x with
    | some ip => some fun K => K jbg0 emptySt
    | _ => none
  | _, _ => none
theorem pjofN_ok : PatOk 19 pjofN := by
  intro tm σ C h K hK w0 e w hk vs hvs
  unfold pjofN at h
  split at h
  · split at h
    · rename_i h0
      simp only [Option.some.injEq] at h; subst h
      obtain ⟨y0, y1, rfl, q0, q1⟩ := twos hvs
      exact knownC noOv names (conOk_ofR tJn_ok) (jofN_run K _ hK) w0 e w hk _ (map2 q0 (as_aIntK h0 q1))
    · cases h
  · cases h
def pjatN : Pat := fun args σ => match args, σ with
  | [.inl (.inl (.inl (.pointer none))), x], ⟨[], [], 0, [], 0⟩ => match aPl x with
    | some (a, b) => some fun K => K jbg0 emptySt
    | _ => none
  | _, _ => none
theorem pjatN_ok : PatOk 20 pjatN := by
  intro tm σ C h K hK w0 e w hk vs hvs
  unfold pjatN at h
  split at h
  · split at h
    · rename_i h0
      simp only [Option.some.injEq] at h; subst h
      obtain ⟨y0, y1, rfl, q0, q1⟩ := twos hvs
      exact knownC noOv names (conOk_ofR tJn_ok) (jatN_run K _ _ hK) w0 e w hk _ (map2 q0 (as_aPl h0 q1))
    · cases h
  · cases h
def tJnil : Tbl := tblOr (tblIf 19 pjofN) (tblOr (tblIf 20 pjatN) (tblOr (tblIf 23 pjforgetN) tJl))
theorem tJnil_ok : TblOk Try.prog tJnil := tblOr_ok (tblIf_ok pjofN_ok) (tblOr_ok (tblIf_ok pjatN_ok) (tblOr_ok (tblIf_ok pjforgetN_ok) tJl_ok))
--PLAIN
theorem bindNil_vc (v0 v1 v2 v3:Int) (v4 v5:List Int) (v6:Int):(runB inv0 tJnil 6 [jbA v0 v1 v2 v3 v4 v5 v6] emptySt)=(∀ (z0:Int),z0=(↑((0:Nat)):Int)→(z0=0→∀ (z1:Int),z1=(↑((0:Nat)):Int)→(z1=0→∀ (z2:Int),z2=(↑((0:Nat)):Int)→(z2=0→∀ (z3:Int),z3=(↑((0:Nat)):Int)→(z3=0→True)∧(¬z3=0→Err [(200:Nat)]))∧(¬z2=0→Err [(200:Nat)]))∧(¬z1=0→Err [(200:Nat)]))∧(¬z0=0→Err [(200:Nat)])) := by kernel_rfl
end Go.Proofs.Ytgopjjimafcgjaa
end

section
set_option linter.unusedVariables false
set_option linter.unusedSimpArgs false
set_option maxRecDepth 10000
namespace Go.Proofs.Ytgopjjimafcgjaa
open Go Reck Ost
theorem bindNil_run (v0 v1 v2 v3 : Int) (v4 v5 : List Int) (v6 : Int) : runB inv0 tJnil 6 [jbA v0 v1 v2 v3 v4 v5 v6] emptySt := by
  rw [bindNil_vc]
  exact fun z0 h0 => ⟨fun _ z1 h1 => ⟨fun _ z2 h2 => ⟨fun _ z3 h3 => ⟨fun _ => trivial, fun h => (h (by omega)).elim⟩, fun h => (h (by omega)).elim⟩, fun h => (h (by omega)).elim⟩, fun h => (h (by omega)).elim⟩
theorem ok_none (w : World) : Ok w (arE []) emptySt w := ok_arrs w (l := []) (bs := []) rfl (by simp) (by intro i x q h; simp at h)
theorem bindNil_walk (s : BdI) (w : World) (hs : s.ok w) : Calls Try.prog 6 #[s.val] w fun e w' => e = .returned (.bool true) ∧ Only (fun _ => False) w w' :=
  call_trueB (conOk_ofR tJnil_ok) (bindNil_run s.z0 s.z1 s.z2 s.z3 (bz s.s4) (bz s.s5) s.z6) (ok_none w) (vs := [s.val]) (by
    simp only [List.map_cons, List.map_nil]
    rw [show (jbA s.z0 s.z1 s.z2 s.z3 (bz s.s4) (bz s.s5) s.z6 : AV) = .inl (.inr (jbC s.z0 s.z1 s.z2 s.z3 (bz s.s4) (bz s.s5) s.z6)) from rfl, bd_av])
end Go.Proofs.Ytgopjjimafcgjaa
end
