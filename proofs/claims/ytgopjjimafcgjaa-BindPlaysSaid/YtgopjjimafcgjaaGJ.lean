/- Parts of a proof, one behind the other: JA1 JA2 JT1 JT4 JO JW1. No condition. -/
import Derived.Test.YtgopjjimafcgjaaGI
import Derived.Test.YtgopjjimafcgjaaRkB
import Derived.Test.YtgopjjimafcgjaaRkZ
import Derived.Deep.Fields
import Derived.OpenShut
section
namespace Go.Proofs.Ytgopjjimafcgjaa
open Go Reck Ost
set_option linter.unusedVariables false
set_option maxRecDepth 100000
--PLAIN
theorem jawake_vc (K:AV→St→Prop):(runR inv0 tJs 12 [] emptySt K)=(∃ (y0:JBP),((((0:Nat)=0∧(0:Nat)=0∧(0:Nat)=0)∧(64:Int)=64)∧U.Jb (0:Nat) (0:Nat) U.nilL (0:Nat) U.nilL y0)∧(¬U.jMay ⟨7,11,1,2,[(104:Int),(49:Int)],[],0⟩→∃ (y1:JBP),((((0:Nat)=0∧(0:Nat)=0∧(0:Nat)=0)∧(64:Int)=64)∧U.Jb (0:Nat) (0:Nat) U.nilL (0:Nat) U.nilL y1)∧(∀ (v2:JBv) (n'3 c'4:Nat) (L'5:Rws) (d'6:Nat) (M'7:Rws),List.Mem ((7:Int),v2) y1→U.Nm [(97:Int),(110:Int),(110:Int)]→U.Jb n'3 c'4 L'5 d'6 M'7 (U.jSet y1 (7:Int) [(97:Int),(110:Int),(110:Int)])→∃ (y8:JBP),(((c'4=c'4∧d'6=d'6∧n'3=n'3)∧(64:Int)=64)∧U.Jb n'3 c'4 L'5 d'6 M'7 y8)∧∀ (v09 v110 v211 v312:Int) (v413 v514:List Int) (v615 e16:Int),U.jCk y8 (1:Int) (2:Int) (7:Int) (11:Int) ⟨v09,v110,v211,v312,v413,v514,v615⟩ e16→∃ (y17:JBP),(((c'4=c'4∧d'6=d'6∧n'3=n'3)∧(64:Int)=64)∧U.Jb n'3 c'4 L'5 d'6 M'7 y17)∧∀ (v018 v119 v220 v321:Int) (v422 v523:List Int) (v624 e25:Int),U.jCk y17 (1:Int) (3:Int) (7:Int) (11:Int) ⟨v018,v119,v220,v321,v422,v523,v624⟩ e25→∃ (y26:JBP),(((c'4=c'4∧d'6=d'6∧n'3=n'3)∧(64:Int)=64)∧U.Jb n'3 c'4 L'5 d'6 M'7 y26)∧∀ (v027 v128 v229 v330:Int) (v431 v532:List Int) (v633 e34:Int),U.jCk y26 (1:Int) (2:Int) (8:Int) (11:Int) ⟨v027,v128,v229,v330,v431,v532,v633⟩ e34→∀ (z35:Int),z35=0→(z35=0→K (lit (.bool false)) ⟨[],[],0,[],0⟩)∧(¬z35=0→K (lit (.bool false)) ⟨[],[],0,[],0⟩))∧(¬(U.jbHasK y1 (7:Int)∧U.Nm [(97:Int),(110:Int),(110:Int)])→∃ (y36:JBP),((((0:Nat)=0∧(0:Nat)=0∧(0:Nat)=0)∧(64:Int)=64)∧U.Jb (0:Nat) (0:Nat) U.nilL (0:Nat) U.nilL y36)∧∀ (v037 v138 v239 v340:Int) (v441 v542:List Int) (v643 e44:Int),U.jCk y36 (1:Int) (2:Int) (7:Int) (11:Int) ⟨v037,v138,v239,v340,v441,v542,v643⟩ e44→∃ (y45:JBP),((((0:Nat)=0∧(0:Nat)=0∧(0:Nat)=0)∧(64:Int)=64)∧U.Jb (0:Nat) (0:Nat) U.nilL (0:Nat) U.nilL y45)∧∀ (v046 v147 v248 v349:Int) (v450 v551:List Int) (v652 e53:Int),U.jCk y45 (1:Int) (3:Int) (7:Int) (11:Int) ⟨v046,v147,v248,v349,v450,v551,v652⟩ e53→∃ (y54:JBP),((((0:Nat)=0∧(0:Nat)=0∧(0:Nat)=0)∧(64:Int)=64)∧U.Jb (0:Nat) (0:Nat) U.nilL (0:Nat) U.nilL y54)∧∀ (v055 v156 v257 v358:Int) (v459 v560:List Int) (v661 e62:Int),U.jCk y54 (1:Int) (2:Int) (8:Int) (11:Int) ⟨v055,v156,v257,v358,v459,v560,v661⟩ e62→∀ (z63:Int),z63=0→(z63=0→K (lit (.bool false)) ⟨[],[],0,[],0⟩)∧(¬z63=0→K (lit (.bool false)) ⟨[],[],0,[],0⟩)))∧(U.jMay ⟨7,11,1,2,[(104:Int),(49:Int)],[],0⟩→∀ (n'64 c'65:Nat) (L'66:Rws) (d'67:Nat) (M'68 O69:Rws) (r70 co71:Nat),U.Jb n'64 c'65 L'66 d'67 M'68 (U.jAdd ⟨7,11,1,2,[(104:Int),(49:Int)],[],0⟩ y0)→U.jRw (U.jGone (U.jBar ⟨7,11,1,2,[(104:Int),(49:Int)],[],0⟩) y0) O69 r70 co71→∃ (y72:JBP),(((c'65=c'65∧d'67=d'67∧n'64=n'64)∧(64:Int)=64)∧U.Jb n'64 c'65 L'66 d'67 M'68 y72)∧(∀ (v73:JBv) (n'74 c'75:Nat) (L'76:Rws) (d'77:Nat) (M'78:Rws),List.Mem ((7:Int),v73) y72→U.Nm [(97:Int),(110:Int),(110:Int)]→U.Jb n'74 c'75 L'76 d'77 M'78 (U.jSet y72 (7:Int) [(97:Int),(110:Int),(110:Int)])→∃ (y79:JBP),(((c'75=c'75∧d'77=d'77∧n'74=n'74)∧(64:Int)=64)∧U.Jb n'74 c'75 L'76 d'77 M'78 y79)∧∀ (v080 v181 v282 v383:Int) (v484 v585:List Int) (v686 e87:Int),U.jCk y79 (1:Int) (2:Int) (7:Int) (11:Int) ⟨v080,v181,v282,v383,v484,v585,v686⟩ e87→∃ (y88:JBP),(((c'75=c'75∧d'77=d'77∧n'74=n'74)∧(64:Int)=64)∧U.Jb n'74 c'75 L'76 d'77 M'78 y88)∧∀ (v089 v190 v291 v392:Int) (v493 v594:List Int) (v695 e96:Int),U.jCk y88 (1:Int) (3:Int) (7:Int) (11:Int) ⟨v089,v190,v291,v392,v493,v594,v695⟩ e96→∃ (y97:JBP),(((c'75=c'75∧d'77=d'77∧n'74=n'74)∧(64:Int)=64)∧U.Jb n'74 c'75 L'76 d'77 M'78 y97)∧∀ (v098 v199 v2100 v3101:Int) (v4102 v5103:List Int) (v6104 e105:Int),U.jCk y97 (1:Int) (2:Int) (8:Int) (11:Int) ⟨v098,v199,v2100,v3101,v4102,v5103,v6104⟩ e105→∀ (z106:Int),z106=(↑r70:Int)→(z106=0→(v585=[(97:Int),(110:Int),(110:Int)]→(e87=0→(e96=2→(e105=40→K (lit (.bool true)) ⟨[],[],0,[],0⟩)∧(¬e105=40→K (lit (.bool false)) ⟨[],[],0,[],0⟩))∧(¬e96=2→K (lit (.bool false)) ⟨[],[],0,[],0⟩))∧(¬e87=0→K (lit (.bool false)) ⟨[],[],0,[],0⟩))∧(¬v585=[(97:Int),(110:Int),(110:Int)]→K (lit (.bool false)) ⟨[],[],0,[],0⟩))∧(¬z106=0→K (lit (.bool false)) ⟨[],[],0,[],0⟩))∧(¬(U.jbHasK y72 (7:Int)∧U.Nm [(97:Int),(110:Int),(110:Int)])→∃ (y107:JBP),(((c'65=c'65∧d'67=d'67∧n'64=n'64)∧(64:Int)=64)∧U.Jb n'64 c'65 L'66 d'67 M'68 y107)∧∀ (v0108 v1109 v2110 v3111:Int) (v4112 v5113:List Int) (v6114 e115:Int),U.jCk y107 (1:Int) (2:Int) (7:Int) (11:Int) ⟨v0108,v1109,v2110,v3111,v4112,v5113,v6114⟩ e115→∃ (y116:JBP),(((c'65=c'65∧d'67=d'67∧n'64=n'64)∧(64:Int)=64)∧U.Jb n'64 c'65 L'66 d'67 M'68 y116)∧∀ (v0117 v1118 v2119 v3120:Int) (v4121 v5122:List Int) (v6123 e124:Int),U.jCk y116 (1:Int) (3:Int) (7:Int) (11:Int) ⟨v0117,v1118,v2119,v3120,v4121,v5122,v6123⟩ e124→∃ (y125:JBP),(((c'65=c'65∧d'67=d'67∧n'64=n'64)∧(64:Int)=64)∧U.Jb n'64 c'65 L'66 d'67 M'68 y125)∧∀ (v0126 v1127 v2128 v3129:Int) (v4130 v5131:List Int) (v6132 e133:Int),U.jCk y125 (1:Int) (2:Int) (8:Int) (11:Int) ⟨v0126,v1127,v2128,v3129,v4130,v5131,v6132⟩ e133→∀ (z134:Int),z134=(↑r70:Int)→(z134=0→K (lit (.bool false)) ⟨[],[],0,[],0⟩)∧(¬z134=0→K (lit (.bool false)) ⟨[],[],0,[],0⟩)))) := by kernel_rfl
end Go.Proofs.Ytgopjjimafcgjaa
end

section
set_option linter.unusedVariables false
set_option linter.unusedSimpArgs false
set_option maxRecDepth 10000
namespace Go.Proofs.Ytgopjjimafcgjaa
open Go Reck Ost
theorem jnm_h1 : U.Nm [104, 49] := ⟨by decide, fun i hi => by
  match i, hi with
  | 0, _ => exact .inl (by decide)
  | 1, _ => exact .inr (by decide)
  | n + 2, h => exact absurd h (by simp)⟩
theorem jnm_ann : U.Nm [97, 110, 110] := ⟨by decide, fun i hi => by
  match i, hi with
  | 0, _ => exact .inl (by decide)
  | 1, _ => exact .inl (by decide)
  | 2, _ => exact .inl (by decide)
  | n + 3, h => exact absurd h (by simp)⟩
def jv0 : JBv := ⟨7, 11, 1, 2, [104, 49], [], 0⟩
def jv1 : JBv := ⟨7, 11, 1, 2, [104, 49], [97, 110, 110], 0⟩
theorem jmay_v0 : U.jMay jv0 := ⟨by decide, by decide, jnm_h1, .inl rfl⟩
theorem jadd_v0 : U.jAdd jv0 [] = [(7, jv0)] := rfl
theorem jset_v1 : U.jSet [(7, jv0)] 7 [97, 110, 110] = [(7, jv1)] := by
  unfold U.jSet
  simp [jv0, jv1]
theorem jawake_run (K : AV → St → Prop) (hK : K (lit (.bool true)) emptySt) : runR inv0 tJs 12 [] emptySt K := by
  rw [jawake_vc]
  refine ⟨[], ⟨⟨⟨rfl, rfl, rfl⟩, rfl⟩, jb_nil⟩, fun h => (h jmay_v0).elim, fun _ n c L d M O r co hJ hG => ?_⟩
  have hJ : U.Jb n c L d M [(7, jv0)] := hJ
  have hr : r = 0 := hG.ln
  refine ⟨_, ⟨⟨⟨rfl, rfl, rfl⟩, rfl⟩, hJ⟩, fun v n' c' L' d' M' _ _ hJ' => ?_, fun h => (h ⟨⟨jv0, List.mem_singleton.2 rfl⟩, jnm_ann⟩).elim⟩
  rw [jset_v1] at hJ'
  refine ⟨_, ⟨⟨⟨rfl, rfl, rfl⟩, rfl⟩, hJ'⟩, fun a0 a1 a2 a3 a4 a5 a6 e1 h1 => ⟨_, ⟨⟨⟨rfl, rfl, rfl⟩, rfl⟩, hJ'⟩, fun b0 b1 b2 b3 b4 b5 b6 e2 h2 => ⟨_, ⟨⟨⟨rfl, rfl, rfl⟩, rfl⟩, hJ'⟩, fun d0 d1 d2 d3 d4 d5 d6 e3 h3 => ?_⟩⟩⟩
  have g1 := jck_fun hJ'.i hJ'.s.srt h1 (v' := jv1) (e' := 0) ⟨.inl ⟨7, jv1, List.mem_singleton.2 rfl, ⟨rfl, rfl⟩, .inr ⟨⟨rfl, rfl⟩, rfl, .inr ⟨by decide, rfl⟩⟩⟩⟩
  have g2 := jck_fun hJ'.i hJ'.s.srt h2 (v' := ⟨0, 0, 0, 0, [], [], 0⟩) (e' := 2) ⟨.inr ⟨fun p hp => by
    rw [List.mem_singleton] at hp
    subst hp
    decide, rfl, rfl⟩⟩
  have g3 := jck_fun hJ'.i hJ'.s.srt h3 (v' := ⟨0, 0, 0, 0, [], [], 0⟩) (e' := 40) ⟨.inl ⟨7, jv1, List.mem_singleton.2 rfl, ⟨rfl, rfl⟩, .inl ⟨by decide, rfl, rfl⟩⟩⟩
  have ga := g1.1
  simp only [jv1, JBv.mk.injEq] at ga
  intro z hz
  exact ⟨fun _ => ⟨fun _ => ⟨fun _ => ⟨fun _ => ⟨fun _ => hK, fun h => (h g3.2).elim⟩, fun h => (h g2.2).elim⟩, fun h => (h g1.2).elim⟩, fun h => (h ga.2.2.2.2.2.1).elim⟩, fun h => (h (by omega)).elim⟩
def pjawake : Pat := fun args σ => match args, σ with
  | [], ⟨[], [], 0, [], 0⟩ => some fun K => K (lit (.bool true)) emptySt
  | _, _ => none
theorem pjawake_ok : PatOk 12 pjawake := by
  intro tm σ C h K hK w0 e w hk vs hvs
  unfold pjawake at h
  split at h
  · simp only [Option.some.injEq] at h; subst h
    exact knownC noOv names (conOk_ofR tJs_ok) (jawake_run K hK) w0 e w hk vs hvs
  · cases h
def tJl : Tbl := tblOr (tblIf 12 pjawake) tJs
theorem tJl_ok : TblOk Try.prog tJl := tblOr_ok (tblIf_ok pjawake_ok) tJs_ok
end Go.Proofs.Ytgopjjimafcgjaa
end

section
namespace Go.Proofs.Ytgopjjimafcgjaa
open Go Reck Ost
set_option linter.unusedVariables false
set_option maxRecDepth 100000
abbrev runB (inv : InvF) (tbl : Tbl) (f : Nat) (args : List AV) (σ : St) : Prop := goT Try.prog [] (orcR inv nmt tbl) (opMB Try.prog) 3000 (.inr (.inr (.inr (.inr f)))) args σ isTrue
structure U.jlI (i : Int) (n c : Nat) (L : Rws) (d : Nat) (M W : Rws) (w cw : Nat) : Prop where
  lo : 0 ≤ i
  w : U.jW n c L d M W w cw
def jlInv (v r i s : Nat) (J : List Nat) (tm : List AV) (σ : St) : Inv where
  X := Int × (Nat × (Nat × (Rws × (Nat × (Rws × (Rws × (Nat × Nat)))))))
  tags := [0]
  tag _ _ := 0
  J := J
  val _ x := [(i, xi .i64 x.1), (r, cell (rslC ⟨σ.arrs.length + 2, 7, 0, x.2.2.2.2.2.2.2.1, x.2.2.2.2.2.2.2.2⟩))]
  st _ x σ' := ⟨σ'.heap.set (jKid σ' (jBl tm v)) (jbB (rslC ⟨σ.arrs.length, 1, 0, x.2.1, x.2.2.1⟩) (rslC ⟨σ.arrs.length + 1, 7, 0, x.2.1, x.2.2.2.2.1⟩) 64), σ'.ints, σ'.opqs, σ'.arrs.dropLast.dropLast.dropLast ++ [some (jbkB x.2.2.2.1 x.2.2.1), some (jbvB x.2.2.2.2.2.1 x.2.2.2.2.1), some (jrB x.2.2.2.2.2.2.1 x.2.2.2.2.2.2.2.2)], σ'.junks⟩
  I _ x := U.jlI x.1 x.2.1 x.2.2.1 x.2.2.2.1 x.2.2.2.2.1 x.2.2.2.2.2.1 x.2.2.2.2.2.2.1 x.2.2.2.2.2.2.2.1 x.2.2.2.2.2.2.2.2
  m _ x := ((slotR tm s).n : Int).toNat - x.1.toNat
  ren tm' σ' := ([], [(jbshArr σ' (jKid σ' (jBl tm' v)) 0).a, (jbshArr σ' (jKid σ' (jBl tm' v)) 1).a, (slotR tm' r).a])
/-- A row that is bound at a port, with these addresses, to somebody. -/
structure U.jHt (W : Rws) (m : Nat) (s0 s1 mac ip : Int) : Prop where
  out : U.fi W m (0 + 1 + 1) = s0 ∧ U.fi W m (0 + 1 + 1 + 1) = s1 ∧ U.fi W m 0 = mac ∧ U.fi W m (0 + 1) = ip ∧ ¬ U.fs W m (0 + 1 + 1 + 1 + 1 + 1) = []
structure U.jtI (W : Rws) (n : Nat) (s0 s1 mac ip : Int) (t : Nat) (i : Int) : Prop where
  out : 0 ≤ i ∧ i ≤ n
  no : t = 0 → ∀ m : Nat, (m : Int) < i → ¬ U.jHt W m s0 s1 mac ip
  yes : t = 1 → ∃ m : Nat, m < n ∧ U.jHt W m s0 s1 mac ip
def jtInv (s0 s1 mac ip : Int) (tm : List AV) (σ : St) : Inv where
  X := Int
  tags := [0, 1]
  tag := boolAt 15
  J := [0,1,4,6,7,8,9,10,11,12,16,17,18,19,20,21,22,23,24,25,26,27,28,29,30,31,32,33,34,35,36,37,38,39,40,41,42,43,44,48,49,50,51,52,53,54,55,56,57,58,59,60,61,62,63,64,65,66,67,68,69,70,71,72,73,74,75,76,77,78,79,80,81,82,83,84,85,86,87,88,89,90,91,92,93,94,95,96,97,98,99,100,101,102,103,104,105,106,107,108,109,110,111,112]
  val t x := [(47, xi .i64 x), (15, tagB t)]
  st _ _ σ' := σ'
  I t x := U.jtI (rowsAt σ (slotR tm 45).a) (slotR tm 45).n s0 s1 mac ip t x
  m _ x := ((slotR tm 45).n : Int).toNat - x.toNat
  ren := noRen
def invJT (s0 s1 mac ip : Int) : InvF := fun c tm σ => match tm.length, firstReg c with
  | 113, some 4 => some (jlInv 9 10 21 19 [0, 1, 4, 6, 7, 8, 11, 12, 13, 14, 15, 16, 17, 18, 22, 23, 24, 25, 26, 27, 28, 29, 30, 31, 32, 33, 34, 35, 36, 37, 38, 39, 40, 41, 42, 43, 44, 45, 46, 47, 48, 49, 50, 51, 52, 53, 54, 55, 56, 57, 58, 59, 60, 61, 62, 63, 64, 65, 66, 67, 68, 69, 70, 71, 72, 73, 74, 75, 76, 77, 78, 79, 80, 81, 82, 83, 84, 85, 86, 87, 88, 89, 90, 91, 92, 93, 94, 95, 96, 97, 98, 99, 100, 101, 102, 103, 104, 105, 106, 107, 108, 109, 110, 111, 112] tm σ)
  | 113, some 12 => some (jtInv s0 s1 mac ip tm σ)
  | 70, some 4 => some (jlInv 3 4 15 13 [0, 1, 2, 5, 6, 7, 8, 9, 10, 11, 12, 16, 17, 18, 19, 20, 21, 22, 23, 24, 25, 26, 27, 28, 29, 30, 31, 32, 33, 34, 35, 36, 37, 38, 39, 40, 41, 42, 43, 44, 45, 46, 47, 48, 49, 50, 51, 52, 53, 54, 55, 56, 57, 58, 59, 60, 61, 62, 63, 64, 65, 66, 67, 68, 69] tm σ)
  | 70, some 10 => some (jcInv [0, 1, 2, 5, 6, 8, 9, 10, 11, 12, 16, 17, 18, 19, 20, 21, 22, 23, 24, 25, 26, 27, 28, 29, 30, 31, 35, 36, 37, 38, 39, 40, 41, 42, 43, 44, 45, 46, 47, 48, 49, 50, 51, 52, 53, 54, 55, 56, 57, 58, 59, 60, 61, 62, 63, 64, 65, 66, 67, 68, 69] 34 32 tm σ)
  | 70, some 13 => some (jcInv [0, 1, 2, 5, 6, 8, 10, 11, 12, 16, 17, 18, 19, 20, 21, 22, 23, 24, 25, 26, 27, 28, 29, 30, 31, 35, 36, 37, 38, 39, 40, 44, 45, 46, 47, 48, 49, 50, 51, 52, 53, 54, 55, 56, 57, 58, 59, 60, 61, 62, 63, 64, 65, 66, 67, 68, 69] 43 41 tm σ)
  | 145, some 4 => some (jlInv 5 6 23 21 [0, 1, 2, 4, 7, 8, 9, 10, 11, 12, 13, 14, 15, 16, 17, 18, 19, 20, 24, 25, 26, 27, 28, 29, 30, 31, 32, 33, 34, 35, 36, 37, 38, 39, 40, 41, 42, 43, 44, 45, 46, 47, 48, 49, 50, 51, 52, 53, 54, 55, 56, 57, 58, 59, 60, 61, 62, 63, 64, 65, 66, 67, 68, 69, 70, 71, 72, 73, 74, 75, 76, 77, 78, 79, 80, 81, 82, 83, 84, 85, 86, 87, 88, 89, 90, 91, 92, 93, 94, 95, 96, 97, 98, 99, 100, 101, 102, 103, 104, 105, 106, 107, 108, 109, 110, 111, 112, 113, 114, 115, 116, 117, 118, 119, 120, 121, 122, 123, 124, 125, 126, 127, 128, 129, 130, 131, 132, 133, 134, 135, 136, 137, 138, 139, 140, 141, 142, 143, 144] tm σ)
  | 43, some 5 => some (jlInv 3 4 11 9 [0, 1, 2, 6, 7, 8, 12, 13, 14, 15, 16, 17, 18, 19, 20, 21, 22, 23, 24, 25, 26, 27, 28, 29, 30, 31, 32, 33, 34, 35, 36, 37, 38, 39, 40, 41, 42] tm σ)
  | _, _ => none
def opKs : List CK := [.n .i64, .n .u64, .n .u32, .n .i64, .n .i64, .s, .s, .n .i64, .n .i64, .n .i64, .s, .n .i64]
def jopB (R : List (List CV)) : ABlk := ⟨33, .o (.rows opKs R), [], 0, true⟩
--PLAIN
theorem bindSpoof_vc (A:List (List CV)) (s c0:Nat) (s0 s1 mac ip:Int):(runB (invJT s0 s1 mac ip) tJl 4 [cell (rslC ⟨0,12,0,s,c0⟩),plA s0 s1,xi .u64 mac,xi .u32 ip] ⟨[],[],0,[some (jopB A)],0⟩)=(∀ (z0:Int),z0=(↑s:Int)→(∃ (y1:Int × Nat × Nat × Rws × Nat × Rws × Rws × Nat × Nat),mac=mac∧ip=ip∧((0:Nat)=0∧0=y1.2.2.2.2.2.2.2.1∧0=y1.2.2.2.2.2.2.2.2)∧((0:Nat)=0∧s=s∧c0=c0)∧z0=z0∧0=y1.1∧s0=s0∧s1=s1∧((0:Nat)=0∧0=y1.2.1∧0=y1.2.2.1)∧((0:Nat)=0∧0=y1.2.1∧0=y1.2.2.2.2.1)∧(64:Int)=64∧(A=A∧(0:Nat)=0∧true=true)∧(U.nilL=y1.2.2.2.1∧0=y1.2.2.1∧false=false)∧(U.nilL=y1.2.2.2.2.2.1∧0=y1.2.2.2.2.1∧false=false)∧(U.nilL=y1.2.2.2.2.2.2.1∧0=y1.2.2.2.2.2.2.2.2∧false=false)∧U.jlI y1.1 y1.2.1 y1.2.2.1 y1.2.2.2.1 y1.2.2.2.2.1 y1.2.2.2.2.2.1 y1.2.2.2.2.2.2.1 y1.2.2.2.2.2.2.2.1 y1.2.2.2.2.2.2.2.2)∧∀ (x2:Int × Nat × Nat × Rws × Nat × Rws × Rws × Nat × Nat),U.jlI x2.1 x2.2.1 x2.2.2.1 x2.2.2.2.1 x2.2.2.2.2.1 x2.2.2.2.2.2.1 x2.2.2.2.2.2.2.1 x2.2.2.2.2.2.2.2.1 x2.2.2.2.2.2.2.2.2→(x2.1<z0→(0≤x2.1∧x2.1<(↑s:Int))∧∀ (j3:Nat),(↑j3:Int)=(↑((0:Nat)):Int) + x2.1→j3<List.length A∧∀ (z4:Int),z4=U.fi A j3 ((0:Nat))→∀ (z5:Int),z5=U.fi A j3 ((0:Nat) + (1:Nat))→∀ (z6:Int),z6=U.fi A j3 ((0:Nat) + (1:Nat) + (1:Nat))→∀ (z7:Int),z7=U.fi A j3 ((0:Nat) + (1:Nat) + (1:Nat) + (1:Nat))→∀ (z8:Int),z8=U.fi A j3 ((0:Nat) + (1:Nat) + (1:Nat) + (1:Nat) + (1:Nat))→∀ (z9:List Int),z9=U.fs A j3 ((0:Nat) + (1:Nat) + (1:Nat) + (1:Nat) + (1:Nat) + (1:Nat))→∀ (z10:List Int),z10=U.fs A j3 ((0:Nat) + (1:Nat) + (1:Nat) + (1:Nat) + (1:Nat) + (1:Nat) + (1:Nat))→∀ (z11:Int),z11=U.fi A j3 ((0:Nat) + (1:Nat) + (1:Nat) + (1:Nat) + (1:Nat) + (1:Nat) + (1:Nat) + (1:Nat))→∀ (z12:Int),z12=U.fi A j3 ((0:Nat) + (1:Nat) + (1:Nat) + (1:Nat) + (1:Nat) + (1:Nat) + (1:Nat) + (1:Nat) + (1:Nat))→∀ (z13:Int),z13=U.fi A j3 ((0:Nat) + (1:Nat) + (1:Nat) + (1:Nat) + (1:Nat) + (1:Nat) + (1:Nat) + (1:Nat) + (1:Nat) + (1:Nat))→∀ (z14:List Int),z14=U.fs A j3 ((0:Nat) + (1:Nat) + (1:Nat) + (1:Nat) + (1:Nat) + (1:Nat) + (1:Nat) + (1:Nat) + (1:Nat) + (1:Nat) + (1:Nat))→∀ (z15:Int),z15=U.fi A j3 ((0:Nat) + (1:Nat) + (1:Nat) + (1:Nat) + (1:Nat) + (1:Nat) + (1:Nat) + (1:Nat) + (1:Nat) + (1:Nat) + (1:Nat) + (1:Nat))→(x2.1<50→∀ (a16 b17 d18:List Int),a16=U.jTk z9→b17=U.jTk z10→d18=U.jTk z14→(x2.2.2.2.2.2.2.2.2=x2.2.2.2.2.2.2.2.2∧((x2.2.2.1=x2.2.2.1∧x2.2.2.2.2.1=x2.2.2.2.2.1∧x2.2.1=x2.2.1)∧(64:Int)=64)∧U.jW x2.2.1 x2.2.2.1 x2.2.2.2.1 x2.2.2.2.2.1 x2.2.2.2.2.2.1 x2.2.2.2.2.2.2.1 x2.2.2.2.2.2.2.2.1 x2.2.2.2.2.2.2.2.2)∧(∀ (z19:Int),z19=IntKind.wrap .i64 (x2.1 + (1:Int))→∃ (y20:Int × Nat × Nat × Rws × Nat × Rws × Rws × Nat × Nat),mac=mac∧ip=ip∧((0:Nat)=0∧x2.2.2.2.2.2.2.2.1=y20.2.2.2.2.2.2.2.1∧x2.2.2.2.2.2.2.2.2=y20.2.2.2.2.2.2.2.2)∧((0:Nat)=0∧s=s∧c0=c0)∧z0=z0∧z19=y20.1∧s0=s0∧s1=s1∧((0:Nat)=0∧x2.2.1=y20.2.1∧x2.2.2.1=y20.2.2.1)∧((0:Nat)=0∧x2.2.1=y20.2.1∧x2.2.2.2.2.1=y20.2.2.2.2.1)∧(64:Int)=64∧(A=A∧(0:Nat)=0∧true=true)∧(x2.2.2.2.1=y20.2.2.2.1∧x2.2.2.1=y20.2.2.1∧false=false)∧(x2.2.2.2.2.2.1=y20.2.2.2.2.2.1∧x2.2.2.2.2.1=y20.2.2.2.2.1∧false=false)∧(x2.2.2.2.2.2.2.1=y20.2.2.2.2.2.2.1∧x2.2.2.2.2.2.2.2.2=y20.2.2.2.2.2.2.2.2∧false=false)∧U.jlI y20.1 y20.2.1 y20.2.2.1 y20.2.2.2.1 y20.2.2.2.2.1 y20.2.2.2.2.2.1 y20.2.2.2.2.2.2.1 y20.2.2.2.2.2.2.2.1 y20.2.2.2.2.2.2.2.2∧Int.toNat (↑s:Int) - Int.toNat y20.1<Int.toNat (↑s:Int) - Int.toNat x2.1)∧(∀ (n'21:Nat) (L'22 M'23 W'24:Rws) (w'25 cw'26:Nat),U.jW n'21 x2.2.2.1 L'22 x2.2.2.2.2.1 M'23 W'24 w'25 cw'26→∀ (z27:Int),z27=IntKind.wrap .i64 (x2.1 + (1:Int))→∃ (y28:Int × Nat × Nat × Rws × Nat × Rws × Rws × Nat × Nat),mac=mac∧ip=ip∧((0:Nat)=0∧w'25=y28.2.2.2.2.2.2.2.1∧cw'26=y28.2.2.2.2.2.2.2.2)∧((0:Nat)=0∧s=s∧c0=c0)∧z0=z0∧z27=y28.1∧s0=s0∧s1=s1∧((0:Nat)=0∧n'21=y28.2.1∧x2.2.2.1=y28.2.2.1)∧((0:Nat)=0∧n'21=y28.2.1∧x2.2.2.2.2.1=y28.2.2.2.2.1)∧(64:Int)=64∧(A=A∧(0:Nat)=0∧true=true)∧(L'22=y28.2.2.2.1∧x2.2.2.1=y28.2.2.1∧false=false)∧(M'23=y28.2.2.2.2.2.1∧x2.2.2.2.2.1=y28.2.2.2.2.1∧false=false)∧(W'24=y28.2.2.2.2.2.2.1∧cw'26=y28.2.2.2.2.2.2.2.2∧false=false)∧U.jlI y28.1 y28.2.1 y28.2.2.1 y28.2.2.2.1 y28.2.2.2.2.1 y28.2.2.2.2.2.1 y28.2.2.2.2.2.2.1 y28.2.2.2.2.2.2.2.1 y28.2.2.2.2.2.2.2.2∧Int.toNat (↑s:Int) - Int.toNat y28.1<Int.toNat (↑s:Int) - Int.toNat x2.1)∧∀ (n'29 c'30:Nat) (L'31:Rws) (d'32:Nat) (M'33 W'34:Rws) (w'35 cw'36:Nat),U.jW n'29 c'30 L'31 d'32 M'33 W'34 w'35 cw'36→∀ (z37:Int),z37=IntKind.wrap .i64 (x2.1 + (1:Int))→∃ (y38:Int × Nat × Nat × Rws × Nat × Rws × Rws × Nat × Nat),mac=mac∧ip=ip∧((0:Nat)=0∧w'35=y38.2.2.2.2.2.2.2.1∧cw'36=y38.2.2.2.2.2.2.2.2)∧((0:Nat)=0∧s=s∧c0=c0)∧z0=z0∧z37=y38.1∧s0=s0∧s1=s1∧((0:Nat)=0∧n'29=y38.2.1∧c'30=y38.2.2.1)∧((0:Nat)=0∧n'29=y38.2.1∧d'32=y38.2.2.2.2.1)∧(64:Int)=64∧(A=A∧(0:Nat)=0∧true=true)∧(L'31=y38.2.2.2.1∧c'30=y38.2.2.1∧false=false)∧(M'33=y38.2.2.2.2.2.1∧d'32=y38.2.2.2.2.1∧false=false)∧(W'34=y38.2.2.2.2.2.2.1∧cw'36=y38.2.2.2.2.2.2.2.2∧false=false)∧U.jlI y38.1 y38.2.1 y38.2.2.1 y38.2.2.2.1 y38.2.2.2.2.1 y38.2.2.2.2.2.1 y38.2.2.2.2.2.2.1 y38.2.2.2.2.2.2.2.1 y38.2.2.2.2.2.2.2.2∧Int.toNat (↑s:Int) - Int.toNat y38.1<Int.toNat (↑s:Int) - Int.toNat x2.1)∧(¬x2.1<50→∀ (z39:Int),z39=IntKind.wrap .i64 (x2.1 + (1:Int))→∃ (y40:Int × Nat × Nat × Rws × Nat × Rws × Rws × Nat × Nat),mac=mac∧ip=ip∧((0:Nat)=0∧x2.2.2.2.2.2.2.2.1=y40.2.2.2.2.2.2.2.1∧x2.2.2.2.2.2.2.2.2=y40.2.2.2.2.2.2.2.2)∧((0:Nat)=0∧s=s∧c0=c0)∧z0=z0∧z39=y40.1∧s0=s0∧s1=s1∧((0:Nat)=0∧x2.2.1=y40.2.1∧x2.2.2.1=y40.2.2.1)∧((0:Nat)=0∧x2.2.1=y40.2.1∧x2.2.2.2.2.1=y40.2.2.2.2.1)∧(64:Int)=64∧(A=A∧(0:Nat)=0∧true=true)∧(x2.2.2.2.1=y40.2.2.2.1∧x2.2.2.1=y40.2.2.1∧false=false)∧(x2.2.2.2.2.2.1=y40.2.2.2.2.2.1∧x2.2.2.2.2.1=y40.2.2.2.2.1∧false=false)∧(x2.2.2.2.2.2.2.1=y40.2.2.2.2.2.2.1∧x2.2.2.2.2.2.2.2.2=y40.2.2.2.2.2.2.2.2∧false=false)∧U.jlI y40.1 y40.2.1 y40.2.2.1 y40.2.2.2.1 y40.2.2.2.2.1 y40.2.2.2.2.2.1 y40.2.2.2.2.2.2.1 y40.2.2.2.2.2.2.2.1 y40.2.2.2.2.2.2.2.2∧Int.toNat (↑s:Int) - Int.toNat y40.1<Int.toNat (↑s:Int) - Int.toNat x2.1))∧(¬x2.1<z0→∃ (y41:JBP),(((x2.2.2.1=x2.2.2.1∧x2.2.2.2.2.1=x2.2.2.2.2.1∧x2.2.1=x2.2.1)∧(64:Int)=64)∧U.Jb x2.2.1 x2.2.2.1 x2.2.2.2.1 x2.2.2.2.2.1 x2.2.2.2.2.2.1 y41)∧∀ (v042 v143 v244 v345:Int) (v446 v547:List Int) (v648 e49:Int),U.jCk y41 s0 s1 mac ip ⟨v042,v143,v244,v345,v446,v547,v648⟩ e49→∀ (z50:Int),z50=(↑x2.2.2.2.2.2.2.2.1:Int)→(∃ (y51:Int),mac=mac∧ip=ip∧e49=e49∧false=false∧((0:Nat)=0∧x2.2.2.2.2.2.2.2.1=x2.2.2.2.2.2.2.2.1∧x2.2.2.2.2.2.2.2.2=x2.2.2.2.2.2.2.2.2)∧z50=z50∧0=y51∧s0=s0∧s1=s1∧((0:Nat)=0∧x2.2.1=x2.2.1∧x2.2.2.1=x2.2.2.1)∧((0:Nat)=0∧x2.2.1=x2.2.1∧x2.2.2.2.2.1=x2.2.2.2.2.1)∧(64:Int)=64∧v042=v042∧v143=v143∧v244=v244∧v345=v345∧v446=v446∧v547=v547∧v648=v648∧(A=A∧(0:Nat)=0∧true=true)∧(x2.2.2.2.1=x2.2.2.2.1∧x2.2.2.1=x2.2.2.1∧false=false)∧(x2.2.2.2.2.2.1=x2.2.2.2.2.2.1∧x2.2.2.2.2.1=x2.2.2.2.2.1∧false=false)∧(x2.2.2.2.2.2.2.1=x2.2.2.2.2.2.2.1∧x2.2.2.2.2.2.2.2.2=x2.2.2.2.2.2.2.2.2∧false=false)∧U.jtI x2.2.2.2.2.2.2.1 x2.2.2.2.2.2.2.2.1 s0 s1 mac ip ((0:Nat)) y51)∧(∀ (x52:Int),U.jtI x2.2.2.2.2.2.2.1 x2.2.2.2.2.2.2.2.1 s0 s1 mac ip (0:Nat) x52→(x52<z50→(0≤x52∧x52<(↑x2.2.2.2.2.2.2.2.1:Int))∧∀ (j53:Nat),(↑j53:Int)=(↑((0:Nat)):Int) + x52→j53<List.length x2.2.2.2.2.2.2.1∧∀ (z54:Int),z54=U.fi x2.2.2.2.2.2.2.1 j53 ((0:Nat))→∀ (z55:Int),z55=U.fi x2.2.2.2.2.2.2.1 j53 ((0:Nat) + (1:Nat))→∀ (z56:Int),z56=U.fi x2.2.2.2.2.2.2.1 j53 ((0:Nat) + (1:Nat) + (1:Nat))→∀ (z57:Int),z57=U.fi x2.2.2.2.2.2.2.1 j53 ((0:Nat) + (1:Nat) + (1:Nat) + (1:Nat))→∀ (z58:List Int),z58=U.fs x2.2.2.2.2.2.2.1 j53 ((0:Nat) + (1:Nat) + (1:Nat) + (1:Nat) + (1:Nat))→∀ (z59:List Int),z59=U.fs x2.2.2.2.2.2.2.1 j53 ((0:Nat) + (1:Nat) + (1:Nat) + (1:Nat) + (1:Nat) + (1:Nat))→∀ (z60:Int),z60=U.fi x2.2.2.2.2.2.2.1 j53 ((0:Nat) + (1:Nat) + (1:Nat) + (1:Nat) + (1:Nat) + (1:Nat) + (1:Nat))→(z56=s0∧z57=s1∧True→(z54=mac→(z55=ip→(¬z59=[]→∀ (z61:Int),z61=IntKind.wrap .i64 (x52 + (1:Int))→∃ (y62:Int),mac=mac∧ip=ip∧e49=e49∧true=true∧((0:Nat)=0∧x2.2.2.2.2.2.2.2.1=x2.2.2.2.2.2.2.2.1∧x2.2.2.2.2.2.2.2.2=x2.2.2.2.2.2.2.2.2)∧z50=z50∧z61=y62∧s0=s0∧s1=s1∧((0:Nat)=0∧x2.2.1=x2.2.1∧x2.2.2.1=x2.2.2.1)∧((0:Nat)=0∧x2.2.1=x2.2.1∧x2.2.2.2.2.1=x2.2.2.2.2.1)∧(64:Int)=64∧v042=v042∧v143=v143∧v244=v244∧v345=v345∧v446=v446∧v547=v547∧v648=v648∧(A=A∧(0:Nat)=0∧true=true)∧(x2.2.2.2.1=x2.2.2.2.1∧x2.2.2.1=x2.2.2.1∧false=false)∧(x2.2.2.2.2.2.1=x2.2.2.2.2.2.1∧x2.2.2.2.2.1=x2.2.2.2.2.1∧false=false)∧(x2.2.2.2.2.2.2.1=x2.2.2.2.2.2.2.1∧x2.2.2.2.2.2.2.2.2=x2.2.2.2.2.2.2.2.2∧false=false)∧U.jtI x2.2.2.2.2.2.2.1 x2.2.2.2.2.2.2.2.1 s0 s1 mac ip ((1:Nat)) y62∧Int.toNat (↑x2.2.2.2.2.2.2.2.1:Int) - Int.toNat y62<Int.toNat (↑x2.2.2.2.2.2.2.2.1:Int) - Int.toNat x52)∧(¬¬z59=[]→∀ (z63:Int),z63=IntKind.wrap .i64 (x52 + (1:Int))→∃ (y64:Int),mac=mac∧ip=ip∧e49=e49∧false=false∧((0:Nat)=0∧x2.2.2.2.2.2.2.2.1=x2.2.2.2.2.2.2.2.1∧x2.2.2.2.2.2.2.2.2=x2.2.2.2.2.2.2.2.2)∧z50=z50∧z63=y64∧s0=s0∧s1=s1∧((0:Nat)=0∧x2.2.1=x2.2.1∧x2.2.2.1=x2.2.2.1)∧((0:Nat)=0∧x2.2.1=x2.2.1∧x2.2.2.2.2.1=x2.2.2.2.2.1)∧(64:Int)=64∧v042=v042∧v143=v143∧v244=v244∧v345=v345∧v446=v446∧v547=v547∧v648=v648∧(A=A∧(0:Nat)=0∧true=true)∧(x2.2.2.2.1=x2.2.2.2.1∧x2.2.2.1=x2.2.2.1∧false=false)∧(x2.2.2.2.2.2.1=x2.2.2.2.2.2.1∧x2.2.2.2.2.1=x2.2.2.2.2.1∧false=false)∧(x2.2.2.2.2.2.2.1=x2.2.2.2.2.2.2.1∧x2.2.2.2.2.2.2.2.2=x2.2.2.2.2.2.2.2.2∧false=false)∧U.jtI x2.2.2.2.2.2.2.1 x2.2.2.2.2.2.2.2.1 s0 s1 mac ip ((0:Nat)) y64∧Int.toNat (↑x2.2.2.2.2.2.2.2.1:Int) - Int.toNat y64<Int.toNat (↑x2.2.2.2.2.2.2.2.1:Int) - Int.toNat x52))∧(¬z55=ip→∀ (z65:Int),z65=IntKind.wrap .i64 (x52 + (1:Int))→∃ (y66:Int),mac=mac∧ip=ip∧e49=e49∧false=false∧((0:Nat)=0∧x2.2.2.2.2.2.2.2.1=x2.2.2.2.2.2.2.2.1∧x2.2.2.2.2.2.2.2.2=x2.2.2.2.2.2.2.2.2)∧z50=z50∧z65=y66∧s0=s0∧s1=s1∧((0:Nat)=0∧x2.2.1=x2.2.1∧x2.2.2.1=x2.2.2.1)∧((0:Nat)=0∧x2.2.1=x2.2.1∧x2.2.2.2.2.1=x2.2.2.2.2.1)∧(64:Int)=64∧v042=v042∧v143=v143∧v244=v244∧v345=v345∧v446=v446∧v547=v547∧v648=v648∧(A=A∧(0:Nat)=0∧true=true)∧(x2.2.2.2.1=x2.2.2.2.1∧x2.2.2.1=x2.2.2.1∧false=false)∧(x2.2.2.2.2.2.1=x2.2.2.2.2.2.1∧x2.2.2.2.2.1=x2.2.2.2.2.1∧false=false)∧(x2.2.2.2.2.2.2.1=x2.2.2.2.2.2.2.1∧x2.2.2.2.2.2.2.2.2=x2.2.2.2.2.2.2.2.2∧false=false)∧U.jtI x2.2.2.2.2.2.2.1 x2.2.2.2.2.2.2.2.1 s0 s1 mac ip ((0:Nat)) y66∧Int.toNat (↑x2.2.2.2.2.2.2.2.1:Int) - Int.toNat y66<Int.toNat (↑x2.2.2.2.2.2.2.2.1:Int) - Int.toNat x52))∧(¬z54=mac→∀ (z67:Int),z67=IntKind.wrap .i64 (x52 + (1:Int))→∃ (y68:Int),mac=mac∧ip=ip∧e49=e49∧false=false∧((0:Nat)=0∧x2.2.2.2.2.2.2.2.1=x2.2.2.2.2.2.2.2.1∧x2.2.2.2.2.2.2.2.2=x2.2.2.2.2.2.2.2.2)∧z50=z50∧z67=y68∧s0=s0∧s1=s1∧((0:Nat)=0∧x2.2.1=x2.2.1∧x2.2.2.1=x2.2.2.1)∧((0:Nat)=0∧x2.2.1=x2.2.1∧x2.2.2.2.2.1=x2.2.2.2.2.1)∧(64:Int)=64∧v042=v042∧v143=v143∧v244=v244∧v345=v345∧v446=v446∧v547=v547∧v648=v648∧(A=A∧(0:Nat)=0∧true=true)∧(x2.2.2.2.1=x2.2.2.2.1∧x2.2.2.1=x2.2.2.1∧false=false)∧(x2.2.2.2.2.2.1=x2.2.2.2.2.2.1∧x2.2.2.2.2.1=x2.2.2.2.2.1∧false=false)∧(x2.2.2.2.2.2.2.1=x2.2.2.2.2.2.2.1∧x2.2.2.2.2.2.2.2.2=x2.2.2.2.2.2.2.2.2∧false=false)∧U.jtI x2.2.2.2.2.2.2.1 x2.2.2.2.2.2.2.2.1 s0 s1 mac ip ((0:Nat)) y68∧Int.toNat (↑x2.2.2.2.2.2.2.2.1:Int) - Int.toNat y68<Int.toNat (↑x2.2.2.2.2.2.2.2.1:Int) - Int.toNat x52))∧(¬(z56=s0∧z57=s1∧True)→∀ (z69:Int),z69=IntKind.wrap .i64 (x52 + (1:Int))→∃ (y70:Int),mac=mac∧ip=ip∧e49=e49∧false=false∧((0:Nat)=0∧x2.2.2.2.2.2.2.2.1=x2.2.2.2.2.2.2.2.1∧x2.2.2.2.2.2.2.2.2=x2.2.2.2.2.2.2.2.2)∧z50=z50∧z69=y70∧s0=s0∧s1=s1∧((0:Nat)=0∧x2.2.1=x2.2.1∧x2.2.2.1=x2.2.2.1)∧((0:Nat)=0∧x2.2.1=x2.2.1∧x2.2.2.2.2.1=x2.2.2.2.2.1)∧(64:Int)=64∧v042=v042∧v143=v143∧v244=v244∧v345=v345∧v446=v446∧v547=v547∧v648=v648∧(A=A∧(0:Nat)=0∧true=true)∧(x2.2.2.2.1=x2.2.2.2.1∧x2.2.2.1=x2.2.2.1∧false=false)∧(x2.2.2.2.2.2.1=x2.2.2.2.2.2.1∧x2.2.2.2.2.1=x2.2.2.2.2.1∧false=false)∧(x2.2.2.2.2.2.2.1=x2.2.2.2.2.2.2.1∧x2.2.2.2.2.2.2.2.2=x2.2.2.2.2.2.2.2.2∧false=false)∧U.jtI x2.2.2.2.2.2.2.1 x2.2.2.2.2.2.2.2.1 s0 s1 mac ip ((0:Nat)) y70∧Int.toNat (↑x2.2.2.2.2.2.2.2.1:Int) - Int.toNat y70<Int.toNat (↑x2.2.2.2.2.2.2.2.1:Int) - Int.toNat x52))∧(¬x52<z50→(e49=0→Err [(200:Nat)])∧(¬e49=0→(¬e49=0→True)∧(¬¬e49=0→(v042=mac→(v143=ip→(v244=s0∧v345=s1∧True→(U.Nm v547→(U.Nm v446→True)∧(¬U.Nm v446→Err [(200:Nat)]))∧(¬U.Nm v547→Err [(200:Nat)]))∧(¬(v244=s0∧v345=s1∧True)→Err [(200:Nat)]))∧(¬v143=ip→Err [(200:Nat)]))∧(¬v042=mac→Err [(200:Nat)])))))∧∀ (x71:Int),U.jtI x2.2.2.2.2.2.2.1 x2.2.2.2.2.2.2.2.1 s0 s1 mac ip (1:Nat) x71→(x71<z50→(0≤x71∧x71<(↑x2.2.2.2.2.2.2.2.1:Int))∧∀ (j72:Nat),(↑j72:Int)=(↑((0:Nat)):Int) + x71→j72<List.length x2.2.2.2.2.2.2.1∧∀ (z73:Int),z73=U.fi x2.2.2.2.2.2.2.1 j72 ((0:Nat))→∀ (z74:Int),z74=U.fi x2.2.2.2.2.2.2.1 j72 ((0:Nat) + (1:Nat))→∀ (z75:Int),z75=U.fi x2.2.2.2.2.2.2.1 j72 ((0:Nat) + (1:Nat) + (1:Nat))→∀ (z76:Int),z76=U.fi x2.2.2.2.2.2.2.1 j72 ((0:Nat) + (1:Nat) + (1:Nat) + (1:Nat))→∀ (z77:List Int),z77=U.fs x2.2.2.2.2.2.2.1 j72 ((0:Nat) + (1:Nat) + (1:Nat) + (1:Nat) + (1:Nat))→∀ (z78:List Int),z78=U.fs x2.2.2.2.2.2.2.1 j72 ((0:Nat) + (1:Nat) + (1:Nat) + (1:Nat) + (1:Nat) + (1:Nat))→∀ (z79:Int),z79=U.fi x2.2.2.2.2.2.2.1 j72 ((0:Nat) + (1:Nat) + (1:Nat) + (1:Nat) + (1:Nat) + (1:Nat) + (1:Nat))→∀ (z80:Int),z80=IntKind.wrap .i64 (x71 + (1:Int))→∃ (y81:Int),mac=mac∧ip=ip∧e49=e49∧true=true∧((0:Nat)=0∧x2.2.2.2.2.2.2.2.1=x2.2.2.2.2.2.2.2.1∧x2.2.2.2.2.2.2.2.2=x2.2.2.2.2.2.2.2.2)∧z50=z50∧z80=y81∧s0=s0∧s1=s1∧((0:Nat)=0∧x2.2.1=x2.2.1∧x2.2.2.1=x2.2.2.1)∧((0:Nat)=0∧x2.2.1=x2.2.1∧x2.2.2.2.2.1=x2.2.2.2.2.1)∧(64:Int)=64∧v042=v042∧v143=v143∧v244=v244∧v345=v345∧v446=v446∧v547=v547∧v648=v648∧(A=A∧(0:Nat)=0∧true=true)∧(x2.2.2.2.1=x2.2.2.2.1∧x2.2.2.1=x2.2.2.1∧false=false)∧(x2.2.2.2.2.2.1=x2.2.2.2.2.2.1∧x2.2.2.2.2.1=x2.2.2.2.2.1∧false=false)∧(x2.2.2.2.2.2.2.1=x2.2.2.2.2.2.2.1∧x2.2.2.2.2.2.2.2.2=x2.2.2.2.2.2.2.2.2∧false=false)∧U.jtI x2.2.2.2.2.2.2.1 x2.2.2.2.2.2.2.2.1 s0 s1 mac ip ((1:Nat)) y81∧Int.toNat (↑x2.2.2.2.2.2.2.2.1:Int) - Int.toNat y81<Int.toNat (↑x2.2.2.2.2.2.2.2.1:Int) - Int.toNat x71)∧(¬x71<z50→(e49=0→(¬e49=0→True)∧(¬¬e49=0→(v042=mac→(v143=ip→(v244=s0∧v345=s1∧True→(U.Nm v547→(U.Nm v446→True)∧(¬U.Nm v446→Err [(200:Nat)]))∧(¬U.Nm v547→Err [(200:Nat)]))∧(¬(v244=s0∧v345=s1∧True)→Err [(200:Nat)]))∧(¬v143=ip→Err [(200:Nat)]))∧(¬v042=mac→Err [(200:Nat)])))∧(¬e49=0→Err [(200:Nat)])))) := by kernel_rfl
end Go.Proofs.Ytgopjjimafcgjaa
end

section
set_option linter.unusedVariables false
set_option linter.unusedSimpArgs false
set_option maxRecDepth 10000
namespace Go.Proofs.Ytgopjjimafcgjaa
open Go Reck Ost
theorem call_trueB {R : Orc} (hC : ConOk Try.prog R) {n f : Nat} {args : List AV} {σ : St} (h : goT Try.prog [] R (opMB Try.prog) n (.inr (.inr (.inr (.inr f)))) args σ isTrue)
    {w0 w : World} {e : Env} (hk : Ok w0 e σ w) {vs : List Value} (hvs : args.map (Reck.av e) = vs.map some) : Calls Try.prog f vs.toArray w fun en w' => en = .returned (.bool true) ∧ Only e.S w0 w' :=
  true_ok (ovs_of noOv) (names_of names) (opMB_ok Try.prog) hC h hk hvs
theorem jht_row {P : JBP} {m : Nat} {s0 s1 mac ip : Int} {p : Int × JBv} (hp : P[m]? = some p) : U.jHt (U.jbvs P) m s0 s1 mac ip ↔ (p.2.v2 = s0 ∧ p.2.v3 = s1 ∧ p.2.v0 = mac ∧ p.2.v1 = ip ∧ ¬ p.2.v5 = []) := by
  obtain ⟨f0, f1, f2, f3, f4, f5, f6⟩ := jb_fi hp
  constructor
  · rintro ⟨h⟩
    rwa [f0, f1, f2, f3, f5] at h
  · intro h
    exact ⟨by rw [f0, f1, f2, f3, f5]; exact h⟩
theorem jck_hit {P : JBP} (hI : U.jI P) (hs : U.jbSrt P) {s0 s1 mac ip e : Int} {v : JBv} (h : U.jCk P s0 s1 mac ip v e) {m : Nat} (hm : m < P.length) (ht : U.jHt (U.jbvs P) m s0 s1 mac ip) : e = 0 := by
  have hp := List.getElem?_eq_getElem hm
  obtain ⟨a, b, c, d, f⟩ := (jht_row hp).1 ht
  exact (jck_fun hI hs h ⟨.inl ⟨P[m].1, P[m].2, List.getElem_mem hm, ⟨a, b⟩, .inr ⟨⟨c, d⟩, rfl, .inr ⟨f, rfl⟩⟩⟩⟩).2
theorem jck_zero {P : JBP} (hI : U.jI P) {s0 s1 mac ip e : Int} {v : JBv} (h : U.jCk P s0 s1 mac ip v e) (he : e = 0) : (∃ m, m < P.length ∧ U.jHt (U.jbvs P) m s0 s1 mac ip) ∧ v.v0 = mac ∧ v.v1 = ip ∧ (v.v2 = s0 ∧ v.v3 = s1) ∧ U.Nm v.v5 ∧ U.Nm v.v4 := by
  rcases h.out with ⟨k, w, hm, hp, ⟨_, _, h⟩ | ⟨a, rfl, ⟨_, h⟩ | ⟨b, _⟩⟩⟩ | ⟨_, _, h⟩
  · omega
  · omega
  · obtain ⟨m, hx⟩ := List.getElem?_of_mem hm
    have g := (hI.wf _ _ hm).2
    exact ⟨⟨m, (List.getElem?_eq_some_iff.1 hx).1, (jht_row hx).2 ⟨hp.1, hp.2, a.1, a.2, b⟩⟩, a.1, a.2, hp, g.user.elim (fun h => (b h).elim) id, g.host⟩
  · omega
set_option maxHeartbeats 8000000 in
theorem bindSpoof_run (A : List (List CV)) (s c0 : Nat) (s0 s1 mac ip : Int) (hA : s = A.length) (hs : s ≤ 9223372036854775807) : runB (invJT s0 s1 mac ip) tJl 4 [cell (rslC ⟨0, 12, 0, s, c0⟩), plA s0 s1, xi .u64 mac, xi .u32 ip] ⟨[], [], 0, [some (jopB A)], 0⟩ := by
  rw [bindSpoof_vc]
  intro z0 h0
  refine ⟨?_, ?_⟩
  · refine ⟨(0, (0, (0, ([], (0, ([], ([], (0, 0)))))))), ?_⟩
    repeat' (first | exact rfl | with_reducible apply And.intro)
    exact ⟨by dsimp only; omega, ⟨[], jb_nil, jrw_nil⟩⟩
  rintro ⟨i, n, c, L, d, M, W, w, cw⟩ hI
  obtain ⟨i0, hW⟩ := hI
  dsimp only at i0 hW ⊢
  refine ⟨fun hlt => ⟨⟨i0, by omega⟩, fun j hj => ⟨by omega, fun z4 _ z5 _ z6 _ z7 _ z8 _ z9 _ z10 _ z11 _ z12 _ z13 _ z14 _ z15 _ => ⟨fun h50 a16 b17 d18 _ _ _ => ⟨by repeat' (first | exact rfl | exact hW | with_reducible apply And.intro), fun z h => ?_, fun n' L' M' W' w' cw' hW' z h => ?_, fun n' c' L' d' M' W' w' cw' hW' z h => ?_⟩, fun h50 z h => ?_⟩⟩⟩, fun hge => ?_⟩
  · have e := iw h (by omega)
    refine ⟨(z, (n, (c, (L, (d, (M, (W, (w, cw)))))))), ?_⟩
    repeat' (first | exact rfl | with_reducible apply And.intro)
    · exact ⟨by dsimp only; omega, hW⟩
    · dsimp only; omega
  · have e := iw h (by omega)
    refine ⟨(z, (n', (c, (L', (d, (M', (W', (w', cw')))))))), ?_⟩
    repeat' (first | exact rfl | with_reducible apply And.intro)
    · exact ⟨by dsimp only; omega, hW'⟩
    · dsimp only; omega
  · have e := iw h (by omega)
    refine ⟨(z, (n', (c', (L', (d', (M', (W', (w', cw')))))))), ?_⟩
    repeat' (first | exact rfl | with_reducible apply And.intro)
    · exact ⟨by dsimp only; omega, hW'⟩
    · dsimp only; omega
  · have e := iw h (by omega)
    refine ⟨(z, (n, (c, (L, (d, (M, (W, (w, cw)))))))), ?_⟩
    repeat' (first | exact rfl | with_reducible apply And.intro)
    · exact ⟨by dsimp only; omega, hW⟩
    · dsimp only; omega
  · obtain ⟨P, hJ, hR⟩ := hW
    have hn := jb_n hJ
    have hvl := jvs_len P
    have hwl := hR.ln
    have hWe := hR.eq
    refine ⟨P, ⟨by repeat' (first | exact rfl | with_reducible apply And.intro), hJ⟩, fun v0 v1 v2 v3 v4 v5 v6 e hC z50 h50 => ⟨?_, ?_, ?_⟩⟩
    · refine ⟨0, ?_⟩
      repeat' (first | exact rfl | with_reducible apply And.intro)
      exact ⟨⟨by omega, by omega⟩, fun _ m hm => by omega, fun h => by cases h⟩
    · intro x hx
      obtain ⟨x1, x2⟩ := hx.out
      subst hWe
      have nx : ∀ z : Int, z = x + 1 → x < w → ∀ j : Nat, (j : Int) = x → ¬ U.jHt (U.jbvs P) j s0 s1 mac ip → U.jtI (U.jbvs P) w s0 s1 mac ip 0 z := by
        intro z hz hw j hj hno
        refine ⟨⟨by omega, by omega⟩, fun _ m hm => ?_, fun h => (by cases h)⟩
        by_cases em : m = j
        · subst em; exact hno
        · exact hx.no rfl m (by omega)
      have ny : ∀ z : Int, z = x + 1 → x < w → ∀ j : Nat, (j : Int) = x → U.jHt (U.jbvs P) j s0 s1 mac ip → U.jtI (U.jbvs P) w s0 s1 mac ip 1 z := by
        intro z hz hw j hj hyes
        exact ⟨⟨by omega, by omega⟩, fun h => (by cases h), fun _ => ⟨j, by omega, hyes⟩⟩
      refine ⟨fun hi => ⟨⟨by omega, by omega⟩, fun j hj => ⟨by omega, fun y0 g0 y1 g1 y2 g2 y3 g3 y4 g4 y5 g5 y6 g6 => ?_⟩⟩, fun hi => ?_⟩
      · refine ⟨fun a => ⟨fun b => ⟨fun f => ⟨fun k => ?_, fun k => ?_⟩, fun f => ?_⟩, fun b => ?_⟩, fun a => ?_⟩
        · intro z h
          have ez := iw h (by omega)
          have hN := ny z ez (by omega) j (by omega) ⟨⟨g2.symm.trans a.1, g3.symm.trans a.2.1, g0.symm.trans b, g1.symm.trans f, by rw [← g5]; exact k⟩⟩
          refine ⟨z, ?_⟩
          repeat' (first | exact rfl | exact hN | with_reducible apply And.intro)
          omega
        all_goals
          intro z h
          have ez := iw h (by omega)
          have hN := nx z ez (by omega) j (by omega) (fun hh => by
            have q := hh.out
            rw [← g0, ← g1, ← g2, ← g3, ← g5] at q
            first
              | exact k q.2.2.2.2
              | exact q.2.2.2.2 (Classical.not_not.1 k)
              | exact f q.2.2.2.1
              | exact b q.2.2.1
              | exact a ⟨q.1, q.2.1, trivial⟩)
          refine ⟨z, ?_⟩
          repeat' (first | exact rfl | exact hN | with_reducible apply And.intro)
          omega
      · have hall : ∀ m, m < P.length → ¬ U.jHt (U.jbvs P) m s0 s1 mac ip := fun m hm => hx.no rfl m (by omega)
        refine ⟨fun he => ?_, fun he => ⟨fun _ => trivial, fun h => (h he).elim⟩⟩
        obtain ⟨⟨m, hm, ht⟩, _⟩ := jck_zero hJ.i hC he
        exact (hall m hm ht).elim
    · intro x hx
      obtain ⟨x1, x2⟩ := hx.out
      refine ⟨fun hi => ⟨⟨by omega, by omega⟩, fun j hj => ⟨by rw [hWe]; omega, fun y0 g0 y1 g1 y2 g2 y3 g3 y4 g4 y5 g5 y6 g6 z h => ?_⟩⟩, fun hi => ?_⟩
      · have ez := iw h (by omega)
        have hN : U.jtI W w s0 s1 mac ip 1 z := ⟨⟨by omega, by omega⟩, fun h => (by cases h), fun _ => hx.yes rfl⟩
        refine ⟨z, ?_⟩
        repeat' (first | exact rfl | exact hN | with_reducible apply And.intro)
        omega
      · obtain ⟨m, hm, ht⟩ := hx.yes rfl
        subst hWe
        have he := jck_hit hJ.i hJ.s.srt hC (show m < P.length by omega) ht
        obtain ⟨_, b0, b1, b2, b3, b4⟩ := jck_zero hJ.i hC he
        exact ⟨fun _ => ⟨fun h => (h he).elim, fun _ => ⟨fun _ => ⟨fun _ => ⟨fun _ => ⟨fun _ => ⟨fun _ => trivial, fun h => (h b4).elim⟩, fun h => (h b3).elim⟩, fun h => (h ⟨b2.1, b2.2, trivial⟩).elim⟩, fun h => (h b1).elim⟩, fun h => (h b0).elim⟩⟩, fun h => (h he).elim⟩
theorem open_ops {H : Type} {enc : TypeId × Value → H} {W : World} {held : Bool} {A : Option Addr} {len cap : Nat} {d : DataW H} {p : List MemPlace} (h : DataW.Trod enc Try.prog W 0 (fun _ => true) held 22 (.slice A len cap) d p) : ∃ R, CameR opKs W A len cap R := by
  obtain ⟨fuel, hf⟩ := h
  exact open_rowsN (D := 12) (ks := opKs) Try.underlying22 (by kernel_rfl) (by kernel_rfl) (by decide) hf
theorem came_ok {w : World} {A : Option Addr} {len cap : Nat} {R : List (List CV)} (hR : CameR opKs w A len cap R) : len = R.length ∧ len ≤ 9223372036854775807 ∧ ∃ q, Ok w (arE [q]) (arS [jopB R]) w ∧ Reck.av (arE [q]) (cell (rslC ⟨0, 12, 0, len, cap⟩)) = some (.slice A len cap) := by
  obtain ⟨q, h1, h2⟩ := hR.base (by decide) 33
  have hl : len ≤ 9223372036854775807 := by
    have a := hR.2.1
    have b := hR.2.2.1
    have : maxLen ≤ 9223372036854775807 := by decide
    omega
  have hok : Ok w (arE [q]) (arS [jopB R]) w := ok_arrs w (l := [jopB R]) (bs := [q]) rfl (by simp [jopB]) (by
    intro i x q' hx hq
    cases i with
    | zero => simp at hx hq; subst hx; subst hq; exact h2 _ rfl
    | succ i => simp at hx)
  exact ⟨hR.1.symm, hl, q, hok, h1 (arE [q]) 0 rfl⟩
end Go.Proofs.Ytgopjjimafcgjaa
end

section
set_option linter.unusedVariables false
set_option linter.unusedSimpArgs false
set_option maxRecDepth 100000
namespace Go.Proofs.Ytgopjjimafcgjaa
open Go Reck Go.ChangeShapes Go.WideShapes Go.Deep

structure PlI where
  (a b : Int)
def PlI.val (s : PlI) : Value := .agg #[.int .i64 s.a, .int .i64 s.b]
def plZ : PlI := ⟨0, 0⟩
structure PlI.ok (s : PlI) (W : World) : Prop where
  wa : (Lit.int .i64 s.a).wf = true
  wb : (Lit.int .i64 s.b).wf = true
theorem pl_list {α : Type} : ∀ l : List α, l.length = 2 → ∃ x0 x1, l = [x0, x1]
  | [x0, x1], _ => ⟨x0, x1, rfl⟩
theorem pl_fld {H : Type} {enc : TypeId × Value → H} {P : Program} {w : World} {base : Nat} {spare : Nat → Bool} {held : Bool} {t : TypeId} {fs : Array Field} {fuel : Nat} {cs : List Value} {x : DataW H × List MemPlace} (ht : P.underlying t = some (.struct fs)) (hone : oneCellFields P fs = true) (hC : P.cellsOf t = fs.size)
    (h : DataW.trod enc P w base spare held fuel t cs = some x) : ∃ n, cs.length = fs.size ∧ ∀ (i : Nat) (f : Field), fs[i]? = some f → ∃ y, DataW.trod enc P w base spare held n f.type [cs.getD i undef] = some y := by
  obtain ⟨ys, n, _, _, hl, hyl, hfld⟩ := DataW.trod_struct ht h
  refine ⟨n, hl.trans hC, fun i f hi => ?_⟩
  have hlt : i < fs.size := (Array.getElem?_eq_some_iff.1 hi).1
  obtain ⟨ho, hc1⟩ := hone_of hone i f hi
  have e := hfld i f hi
  rw [ho, hc1, take1_drop _ i undef (by omega)] at e
  have hy : i < ys.length := by omega
  exact ⟨ys[i], by rw [← List.getElem?_eq_getElem hy, ← e]⟩
theorem open_pl {H : Type} {enc : TypeId × Value → H} {W : World} {b0 : Nat} {held : Bool} {v : Value} {d : DataW H} {p : List MemPlace} (hval : Value.okWide Try.prog W .any b0 29 v) (h : DataW.Trod enc Try.prog W 0 (fun _ => true) held 29 v d p) : ∃ s : PlI, v = s.val ∧ s.ok W := by
  obtain ⟨cs, rfl, hsz⟩ : ∃ cs, v = .agg cs ∧ cs.size = Try.prog.cellsOf 29 := by
    simp only [Value.okWide, Try.underlying29] at hval
    obtain ⟨cs, h1, h2, _⟩ := hval
    exact ⟨cs, h1, h2⟩
  have hC : Try.prog.cellsOf 29 = 2 := by kernel_rfl
  rw [hC] at hsz
  obtain ⟨fuel, hf⟩ := h
  have hf : DataW.trod enc Try.prog W 0 (fun _ => true) held fuel 29 cs.toList = some (d, p) := hf
  obtain ⟨x0, x1, hcs⟩ := pl_list cs.toList (by simpa using hsz)
  rw [hcs] at hf
  obtain ⟨n, _, g⟩ := pl_fld Try.underlying29 (by kernel_rfl) (by kernel_rfl) hf
  obtain rfl : cs = #[x0, x1] := by cases cs; simp_all
  clear hval hcs hf
  obtain ⟨y0, hy0⟩ := g 0 _ rfl
  obtain ⟨z0, e0, _, w0⟩ := DataW.trod_int Try.underlying3 hy0
  obtain rfl : x0 = .int .i64 z0 := (List.cons.inj e0).1
  obtain ⟨y1, hy1⟩ := g 1 _ rfl
  obtain ⟨z1, e1, _, w1⟩ := DataW.trod_int Try.underlying3 hy1
  obtain rfl : x1 = .int .i64 z1 := (List.cons.inj e1).1
  exact ⟨⟨z0, z1⟩, rfl, ⟨w0, w1⟩⟩
structure BdI where
  (z0 z1 z2 z3 : Int)
  (s4 s5 : ByteArray)
  z6 : Int
def BdI.val (s : BdI) : Value := .agg #[.int .u64 s.z0, .int .u32 s.z1, .int .i64 s.z2, .int .i64 s.z3, .string s.s4, .string s.s5, .int .i64 s.z6]
def bdZ : BdI := ⟨0, 0, 0, 0, ByteArray.empty, ByteArray.empty, 0⟩
structure BdI.ok (s : BdI) (W : World) : Prop where
  w0 : (Lit.int .u64 s.z0).wf = true
theorem bd_list {α : Type} : ∀ l : List α, l.length = 7 → ∃ x0 x1 x2 x3 x4 x5 x6, l = [x0, x1, x2, x3, x4, x5, x6]
  | [x0, x1, x2, x3, x4, x5, x6], _ => ⟨x0, x1, x2, x3, x4, x5, x6, rfl⟩
theorem bd_fld {H : Type} {enc : TypeId × Value → H} {P : Program} {w : World} {base : Nat} {spare : Nat → Bool} {held : Bool} {t : TypeId} {fs : Array Field} {fuel : Nat} {cs : List Value} {x : DataW H × List MemPlace} (ht : P.underlying t = some (.struct fs))
    (h : DataW.trod enc P w base spare held fuel t cs = some x) : ∀ (i : Nat) (f : Field) (k : Nat), fs[i]? = some f → P.cellsOf f.type = k → ∃ n y, DataW.trod enc P w base spare held n f.type ((cs.drop f.offset).take k) = some y := by
  obtain ⟨ys, n, _, _, hl, hyl, hfld⟩ := DataW.trod_struct ht h
  intro i f k hi hk
  have e := hfld i f hi
  rw [hk] at e
  have hy : i < ys.length := by rw [hyl]; exact (Array.getElem?_eq_some_iff.1 hi).1
  exact ⟨n, ys[i], by rw [← List.getElem?_eq_getElem hy, ← e]⟩
theorem open_bd {H : Type} {enc : TypeId × Value → H} {W : World} {b0 : Nat} {held : Bool} {v : Value} {d : DataW H} {p : List MemPlace} (hval : Value.okWide Try.prog W .any b0 31 v) (h : DataW.Trod enc Try.prog W 0 (fun _ => true) held 31 v d p) : ∃ s : BdI, v = s.val ∧ s.ok W := by
  obtain ⟨cs, rfl, hsz⟩ : ∃ cs, v = .agg cs ∧ cs.size = Try.prog.cellsOf 31 := by
    simp only [Value.okWide, Try.underlying31] at hval
    obtain ⟨cs, h1, h2, _⟩ := hval
    exact ⟨cs, h1, h2⟩
  have hC : Try.prog.cellsOf 31 = 7 := by kernel_rfl
  rw [hC] at hsz
  obtain ⟨fuel, hf⟩ := h
  have hf : DataW.trod enc Try.prog W 0 (fun _ => true) held fuel 31 cs.toList = some (d, p) := hf
  obtain ⟨x0, x1, x2, x3, x4, x5, x6, hcs⟩ := bd_list cs.toList (by simpa using hsz)
  rw [hcs] at hf
  have g := bd_fld Try.underlying31 hf
  obtain rfl : cs = #[x0, x1, x2, x3, x4, x5, x6] := by cases cs; simp_all
  clear hval hcs hf
  obtain ⟨n0, y0, hy0⟩ := g 0 _ 1 rfl (by kernel_rfl)
  have hy0 : DataW.trod enc Try.prog W 0 (fun _ => true) held n0 26 [x0] = some y0 := hy0
  obtain ⟨z0, e0, _, w0⟩ := DataW.trod_int Try.underlying26 hy0
  obtain rfl : x0 = .int .u64 z0 := (List.cons.inj e0).1
  obtain ⟨n1, y1, hy1⟩ := g 1 _ 1 rfl (by kernel_rfl)
  have hy1 : DataW.trod enc Try.prog W 0 (fun _ => true) held n1 27 [x1] = some y1 := hy1
  obtain ⟨z1, e1, _, w1⟩ := DataW.trod_int Try.underlying27 hy1
  obtain rfl : x1 = .int .u32 z1 := (List.cons.inj e1).1
  obtain ⟨nk, yk, hk⟩ := g 2 _ 2 rfl (by kernel_rfl)
  have hk : DataW.trod enc Try.prog W 0 (fun _ => true) held nk 29 [x2, x3] = some yk := hk
  obtain ⟨nn, _, gk⟩ := pl_fld Try.underlying29 (by kernel_rfl) (by kernel_rfl) hk
  obtain ⟨y2, hy2⟩ := gk 0 _ rfl
  obtain ⟨z2, e2, _, w2⟩ := DataW.trod_int Try.underlying3 hy2
  obtain rfl : x2 = .int .i64 z2 := (List.cons.inj e2).1
  obtain ⟨y3, hy3⟩ := gk 1 _ rfl
  obtain ⟨z3, e3, _, w3⟩ := DataW.trod_int Try.underlying3 hy3
  obtain rfl : x3 = .int .i64 z3 := (List.cons.inj e3).1
  obtain ⟨n4, y4, hy4⟩ := g 3 _ 1 rfl (by kernel_rfl)
  have hy4 : DataW.trod enc Try.prog W 0 (fun _ => true) held n4 9 [x4] = some y4 := hy4
  obtain ⟨z4, e4, _, w4⟩ := DataW.trod_string Try.underlying9 hy4
  obtain rfl : x4 = .string z4 := (List.cons.inj e4).1
  obtain ⟨n5, y5, hy5⟩ := g 4 _ 1 rfl (by kernel_rfl)
  have hy5 : DataW.trod enc Try.prog W 0 (fun _ => true) held n5 9 [x5] = some y5 := hy5
  obtain ⟨z5, e5, _, w5⟩ := DataW.trod_string Try.underlying9 hy5
  obtain rfl : x5 = .string z5 := (List.cons.inj e5).1
  obtain ⟨n6, y6, hy6⟩ := g 5 _ 1 rfl (by kernel_rfl)
  have hy6 : DataW.trod enc Try.prog W 0 (fun _ => true) held n6 2 [x6] = some y6 := hy6
  obtain ⟨z6, e6, _, w6⟩ := DataW.trod_int Try.underlying2 hy6
  obtain rfl : x6 = .int .i64 z6 := (List.cons.inj e6).1
  exact ⟨⟨z0, z1, z2, z3, z4, z5, z6⟩, rfl, ⟨w0⟩⟩
def bz (s : ByteArray) : List Int := s.data.toList.map fun b => (b.toNat : Int)
theorem bz_cv (s : ByteArray) (e : Env) : Reck.cv e (strC (bz s)) = some (.string s) := by
  have h := strC_av (byteZ_lit s) e
  rw [strZ_lit] at h
  exact h
theorem bd_av (s : BdI) (e : Env) : Reck.av e (.inl (.inr (jbC s.z0 s.z1 s.z2 s.z3 (bz s.s4) (bz s.s5) s.z6))) = some s.val := by
  have h2 : ∀ k z, Reck.cv e (xintC k z) = some (.int k z) := fun _ _ => rfl
  simp only [Reck.av, Reck.v1, jbC, List.map_cons, List.map_nil, bz_cv, h2, BdI.val]
  rfl
theorem pl_av (s : PlI) (e : Env) : Reck.av e (plA s.a s.b) = some s.val := rfl
end Go.Proofs.Ytgopjjimafcgjaa
end

section
set_option linter.unusedVariables false
set_option linter.unusedSimpArgs false
set_option maxRecDepth 10000
namespace Go.Proofs.Ytgopjjimafcgjaa
open Go Reck Ost
theorem bindSpoof_walk (A : Option Addr) (len cap : Nat) (R : List (List CV)) (s : PlI) (m ip : Int) (w : World) (hR : CameR opKs w A len cap R) (hs : s.ok w) (hm : (Lit.int .u64 m).wf = true) (hi : (Lit.int .u32 ip).wf = true) :
    Calls Try.prog 4 #[.slice A len cap, s.val, .int .u64 m, .int .u32 ip] w fun e w' => e = .returned (.bool true) ∧ Only (fun _ => False) w w' := by
  obtain ⟨h1, h2, q, h3, h4⟩ := came_ok hR
  exact call_trueB (conOk_ofR tJl_ok) (bindSpoof_run R len cap s.a s.b m ip h1 h2) h3 (vs := [.slice A len cap, s.val, .int .u64 m, .int .u32 ip]) (by
    simp only [List.map_cons, List.map_nil]
    rw [h4]; rfl)
end Go.Proofs.Ytgopjjimafcgjaa
end
