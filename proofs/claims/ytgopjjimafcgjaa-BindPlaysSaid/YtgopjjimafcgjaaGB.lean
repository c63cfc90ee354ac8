/- Parts of a proof, one behind the other: JM1 JM2 JB1 JB2 JB3. No condition. -/
import Derived.Test.YtgopjjimafcgjaaGA
section
namespace Go.Proofs.Ytgopjjimafcgjaa
open Go Reck
set_option linter.unusedVariables false
def U.NmB (i : Nat) (c : Int) : Prop := (97 ≤ c ∧ c ≤ 122) ∨ (i ≠ 0 ∧ 48 ≤ c ∧ c ≤ 57)
/-- A text that is a name. -/
structure U.Nm (l : List Int) : Prop where
  len : 1 ≤ l.length ∧ l.length ≤ 8
  all : ∀ i, i < l.length → U.NmB i (l.getD i 0)
structure U.NmI (l : List Int) (p : Nat) : Prop where
  len : p ≤ l.length
  all : ∀ i, i < p → U.NmB i (l.getD i 0)
structure U.NmJ (l : List Int) (z : Int) : Prop where
  out : ∃ p : Nat, z = p ∧ U.NmI l p
def iterS (tm : List AV) (t : Nat) (σ : St) : List Int :=
  match aptrX (tm.getD t (lit undef)) with
  | some (a, _) => match getObjX σ a with
    | some (.iter s _, _) => s
    | _ => []
  | none => []
def slotT (tm : List AV) (t : Nat) : List Int :=
  match strX (tm.getD t (lit undef)) with
  | some l => l
  | none => []
def nameInv (c : Code) (t : Nat) (tm : List AV) (σ : St) : Inv where
  X := Nat
  tags := [0]
  tag _ _ := 0
  J := wrBut [] c
  val _ _ := []
  st _ x σ' := match aptrX (tm.getD t (lit undef)) with
    | some (a, _) => setArr σ' a (some (obj (.iter (iterS tm t σ) x)))
    | none => σ'
  I _ x := U.NmI (iterS tm t σ) x
  m _ x := (iterS tm t σ).length - x
  ren := noRen
def rnameInv (c : Code) (tm : List AV) (σ : St) : Inv where
  X := Int
  tags := [0]
  tag _ _ := 0
  J := wrBut [3] c
  val _ x := [(3, xi .i64 x)]
  st _ _ σ' := σ'
  I _ x := U.NmJ (slotT tm 0) x
  m _ x := ((slotT tm 0).length - x).toNat
  ren := noRen
def invT1 : InvF := fun c tm σ => match tm.length, firstReg c with
  | 31, some 4 => some (nameInv c 14 tm σ)
  | 42, some 4 => some (rnameInv c tm σ)
  | _, _ => none
set_option maxRecDepth 100000
theorem name_vc (K:AV→St→Prop) (l:List Int):(runI invT1 tbl0 48 [cell (strC l)] emptySt K)=(∀ (z0:Int),z0=(↑(List.length l):Int)→(z0<1→K (lit (.bool false)) ⟨[],[],0,[],0⟩)∧(¬z0<1→∀ (z1:Int),z1=(↑(List.length l):Int)→(8<z1→K (lit (.bool false)) ⟨[],[],0,[],0⟩)∧(¬8<z1→(∃ (y2:Nat),l=l∧l=l∧z0=z0∧false=false∧false=false∧l=l∧z1=z1∧false=false∧false=false∧l=l∧(0:Nat)=0∧(l=l∧0=y2)∧U.NmI l y2)∧∀ (x3:Nat),U.NmI l x3→(x3<List.length l→∀ (i4 c5:Int) (n6 p7:Nat),i4=(↑x3:Int)→RuneAt l x3 c5 n6→p7=x3 + n6→(97≤c5→(c5≤122→∃ (y8:Nat),l=l∧l=l∧z0=z0∧false=false∧false=false∧l=l∧z1=z1∧false=false∧false=false∧l=l∧(0:Nat)=0∧(l=l∧p7=y8)∧U.NmI l y8∧List.length l - y8<List.length l - x3)∧(¬c5≤122→(i4=0→K (lit (.bool false)) ⟨[],[],0,[],0⟩)∧(¬i4=0→(48≤c5→(c5≤57→∃ (y9:Nat),l=l∧l=l∧z0=z0∧false=false∧false=false∧l=l∧z1=z1∧false=false∧false=false∧l=l∧(0:Nat)=0∧(l=l∧p7=y9)∧U.NmI l y9∧List.length l - y9<List.length l - x3)∧(¬c5≤57→K (lit (.bool false)) ⟨[],[],0,[],0⟩))∧(¬48≤c5→K (lit (.bool false)) ⟨[],[],0,[],0⟩))))∧(¬97≤c5→(i4=0→K (lit (.bool false)) ⟨[],[],0,[],0⟩)∧(¬i4=0→(48≤c5→(c5≤57→∃ (y10:Nat),l=l∧l=l∧z0=z0∧false=false∧false=false∧l=l∧z1=z1∧false=false∧false=false∧l=l∧(0:Nat)=0∧(l=l∧p7=y10)∧U.NmI l y10∧List.length l - y10<List.length l - x3)∧(¬c5≤57→K (lit (.bool false)) ⟨[],[],0,[],0⟩))∧(¬48≤c5→K (lit (.bool false)) ⟨[],[],0,[],0⟩))))∧(¬x3<List.length l→K (lit (.bool true)) ⟨[],[],0,[],0⟩)))) := by kernel_rfl
theorem rname_vc (K:AV→St→Prop) (l:List Int):(runI invT1 tbl0 14 [cell (strC l)] emptySt K)=(∀ (z0:Int),z0=(↑(List.length l):Int)→(z0<1→K (lit (.bool false)) ⟨[],[],0,[],0⟩)∧(¬z0<1→∀ (z1:Int),z1=(↑(List.length l):Int)→(8<z1→K (lit (.bool false)) ⟨[],[],0,[],0⟩)∧(¬8<z1→(∃ (y2:Int),l=l∧0=y2∧l=l∧z0=z0∧false=false∧false=false∧l=l∧z1=z1∧false=false∧false=false∧U.NmJ l y2)∧∀ (x3:Int),U.NmJ l x3→∀ (z4:Int),z4=(↑(List.length l):Int)→(x3<z4→(0≤x3∧x3<(↑(List.length l):Int))∧∀ (z5:Int),z5=List.getD l (Int.toNat x3) (0:Int)→0≤z5→z5<256→(97≤z5→(z5≤122→∀ (z6:Int),z6=IntKind.wrap .i64 (x3 + (1:Int))→∃ (y7:Int),l=l∧z6=y7∧l=l∧z0=z0∧false=false∧false=false∧l=l∧z1=z1∧false=false∧false=false∧U.NmJ l y7∧Int.toNat ((↑(List.length l):Int) - y7)<Int.toNat ((↑(List.length l):Int) - x3))∧(¬z5≤122→(0<x3→(48≤z5→(z5≤57→∀ (z8:Int),z8=IntKind.wrap .i64 (x3 + (1:Int))→∃ (y9:Int),l=l∧z8=y9∧l=l∧z0=z0∧false=false∧false=false∧l=l∧z1=z1∧false=false∧false=false∧U.NmJ l y9∧Int.toNat ((↑(List.length l):Int) - y9)<Int.toNat ((↑(List.length l):Int) - x3))∧(¬z5≤57→K (lit (.bool false)) ⟨[],[],0,[],0⟩))∧(¬48≤z5→K (lit (.bool false)) ⟨[],[],0,[],0⟩))∧(¬0<x3→K (lit (.bool false)) ⟨[],[],0,[],0⟩)))∧(¬97≤z5→(0<x3→(48≤z5→(z5≤57→∀ (z10:Int),z10=IntKind.wrap .i64 (x3 + (1:Int))→∃ (y11:Int),l=l∧z10=y11∧l=l∧z0=z0∧false=false∧false=false∧l=l∧z1=z1∧false=false∧false=false∧U.NmJ l y11∧Int.toNat ((↑(List.length l):Int) - y11)<Int.toNat ((↑(List.length l):Int) - x3))∧(¬z5≤57→K (lit (.bool false)) ⟨[],[],0,[],0⟩))∧(¬48≤z5→K (lit (.bool false)) ⟨[],[],0,[],0⟩))∧(¬0<x3→K (lit (.bool false)) ⟨[],[],0,[],0⟩)))∧(¬x3<z4→K (lit (.bool true)) ⟨[],[],0,[],0⟩)))) := by kernel_rfl
end Go.Proofs.Ytgopjjimafcgjaa
end

section
set_option linter.unusedVariables false
set_option linter.unusedSimpArgs false
namespace Go.Proofs.Ytgopjjimafcgjaa
open Go Reck

theorem wrapI64 (n : Int) : IntKind.wrap .i64 n = (n + 9223372036854775808) % 18446744073709551616 - 9223372036854775808 := by
  simp [IntKind.wrap, IntKind.signed, IntKind.bits, Int.bmod]
  split <;> omega
theorem nmB_rune {l : List Int} {p n : Nat} {c : Int} (h : RuneAt l p c n) (hb : c < 128) : c = l.getD p 0 ∧ n = 1 := by
  by_cases hh : l.getD p 0 < 128
  · exact h.low hh
  · have := h.high (by omega); omega
theorem nmI_step {l : List Int} {p n q : Nat} {c : Int} (hI : U.NmI l p) (h : RuneAt l p c n) (hq : q = p + n) (hb : U.NmB p c) : U.NmI l q ∧ l.length - q < l.length - p := by
  obtain ⟨e1, e2⟩ := nmB_rune h (by rcases hb with hb | hb <;> omega)
  have := h.fits
  subst hq; subst e2
  refine ⟨⟨by omega, fun i hi => ?_⟩, by omega⟩
  by_cases hip : i = p
  · subst hip; rw [← e1]; exact hb
  · exact hI.all i (by omega)
theorem nm_no {l : List Int} {p n : Nat} {c : Int} (h : RuneAt l p c n) (hb : ¬ U.NmB p c) : ¬ U.Nm l := by
  intro hN
  have h2 := hN.all p (by have := h.fits; have := h.least; omega)
  by_cases hh : l.getD p 0 < 128
  · obtain ⟨e, _⟩ := h.low hh
    exact hb (e ▸ h2)
  · rcases h2 with h2 | h2 <;> omega
theorem name_run (K : AV → St → Prop) (l : List Int) (h1 : U.Nm l → K (lit (.bool true)) emptySt) (h2 : ¬ U.Nm l → K (lit (.bool false)) emptySt) : runI invT1 tbl0 48 [cell (strC l)] emptySt K := by
  rw [name_vc]
  intro z0 e0
  refine ⟨fun h => h2 fun hN => by have := hN.len; omega, fun g0 z1 e1 => ⟨fun h => h2 fun hN => by have := hN.len; omega, fun g1 => ⟨⟨0, ?_⟩, ?_⟩⟩⟩
  · have i0 : U.NmI l 0 := ⟨Nat.zero_le _, fun i hi => absurd hi (Nat.not_lt_zero _)⟩
    repeat' (first | exact rfl | exact i0 | with_reducible apply And.intro)
  · intro p hI
    refine ⟨fun hp i c n q hi hR hq => ?_, fun hp => h1 ⟨by omega, fun i hi => hI.all i (by omega)⟩⟩
    have yes : U.NmB p c → U.NmI l q ∧ l.length - q < l.length - p := fun hb => nmI_step hI hR hq hb
    have no : ¬ U.NmB p c → K (lit (.bool false)) emptySt := fun hb => h2 (nm_no hR hb)
    refine ⟨fun a1 => ⟨fun a2 => ⟨q, by have w := yes (.inl ⟨a1, a2⟩); repeat' (first | exact rfl | exact w.1 | exact w.2 | with_reducible apply And.intro)⟩, fun a2 => ⟨fun a3 => no ?_, fun a3 => ⟨fun a4 => ⟨fun a5 => ⟨q, by have w := yes (.inr ⟨by omega, a4, a5⟩); repeat' (first | exact rfl | exact w.1 | exact w.2 | with_reducible apply And.intro)⟩, fun a5 => no ?_⟩, fun a4 => no ?_⟩⟩⟩, fun a1 => ⟨fun a3 => no ?_, fun a3 => ⟨fun a4 => ⟨fun a5 => ⟨q, by have w := yes (.inr ⟨by omega, a4, a5⟩); repeat' (first | exact rfl | exact w.1 | exact w.2 | with_reducible apply And.intro)⟩, fun a5 => no ?_⟩, fun a4 => no ?_⟩⟩⟩
    all_goals (rintro (hb | hb) <;> omega)
theorem rname_run (K : AV → St → Prop) (l : List Int) (h1 : U.Nm l → K (lit (.bool true)) emptySt) (h2 : ¬ U.Nm l → K (lit (.bool false)) emptySt) : runI invT1 tbl0 14 [cell (strC l)] emptySt K := by
  rw [rname_vc]
  intro z0 e0
  refine ⟨fun h => h2 fun hN => by have := hN.len; omega, fun g0 z1 e1 => ⟨fun h => h2 fun hN => by have := hN.len; omega, fun g1 => ⟨⟨0, ?_⟩, ?_⟩⟩⟩
  · have i0 : U.NmJ l 0 := ⟨0, rfl, Nat.zero_le _, fun i hi => absurd hi (Nat.not_lt_zero _)⟩
    repeat' (first | exact rfl | exact i0 | with_reducible apply And.intro)
  · rintro x ⟨p, hx, hI⟩ z4 e4
    subst hx
    refine ⟨fun hp => ⟨⟨by omega, by omega⟩, fun z5 e5 b1 b2 => ?_⟩, fun hp => h1 ⟨by omega, fun i hi => hI.all i (by omega)⟩⟩
    rw [Int.toNat_natCast] at e5
    have hlt : p < l.length := by omega
    have yes : U.NmB p z5 → ∀ z : Int, z = IntKind.wrap IntKind.i64 ((p : Int) + 1) → U.NmJ l z ∧ Int.toNat ((l.length : Int) - z) < Int.toNat ((l.length : Int) - p) := fun hb z hz => by
      rw [wrapI64] at hz
      have hz : z = ((p + 1 : Nat) : Int) := by omega
      refine ⟨⟨p + 1, hz, by omega, fun i hi => ?_⟩, by omega⟩
      by_cases hip : i = p
      · subst hip; rw [← e5]; exact hb
      · exact hI.all i (by omega)
    have no : ¬ U.NmB p z5 → K (lit (.bool false)) emptySt := fun hb => h2 fun hN => hb (e5 ▸ hN.all p hlt)
    refine ⟨fun a1 => ⟨fun a2 => (fun z hz => ⟨z, by have q := yes (.inl ⟨a1, a2⟩) z hz; repeat' (first | exact rfl | exact q.1 | exact q.2 | with_reducible apply And.intro)⟩), fun a2 => ⟨fun a3 => ⟨fun a4 => ⟨fun a5 => (fun z hz => ⟨z, by have q := yes (.inr ⟨by omega, a4, a5⟩) z hz; repeat' (first | exact rfl | exact q.1 | exact q.2 | with_reducible apply And.intro)⟩), fun a5 => no ?_⟩, fun a4 => no ?_⟩, fun a3 => no ?_⟩⟩, fun a1 => ⟨fun a3 => ⟨fun a4 => ⟨fun a5 => (fun z hz => ⟨z, by have q := yes (.inr ⟨by omega, a4, a5⟩) z hz; repeat' (first | exact rfl | exact q.1 | exact q.2 | with_reducible apply And.intro)⟩), fun a5 => no ?_⟩, fun a4 => no ?_⟩, fun a3 => no ?_⟩⟩
    all_goals (rintro (hb | hb) <;> omega)
def tName : Tbl := fun f args σ => if f == 48 || f == 14 then match args, σ with
    | [x], ⟨[], [], 0, [], 0⟩ => match strX x with
      | some l => some fun K => (U.Nm l → K (lit (.bool true)) emptySt) ∧ (¬ U.Nm l → K (lit (.bool false)) emptySt)
      | none => none
    | _, _ => none
  else none
theorem strX_cell {e : Env} {x : AV} {l : List Int} (h : strX x = some l) {vs : List Value} (hv : [x].map (av e) = vs.map some) : [cell (strC l)].map (av e) = vs.map some := by
  cases vs with
  | nil => simp at hv
  | cons v vs =>
    simp only [List.map_cons, List.map_nil, List.cons.injEq] at hv ⊢
    obtain ⟨rfl, hb⟩ := strX_ok h hv.1
    exact ⟨strC_av hb e, hv.2⟩
theorem tName_ok : TblOk Try.prog tName := by
  intro f tm σ C h K hK
  unfold tName at h
  split at h
  · rename_i hf
    split at h
    · split at h
      · rename_i l hl
        simp only [Option.some.injEq] at h; subst h
        intro w0 en w hok vs hvs
        have hvs' := strX_cell hl hvs
        have hf : f = 48 ∨ f = 14 := by simpa using hf
        rcases hf with rfl | rfl
        · exact knownC noOv names (conOk_of tbl0_ok) (name_run K l hK.1 hK.2) w0 en w hok vs hvs'
        · exact knownC noOv names (conOk_of tbl0_ok) (rname_run K l hK.1 hK.2) w0 en w hok vs hvs'
      · cases h
    · cases h
  · cases h
end Go.Proofs.Ytgopjjimafcgjaa
end

section
namespace Go.Proofs.Ytgopjjimafcgjaa
open Go Reck Ost
set_option linter.unusedVariables false
set_option maxRecDepth 100000
abbrev jbov : List FuncId := [69, 71]
def jbkB (L : Rws) (cap : Nat) : ABlk := rowB 40 [.n .u64] L cap false
def jbvK : List CK := [.n .u64, .n .u32, .n .i64, .n .i64, .s, .s, .n .i64]
def jbC (v0 : Int) (v1 : Int) (v2 : Int) (v3 : Int) (v4 : List Int) (v5 : List Int) (v6 : Int) : List Cell := [xintC .u64 v0, xintC .u32 v1, xintC .i64 v2, xintC .i64 v3, strC v4, strC v5, xintC .i64 v6]
def jbR (v0 : Int) (v1 : Int) (v2 : Int) (v3 : Int) (v4 : List Int) (v5 : List Int) (v6 : Int) : List CV := [.i v0, .i v1, .i v2, .i v3, .s v4, .s v5, .i v6]
def jbvB (L : Rws) (cap : Nat) : ABlk := rowB 43 jbvK L cap false
--PLAIN
theorem jbinsK_vc (K:AV→St→Prop) (L:Rws) (n c:Nat) (i:Int) (k:Int):(runV jbov inv0 tbl0 59 [cell (rslC ⟨0,1,0,n,c⟩),xi .i64 i,sl ⟨0,0,1,none,1⟩] ⟨[some ⟨40,[xintC .u64 k],none,1,false⟩],[],0,[some (jbkB L c)],0⟩ K)=((0≤i∧i≤(↑n:Int)∧(↑n:Int)≤(↑c:Int))∧∀ (o0 n1 c2:Nat),((↑o0:Int)=if (↑c:Int)=Option.getD (some i) (0:Int) then (0:Int) else (0:Int) + i)→(↑n1:Int)=(↑n:Int) - i→(↑c2:Int)=(↑c:Int) - i→∀ (z3:Int),z3=(↑n:Int)→(i=z3→((0:Nat) + c≤List.length L∧(0:Nat) + c≤c)∧True∧n≤16777216∧(1:Nat)≤16777216∧∀ (L'4 T5:List (List CV)) (n'6 c'7:Nat),L'4=List.take n (List.take c (List.drop ((0:Nat)) L)) ++ [CV.i k] :: U.nilL ++ T5→n'6=n + (1:Nat)→n'6≤c'7→List.length L'4=c'7→K (Sum.inl (Sum.inl (rslC ⟨1,(0:Nat) + (1:Nat),0,n'6,c'7⟩))) ⟨[some ⟨nat_lit 40,[xintC .u64 k],none,1,false⟩],[],0,[none,some ⟨40,.o (.rows [.n .u64] L'4),[],c'7,false⟩],0⟩)∧(¬i=z3→∀ (z8:Int),z8=IntKind.wrap .i64 (z3 + (1:Int))→∀ (z9:Int),z9=(↑c:Int)→(z9<z8→((0:Int)≤0∧0≤i∧i≤(↑c:Int))∧∀ (o10 n11 c12:Nat),((↑o10:Int)=if (↑c:Int)=Option.getD none (0:Int) then (0:Int) else (0:Int))→(↑n11:Int)=i - (0:Int)→(↑c12:Int)=(↑c:Int) - (0:Int)→∀ (z13:Int),z13=IntKind.wrap .i64 (z3 + (1:Int))→∀ (z14:Int),z14=IntKind.wrap .i64 (z13 - i)→(o10 + c12≤List.length L∧o10 + c12≤c)∧n11≤16777216∧(0≤z14∧z14≤16777216)∧(↑c12:Int)<(↑n11:Int) + z14∧∀ (L'15 T16:List (List CV)) (n'17 c'18:Nat),L'15=List.take n11 (List.take c12 (List.drop o10 L)) ++ List.replicate (Int.toNat z14) [CV.i (0:Int)] ++ T16→(↑n'17:Int)=(↑n11:Int) + z14→n'17≤c'18→List.length L'15=c'18→(0≤i∧i≤(↑n'17:Int)∧(↑n'17:Int)≤(↑c'18:Int))∧∀ (o19 n20 c21:Nat),((↑o19:Int)=if (↑c'18:Int)=Option.getD (some i) (0:Int) then (0:Int) else (0:Int) + i)→(↑n20:Int)=(↑n'17:Int) - i→(↑c21:Int)=(↑c'18:Int) - i→(o19 + n20≤List.length L'15∧True)∧∀ (n22:Nat) (L'23:List (List CV)),n22=min ((1:Nat)) n20→L'23=List.take o19 L'15 ++ List.take n22 ([CV.i k] :: U.nilL) ++ List.drop (o19 + n22) L'15→∀ (z24:Int),z24=IntKind.wrap .i64 (i + (1:Int))→(0≤z24∧z24≤(↑n'17:Int)∧(↑n'17:Int)≤(↑c'18:Int))∧∀ (o25 n26 c27:Nat),((↑o25:Int)=if (↑c'18:Int)=Option.getD (some z24) (0:Int) then (0:Int) else (0:Int) + z24)→(↑n26:Int)=(↑n'17:Int) - z24→(↑c27:Int)=(↑c'18:Int) - z24→(0≤i∧i≤(↑n:Int)∧(↑n:Int)≤(↑c:Int))∧∀ (o28 n29 c30:Nat),((↑o28:Int)=if (↑c:Int)=Option.getD (some i) (0:Int) then (0:Int) else (0:Int) + i)→(↑n29:Int)=(↑n:Int) - i→(↑c30:Int)=(↑c:Int) - i→(o25 + n26≤List.length L'23∧Nat.le (o28 + n29) (List.length L))∧∀ (n31:Nat) (L'32:List (List CV)),n31=min n29 n26→L'32=List.take o25 L'23 ++ List.take n31 (List.take n29 (List.drop o28 L)) ++ List.drop (o25 + n31) L'23→K (Sum.inl (Sum.inl (rslC ⟨1,1,0,n'17,c'18⟩))) ⟨[some ⟨nat_lit 40,[xintC .u64 k],none,1,false⟩],[],0,[some ⟨40,.o (.rows [.n .u64] L),[],c,false⟩,some ⟨nat_lit 40,.o (.rows [.n .u64] L'32),[],c'18,false⟩],0⟩)∧(¬z9<z8→∀ (z33:Int),z33=IntKind.wrap .i64 (z3 + (1:Int))→((0:Int)≤0∧0≤z33∧z33≤(↑c:Int))∧∀ (o34 n35 c36:Nat),((↑o34:Int)=if (↑c:Int)=Option.getD none (0:Int) then (0:Int) else (0:Int))→(↑n35:Int)=z33 - (0:Int)→(↑c36:Int)=(↑c:Int) - (0:Int)→∀ (z37:Int),z37=IntKind.wrap .i64 (i + (1:Int))→(0≤z37∧z37≤(↑n35:Int)∧(↑n35:Int)≤(↑c36:Int))∧∀ (o38 n39 c40:Nat),((↑o38:Int)=if (↑c36:Int)=Option.getD (some z37) (0:Int) then (↑o34:Int) else (↑o34:Int) + z37)→(↑n39:Int)=(↑n35:Int) - z37→(↑c40:Int)=(↑c36:Int) - z37→o38 + n39≤List.length L∧∀ (z41:Int),z41=IntKind.wrap .i64 (i + (1:Int))→(0≤z41∧z41≤(↑n35:Int)∧(↑n35:Int)≤(↑c36:Int))∧∀ (o42 n43 c44:Nat),((↑o42:Int)=if (↑c36:Int)=Option.getD (some z41) (0:Int) then (↑o34:Int) else (↑o34:Int) + z41)→(↑n43:Int)=(↑n35:Int) - z41→(↑c44:Int)=(↑c36:Int) - z41→(0≤i∧i≤(↑n35:Int)∧(↑n35:Int)≤(↑c36:Int))∧∀ (o45 n46 c47:Nat),((↑o45:Int)=if (↑c36:Int)=Option.getD (some i) (0:Int) then (↑o34:Int) else (↑o34:Int) + i)→(↑n46:Int)=(↑n35:Int) - i→(↑c47:Int)=(↑c36:Int) - i→(o42 + n43≤List.length L∧Nat.le (o45 + n46) (List.length L))∧∀ (n48:Nat) (L'49:List (List CV)),n48=min n46 n43→L'49=List.take o42 L ++ List.take n48 (List.take n46 (List.drop o45 L)) ++ List.drop (o42 + n48) L→(0≤i∧i≤(↑n35:Int)∧(↑n35:Int)≤(↑c36:Int))∧∀ (o50 n51 c52:Nat),((↑o50:Int)=if (↑c36:Int)=Option.getD (some i) (0:Int) then (↑o34:Int) else (↑o34:Int) + i)→(↑n51:Int)=(↑n35:Int) - i→(↑c52:Int)=(↑c36:Int) - i→(o50 + n51≤List.length L'49∧True)∧∀ (n53:Nat) (L'54:List (List CV)),n53=min ((1:Nat)) n51→L'54=List.take o50 L'49 ++ List.take n53 ([CV.i k] :: U.nilL) ++ List.drop (o50 + n53) L'49→K (Sum.inl (Sum.inl (rslC ⟨0,1,o34,n35,c36⟩))) ⟨[some ⟨nat_lit 40,[xintC .u64 k],none,1,false⟩],[],0,[some ⟨nat_lit 40,.o (.rows [.n .u64] L'54),[],c,false⟩],0⟩))) := by kernel_rfl
theorem jbinsV_vc (K:AV→St→Prop) (L:Rws) (n c:Nat) (i:Int) (v0:Int) (v1:Int) (v2:Int) (v3:Int) (v4:List Int) (v5:List Int) (v6:Int):(runV jbov inv0 tbl0 60 [cell (rslC ⟨0,7,0,n,c⟩),xi .i64 i,sl ⟨0,0,1,none,1⟩] ⟨[some ⟨43,jbC v0 v1 v2 v3 v4 v5 v6,none,7,false⟩],[],0,[some (jbvB L c)],0⟩ K)=((0≤i∧i≤(↑n:Int)∧(↑n:Int)≤(↑c:Int))∧∀ (o0 n1 c2:Nat),((↑o0:Int)=if (↑c:Int)=Option.getD (some i) (0:Int) then (0:Int) else (0:Int) + i)→(↑n1:Int)=(↑n:Int) - i→(↑c2:Int)=(↑c:Int) - i→∀ (z3:Int),z3=(↑n:Int)→(i=z3→((0:Nat) + c≤List.length L∧(0:Nat) + c≤c)∧True∧n≤16777216∧(1:Nat)≤16777216∧∀ (L'4 T5:List (List CV)) (n'6 c'7:Nat),L'4=List.take n (List.take c (List.drop ((0:Nat)) L)) ++ [CV.i v0,CV.i v1,CV.i v2,CV.i v3,CV.s v4,CV.s v5,CV.i v6] :: U.nilL ++ T5→n'6=n + (1:Nat)→n'6≤c'7→List.length L'4=c'7→K (Sum.inl (Sum.inl (rslC ⟨1,(6:Nat) + (1:Nat),0,n'6,c'7⟩))) ⟨[some ⟨nat_lit 43,[xintC .u64 v0,xintC .u32 v1,xintC .i64 v2,xintC .i64 v3,strC v4,strC v5,xintC .i64 v6],none,7,false⟩],[],0,[none,some ⟨43,.o (.rows [.n .u64,.n .u32,.n .i64,.n .i64,CK.s,CK.s,.n .i64] L'4),[],c'7,false⟩],0⟩)∧(¬i=z3→∀ (z8:Int),z8=IntKind.wrap .i64 (z3 + (1:Int))→∀ (z9:Int),z9=(↑c:Int)→(z9<z8→((0:Int)≤0∧0≤i∧i≤(↑c:Int))∧∀ (o10 n11 c12:Nat),((↑o10:Int)=if (↑c:Int)=Option.getD none (0:Int) then (0:Int) else (0:Int))→(↑n11:Int)=i - (0:Int)→(↑c12:Int)=(↑c:Int) - (0:Int)→∀ (z13:Int),z13=IntKind.wrap .i64 (z3 + (1:Int))→∀ (z14:Int),z14=IntKind.wrap .i64 (z13 - i)→(o10 + c12≤List.length L∧o10 + c12≤c)∧n11≤16777216∧(0≤z14∧z14≤16777216)∧(↑c12:Int)<(↑n11:Int) + z14∧∀ (L'15 T16:List (List CV)) (n'17 c'18:Nat),L'15=List.take n11 (List.take c12 (List.drop o10 L)) ++ List.replicate (Int.toNat z14) [CV.i (0:Int),CV.i (0:Int),CV.i (0:Int),CV.i (0:Int),CV.s [],CV.s [],CV.i (0:Int)] ++ T16→(↑n'17:Int)=(↑n11:Int) + z14→n'17≤c'18→List.length L'15=c'18→(0≤i∧i≤(↑n'17:Int)∧(↑n'17:Int)≤(↑c'18:Int))∧∀ (o19 n20 c21:Nat),((↑o19:Int)=if (↑c'18:Int)=Option.getD (some i) (0:Int) then (0:Int) else (0:Int) + i)→(↑n20:Int)=(↑n'17:Int) - i→(↑c21:Int)=(↑c'18:Int) - i→(o19 + n20≤List.length L'15∧True)∧∀ (n22:Nat) (L'23:List (List CV)),n22=min ((1:Nat)) n20→L'23=List.take o19 L'15 ++ List.take n22 ([CV.i v0,CV.i v1,CV.i v2,CV.i v3,CV.s v4,CV.s v5,CV.i v6] :: U.nilL) ++ List.drop (o19 + n22) L'15→∀ (z24:Int),z24=IntKind.wrap .i64 (i + (1:Int))→(0≤z24∧z24≤(↑n'17:Int)∧(↑n'17:Int)≤(↑c'18:Int))∧∀ (o25 n26 c27:Nat),((↑o25:Int)=if (↑c'18:Int)=Option.getD (some z24) (0:Int) then (0:Int) else (0:Int) + z24)→(↑n26:Int)=(↑n'17:Int) - z24→(↑c27:Int)=(↑c'18:Int) - z24→(0≤i∧i≤(↑n:Int)∧(↑n:Int)≤(↑c:Int))∧∀ (o28 n29 c30:Nat),((↑o28:Int)=if (↑c:Int)=Option.getD (some i) (0:Int) then (0:Int) else (0:Int) + i)→(↑n29:Int)=(↑n:Int) - i→(↑c30:Int)=(↑c:Int) - i→(o25 + n26≤List.length L'23∧Nat.le (o28 + n29) (List.length L))∧∀ (n31:Nat) (L'32:List (List CV)),n31=min n29 n26→L'32=List.take o25 L'23 ++ List.take n31 (List.take n29 (List.drop o28 L)) ++ List.drop (o25 + n31) L'23→K (Sum.inl (Sum.inl (rslC ⟨1,7,0,n'17,c'18⟩))) ⟨[some ⟨nat_lit 43,[xintC .u64 v0,xintC .u32 v1,xintC .i64 v2,xintC .i64 v3,strC v4,strC v5,xintC .i64 v6],none,7,false⟩],[],0,[some ⟨43,.o (.rows [.n .u64,.n .u32,.n .i64,.n .i64,CK.s,CK.s,.n .i64] L),[],c,false⟩,some ⟨nat_lit 43,.o (.rows [.n .u64,.n .u32,.n .i64,.n .i64,CK.s,CK.s,.n .i64] L'32),[],c'18,false⟩],0⟩)∧(¬z9<z8→∀ (z33:Int),z33=IntKind.wrap .i64 (z3 + (1:Int))→((0:Int)≤0∧0≤z33∧z33≤(↑c:Int))∧∀ (o34 n35 c36:Nat),((↑o34:Int)=if (↑c:Int)=Option.getD none (0:Int) then (0:Int) else (0:Int))→(↑n35:Int)=z33 - (0:Int)→(↑c36:Int)=(↑c:Int) - (0:Int)→∀ (z37:Int),z37=IntKind.wrap .i64 (i + (1:Int))→(0≤z37∧z37≤(↑n35:Int)∧(↑n35:Int)≤(↑c36:Int))∧∀ (o38 n39 c40:Nat),((↑o38:Int)=if (↑c36:Int)=Option.getD (some z37) (0:Int) then (↑o34:Int) else (↑o34:Int) + z37)→(↑n39:Int)=(↑n35:Int) - z37→(↑c40:Int)=(↑c36:Int) - z37→o38 + n39≤List.length L∧∀ (z41:Int),z41=IntKind.wrap .i64 (i + (1:Int))→(0≤z41∧z41≤(↑n35:Int)∧(↑n35:Int)≤(↑c36:Int))∧∀ (o42 n43 c44:Nat),((↑o42:Int)=if (↑c36:Int)=Option.getD (some z41) (0:Int) then (↑o34:Int) else (↑o34:Int) + z41)→(↑n43:Int)=(↑n35:Int) - z41→(↑c44:Int)=(↑c36:Int) - z41→(0≤i∧i≤(↑n35:Int)∧(↑n35:Int)≤(↑c36:Int))∧∀ (o45 n46 c47:Nat),((↑o45:Int)=if (↑c36:Int)=Option.getD (some i) (0:Int) then (↑o34:Int) else (↑o34:Int) + i)→(↑n46:Int)=(↑n35:Int) - i→(↑c47:Int)=(↑c36:Int) - i→(o42 + n43≤List.length L∧Nat.le (o45 + n46) (List.length L))∧∀ (n48:Nat) (L'49:List (List CV)),n48=min n46 n43→L'49=List.take o42 L ++ List.take n48 (List.take n46 (List.drop o45 L)) ++ List.drop (o42 + n48) L→(0≤i∧i≤(↑n35:Int)∧(↑n35:Int)≤(↑c36:Int))∧∀ (o50 n51 c52:Nat),((↑o50:Int)=if (↑c36:Int)=Option.getD (some i) (0:Int) then (↑o34:Int) else (↑o34:Int) + i)→(↑n51:Int)=(↑n35:Int) - i→(↑c52:Int)=(↑c36:Int) - i→(o50 + n51≤List.length L'49∧True)∧∀ (n53:Nat) (L'54:List (List CV)),n53=min ((1:Nat)) n51→L'54=List.take o50 L'49 ++ List.take n53 ([CV.i v0,CV.i v1,CV.i v2,CV.i v3,CV.s v4,CV.s v5,CV.i v6] :: U.nilL) ++ List.drop (o50 + n53) L'49→K (Sum.inl (Sum.inl (rslC ⟨0,7,o34,n35,c36⟩))) ⟨[some ⟨nat_lit 43,[xintC .u64 v0,xintC .u32 v1,xintC .i64 v2,xintC .i64 v3,strC v4,strC v5,xintC .i64 v6],none,7,false⟩],[],0,[some ⟨nat_lit 43,.o (.rows [.n .u64,.n .u32,.n .i64,.n .i64,CK.s,CK.s,.n .i64] L'54),[],c,false⟩],0⟩))) := by kernel_rfl
end Go.Proofs.Ytgopjjimafcgjaa
end

section
set_option linter.unusedVariables false
set_option linter.unusedSimpArgs false
namespace Go.Proofs.Ytgopjjimafcgjaa
open Go Reck Ost
theorem jbovOk : jbov.all (isOverlaps Try.prog) = true := by kernel_rfl
set_option maxHeartbeats 4000000 in
theorem jbinsK_run (K : AV → St → Prop) (L A : Rws) (n c : Nat) (i : Int) (k : Int) (h : U.Fu L n c A) (hi : 0 ≤ i ∧ i ≤ n) (hn : n + 1 ≤ 1000000)
    (hA : ∀ (L' : Rws) (c' : Nat), U.Fu L' (n + 1) c' (U.insR A i [.i k]) → K (cell (rslC ⟨1, 1, 0, n + 1, c'⟩)) ⟨[some ⟨40, [xintC .u64 k], none, 1, false⟩], [], 0, [none, some (jbkB L' c')], 0⟩)
    (hB : ∀ (L' : Rws) (c' : Nat), U.Fu L' (n + 1) c' (U.insR A i [.i k]) → K (cell (rslC ⟨1, 1, 0, n + 1, c'⟩)) ⟨[some ⟨40, [xintC .u64 k], none, 1, false⟩], [], 0, [some (jbkB L c), some (jbkB L' c')], 0⟩)
    (hC : ∀ (L' : Rws) (c' : Nat), U.Fu L' (n + 1) c' (U.insR A i [.i k]) → K (cell (rslC ⟨0, 1, 0, n + 1, c'⟩)) ⟨[some ⟨40, [xintC .u64 k], none, 1, false⟩], [], 0, [some (jbkB L' c')], 0⟩) :
    runV jbov inv0 tbl0 59 [cell (rslC ⟨0, 1, 0, n, c⟩), xi .i64 i, sl ⟨0, 0, 1, none, 1⟩] ⟨[some ⟨40, [xintC .u64 k], none, 1, false⟩], [], 0, [some (jbkB L c)], 0⟩ K := by
  rw [jbinsK_vc]
  have hl := h.len
  have hle := h.le
  have tk : L.take c = L := List.take_of_length_le (by omega)
  obtain ⟨j, rfl⟩ : ∃ j : Nat, i = j := ⟨i.toNat, by omega⟩
  refine ⟨⟨by omega, by omega, by omega⟩, fun o0 n1 c2 _ h1 h2 z3 h3 => ⟨fun hin => ⟨⟨by omega, by omega⟩, trivial, by omega, by omega, fun L4 T5 n6 c7 e4 e6 e7 e8 => ?_⟩, fun hin z8 h8 z9 h9 => ⟨fun hlt => ⟨⟨by omega, by omega, by omega⟩, fun o10 n11 c12 h10 h11 h12 z13 h13 z14 h14 => ?_⟩, fun hge z31 h31 => ?_⟩⟩⟩
  · subst e6
    rw [List.drop_zero, tk] at e4
    have hj : j = n := by omega
    subst hj
    exact hA _ _ (insA h e4 e8 e7 hn)
  · replace h8 := iw h8 (by omega)
    replace h13 := iw h13 (by omega)
    replace h14 := iw h14 (by omega)
    replace h10 := off_of (l := 0) h10 (.inr rfl)
    obtain rfl : o10 = 0 := by omega
    obtain rfl : n11 = j := by omega
    obtain rfl : c12 = c := by omega
    refine ⟨⟨by omega, by omega⟩, by omega, ⟨by omega, by omega⟩, by omega, fun L15 T16 n17 c18 e15 e17 e18 e19 => ?_⟩
    obtain rfl : n17 = n + 1 := by omega
    refine ⟨⟨by omega, by omega, by omega⟩, fun o19 n20 c21 h19 h20 h21 => ?_⟩
    have q19 : ¬ (c18 : Int) = n11 := by clear h19; omega
    replace h19 := off_of (l := n11) h19 (.inl q19)
    obtain rfl : o19 = n11 := by omega
    refine ⟨⟨by omega, trivial⟩, fun n22 L23 h22 e23 z24 h24 => ?_⟩
    replace h24 := iw h24 (by omega)
    refine ⟨⟨by omega, by omega, by omega⟩, fun o25 n26 c27 h25 h26 h27 => ?_⟩
    have q25 : ¬ (c18 : Int) = z24 := by clear h25; omega
    replace h25 := off_of (l := z24) h25 (.inl q25)
    refine ⟨⟨by omega, by omega, by omega⟩, fun o28 n29 c30 h28 h29 h30 => ?_⟩
    have q28 : ¬ (c12 : Int) = o19 := by clear h28; omega
    replace h28 := off_of (l := o19) h28 (.inl q28)
    obtain ⟨f23, l23⟩ := mid_one e23 (by omega) (by omega)
    clear e23
    obtain rfl : o25 = o19 + 1 := by omega
    obtain rfl : o28 = o19 := by omega
    refine ⟨⟨by omega, (by omega : o28 + n29 ≤ L.length)⟩, fun n31 L32 h31 e32 => ?_⟩
    obtain rfl : n31 = n - o28 := by omega
    obtain ⟨f32, l32⟩ := mid_row (k := n + 1) e32 (by omega) (by omega) (by omega) (by omega)
    rw [List.drop_zero, tk, show z14.toNat = n + 1 - o28 by omega] at e15
    exact hB _ _ (insB h (by omega) e15 e19 e18 f23 f32 hn)
  · replace h8 := iw h8 (by omega)
    replace h31 := iw h31 (by omega)
    refine ⟨⟨by omega, by omega, by omega⟩, fun o32 n33 c34 h32 h33 h34 z35 h35 => ?_⟩
    replace h32 := off_of (l := 0) h32 (.inr rfl)
    replace h35 := iw h35 (by omega)
    obtain rfl : o32 = 0 := by omega
    obtain rfl : n33 = n + 1 := by omega
    obtain rfl : c34 = c := by omega
    refine ⟨⟨by omega, by omega, by omega⟩, fun o36 n37 c38 h36 h37 h38 => ?_⟩
    have q36 : ¬ (c34 : Int) = z35 := by clear h36; omega
    replace h36 := off_of (l := z35) h36 (.inl q36)
    refine ⟨by omega, fun z39 h39 => ?_⟩
    replace h39 := iw h39 (by omega)
    refine ⟨⟨by omega, by omega, by omega⟩, fun o40 n41 c42 h40 h41 h42 => ?_⟩
    have q40 : ¬ (c34 : Int) = z39 := by clear h40; omega
    replace h40 := off_of (l := z39) h40 (.inl q40)
    refine ⟨⟨by omega, by omega, by omega⟩, fun o43 n44 c45 h43 h44 h45 => ?_⟩
    have q43 : ¬ (c34 : Int) = j := by clear h43; omega
    replace h43 := off_of (l := j) h43 (.inl q43)
    obtain rfl : o40 = j + 1 := by omega
    obtain rfl : o43 = j := by omega
    refine ⟨⟨by omega, (by omega : o43 + n44 ≤ L.length)⟩, fun n46 L47 h46 e47 => ⟨⟨by omega, by omega, by omega⟩, fun o48 n49 c50 h48 h49 h50 => ?_⟩⟩
    have q48 : ¬ (c34 : Int) = o43 := by clear h48; omega
    replace h48 := off_of (l := o43) h48 (.inl q48)
    obtain rfl : o48 = o43 := by omega
    obtain rfl : n46 = n - o48 := by omega
    obtain ⟨f47, l47⟩ := mid_row (k := n + 1) e47 (by omega) (by omega) (by omega) (by omega)
    clear e47
    refine ⟨⟨by omega, trivial⟩, fun n51 L52 h51 e52 => ?_⟩
    obtain ⟨f52, l52⟩ := mid_one e52 (by omega) (by omega)
    exact hC _ _ (insC h (by omega) (by omega) f47 f52 hn)
set_option maxHeartbeats 4000000 in
theorem jbinsV_run (K : AV → St → Prop) (L A : Rws) (n c : Nat) (i : Int) (v0 : Int) (v1 : Int) (v2 : Int) (v3 : Int) (v4 : List Int) (v5 : List Int) (v6 : Int) (h : U.Fu L n c A) (hi : 0 ≤ i ∧ i ≤ n) (hn : n + 1 ≤ 1000000)
    (hA : ∀ (L' : Rws) (c' : Nat), U.Fu L' (n + 1) c' (U.insR A i (jbR v0 v1 v2 v3 v4 v5 v6)) → K (cell (rslC ⟨1, 7, 0, n + 1, c'⟩)) ⟨[some ⟨43, jbC v0 v1 v2 v3 v4 v5 v6, none, 7, false⟩], [], 0, [none, some (jbvB L' c')], 0⟩)
    (hB : ∀ (L' : Rws) (c' : Nat), U.Fu L' (n + 1) c' (U.insR A i (jbR v0 v1 v2 v3 v4 v5 v6)) → K (cell (rslC ⟨1, 7, 0, n + 1, c'⟩)) ⟨[some ⟨43, jbC v0 v1 v2 v3 v4 v5 v6, none, 7, false⟩], [], 0, [some (jbvB L c), some (jbvB L' c')], 0⟩)
    (hC : ∀ (L' : Rws) (c' : Nat), U.Fu L' (n + 1) c' (U.insR A i (jbR v0 v1 v2 v3 v4 v5 v6)) → K (cell (rslC ⟨0, 7, 0, n + 1, c'⟩)) ⟨[some ⟨43, jbC v0 v1 v2 v3 v4 v5 v6, none, 7, false⟩], [], 0, [some (jbvB L' c')], 0⟩) :
    runV jbov inv0 tbl0 60 [cell (rslC ⟨0, 7, 0, n, c⟩), xi .i64 i, sl ⟨0, 0, 1, none, 1⟩] ⟨[some ⟨43, jbC v0 v1 v2 v3 v4 v5 v6, none, 7, false⟩], [], 0, [some (jbvB L c)], 0⟩ K := by
  rw [jbinsV_vc]
  have hl := h.len
  have hle := h.le
  have tk : L.take c = L := List.take_of_length_le (by omega)
  obtain ⟨j, rfl⟩ : ∃ j : Nat, i = j := ⟨i.toNat, by omega⟩
  refine ⟨⟨by omega, by omega, by omega⟩, fun o0 n1 c2 _ h1 h2 z3 h3 => ⟨fun hin => ⟨⟨by omega, by omega⟩, trivial, by omega, by omega, fun L4 T5 n6 c7 e4 e6 e7 e8 => ?_⟩, fun hin z8 h8 z9 h9 => ⟨fun hlt => ⟨⟨by omega, by omega, by omega⟩, fun o10 n11 c12 h10 h11 h12 z13 h13 z14 h14 => ?_⟩, fun hge z31 h31 => ?_⟩⟩⟩
  · subst e6
    rw [List.drop_zero, tk] at e4
    have hj : j = n := by omega
    subst hj
    exact hA _ _ (insA h e4 e8 e7 hn)
  · replace h8 := iw h8 (by omega)
    replace h13 := iw h13 (by omega)
    replace h14 := iw h14 (by omega)
    replace h10 := off_of (l := 0) h10 (.inr rfl)
    obtain rfl : o10 = 0 := by omega
    obtain rfl : n11 = j := by omega
    obtain rfl : c12 = c := by omega
    refine ⟨⟨by omega, by omega⟩, by omega, ⟨by omega, by omega⟩, by omega, fun L15 T16 n17 c18 e15 e17 e18 e19 => ?_⟩
    obtain rfl : n17 = n + 1 := by omega
    refine ⟨⟨by omega, by omega, by omega⟩, fun o19 n20 c21 h19 h20 h21 => ?_⟩
    have q19 : ¬ (c18 : Int) = n11 := by clear h19; omega
    replace h19 := off_of (l := n11) h19 (.inl q19)
    obtain rfl : o19 = n11 := by omega
    refine ⟨⟨by omega, trivial⟩, fun n22 L23 h22 e23 z24 h24 => ?_⟩
    replace h24 := iw h24 (by omega)
    refine ⟨⟨by omega, by omega, by omega⟩, fun o25 n26 c27 h25 h26 h27 => ?_⟩
    have q25 : ¬ (c18 : Int) = z24 := by clear h25; omega
    replace h25 := off_of (l := z24) h25 (.inl q25)
    refine ⟨⟨by omega, by omega, by omega⟩, fun o28 n29 c30 h28 h29 h30 => ?_⟩
    have q28 : ¬ (c12 : Int) = o19 := by clear h28; omega
    replace h28 := off_of (l := o19) h28 (.inl q28)
    obtain ⟨f23, l23⟩ := mid_one e23 (by omega) (by omega)
    clear e23
    obtain rfl : o25 = o19 + 1 := by omega
    obtain rfl : o28 = o19 := by omega
    refine ⟨⟨by omega, (by omega : o28 + n29 ≤ L.length)⟩, fun n31 L32 h31 e32 => ?_⟩
    obtain rfl : n31 = n - o28 := by omega
    obtain ⟨f32, l32⟩ := mid_row (k := n + 1) e32 (by omega) (by omega) (by omega) (by omega)
    rw [List.drop_zero, tk, show z14.toNat = n + 1 - o28 by omega] at e15
    exact hB _ _ (insB h (by omega) e15 e19 e18 f23 f32 hn)
  · replace h8 := iw h8 (by omega)
    replace h31 := iw h31 (by omega)
    refine ⟨⟨by omega, by omega, by omega⟩, fun o32 n33 c34 h32 h33 h34 z35 h35 => ?_⟩
    replace h32 := off_of (l := 0) h32 (.inr rfl)
    replace h35 := iw h35 (by omega)
    obtain rfl : o32 = 0 := by omega
    obtain rfl : n33 = n + 1 := by omega
    obtain rfl : c34 = c := by omega
    refine ⟨⟨by omega, by omega, by omega⟩, fun o36 n37 c38 h36 h37 h38 => ?_⟩
    have q36 : ¬ (c34 : Int) = z35 := by clear h36; omega
    replace h36 := off_of (l := z35) h36 (.inl q36)
    refine ⟨by omega, fun z39 h39 => ?_⟩
    replace h39 := iw h39 (by omega)
    refine ⟨⟨by omega, by omega, by omega⟩, fun o40 n41 c42 h40 h41 h42 => ?_⟩
    have q40 : ¬ (c34 : Int) = z39 := by clear h40; omega
    replace h40 := off_of (l := z39) h40 (.inl q40)
    refine ⟨⟨by omega, by omega, by omega⟩, fun o43 n44 c45 h43 h44 h45 => ?_⟩
    have q43 : ¬ (c34 : Int) = j := by clear h43; omega
    replace h43 := off_of (l := j) h43 (.inl q43)
    obtain rfl : o40 = j + 1 := by omega
    obtain rfl : o43 = j := by omega
    refine ⟨⟨by omega, (by omega : o43 + n44 ≤ L.length)⟩, fun n46 L47 h46 e47 => ⟨⟨by omega, by omega, by omega⟩, fun o48 n49 c50 h48 h49 h50 => ?_⟩⟩
    have q48 : ¬ (c34 : Int) = o43 := by clear h48; omega
    replace h48 := off_of (l := o43) h48 (.inl q48)
    obtain rfl : o48 = o43 := by omega
    obtain rfl : n46 = n - o48 := by omega
    obtain ⟨f47, l47⟩ := mid_row (k := n + 1) e47 (by omega) (by omega) (by omega) (by omega)
    clear e47
    refine ⟨⟨by omega, trivial⟩, fun n51 L52 h51 e52 => ?_⟩
    obtain ⟨f52, l52⟩ := mid_one e52 (by omega) (by omega)
    exact hC _ _ (insC h (by omega) (by omega) f47 f52 hn)
end Go.Proofs.Ytgopjjimafcgjaa
end

section
set_option linter.unusedVariables false
set_option linter.unusedSimpArgs false
set_option maxRecDepth 10000
namespace Go.Proofs.Ytgopjjimafcgjaa
open Go Reck Ost
/-- A thing of the shelf. -/
structure JBv where
  (v0 : Int) (v1 : Int) (v2 : Int) (v3 : Int) (v4 : List Int) (v5 : List Int) (v6 : Int)
def JBv.cells (e : JBv) : List Cell := jbC e.v0 e.v1 e.v2 e.v3 e.v4 e.v5 e.v6
def JBv.row (e : JBv) : List CV := jbR e.v0 e.v1 e.v2 e.v3 e.v4 e.v5 e.v6
def jbX (l : List Cell) : Option JBv :=
  match l with
  | [v0, v1, v2, v3, v4, v5, v6] => match xiX (cell v0), xiX (cell v1), xiX (cell v2), xiX (cell v3), cStr v4, cStr v5, xiX (cell v6) with
    | some (.u64, v0), some (.u32, v1), some (.i64, v2), some (.i64, v3), some v4, some v5, some (.i64, v6) => some ⟨v0, v1, v2, v3, v4, v5, v6⟩
    | _, _, _, _, _, _, _ => none
  | _ => none
theorem jbX_eq {l : List Cell} {e : JBv} (h : jbX l = some e) : l = e.cells := by
  unfold jbX at h
  split at h
  · split at h
    · rename_i h0 h1 h2 h3 h4 h5 h6
      simp only [Option.some.injEq] at h; subst h
      rw [cInj (xiX_eq h0), cInj (xiX_eq h1), cInj (xiX_eq h2), cInj (xiX_eq h3), cStr_eq h4, cStr_eq h5, cInj (xiX_eq h6)]; rfl
    · cases h
  · cases h
def jbsV (k : Int) : Option Blk := some ⟨40, [xintC .u64 k], none, 1, false⟩
def jbeV (e : JBv) : Option Blk := some ⟨43, e.cells, none, 7, false⟩
def jbpInsK : Pat := fun args σ => match args, σ with
  | [s, i, .inl (.inl (.inr (.inr (.inl ⟨0, 0, 1, none, 1⟩))))], ⟨[some ⟨40, [v], none, 1, false⟩], [], 0, [some ⟨40, .o (.rows [.n .u64] L), [], c0, false⟩], 0⟩ => match rslX s, intX i, cIntK .u64 v with
    | some ⟨0, 1, 0, n, c⟩, some (.i64, i), some k => some fun K => ∃ A, (c0 = c ∧ U.Fu L n c A ∧ (0 ≤ i ∧ i ≤ n) ∧ n + 1 ≤ 1000000) ∧ ∀ (n' c' : Nat) (L' : Rws), n' = n + 1 → U.Fu L' n' c' (U.insR A i [.i k]) → K (cell (rslC ⟨1, 1, 0, n', c'⟩)) ⟨[jbsV k], [], 0, [none, some (jbkB L' c')], 0⟩
    | _, _, _ => none
  | _, _ => none
theorem jbpInsK_ok : PatOk 59 jbpInsK := by
  intro tm σ C h K hK w0 e w hk vs hvs
  unfold jbpInsK at h
  split at h
  · rename_i s i v L c0
    split at h
    · rename_i n c i' k hs hi hv
      obtain rfl := rslX_eq hs
      obtain rfl := cIntK_eq hv
      simp only [Option.some.injEq] at h; subst h
      obtain ⟨A, ⟨rfl, h1, h2, h3⟩, hK⟩ := hK
      obtain ⟨x, y, z, rfl, q1, q2, q3⟩ := threes hvs
      refine ins_fin (old := some (jbkB L c0)) (u := 1) (Q := fun n' c' L' => n' = n + 1 ∧ U.Fu L' n' c' (U.insR A i' [.i k])) (knownD noOv names (opMV_ok jbovOk) (conOk_ofR tbl0_ok) (jbinsK_run _ L A n c0 i' k h1 h2 h3 ?_ ?_ ?_) w0 e w hk _ (map3 q1 (as_int hi q2) q3)) (fun n' c' L' hq => hK n' c' L' hq.1 hq.2)
      · exact fun L' c' hF => ⟨n + 1, c', L', ⟨rfl, hF⟩, .inl ⟨rfl, rfl⟩⟩
      · exact fun L' c' hF => ⟨n + 1, c', L', ⟨rfl, hF⟩, .inr (.inl ⟨rfl, rfl⟩)⟩
      · exact fun L' c' hF => ⟨n + 1, c', L', ⟨rfl, hF⟩, .inr (.inr ⟨rfl, rfl⟩)⟩
    · cases h
  · cases h
def jbpInsV : Pat := fun args σ => match args, σ with
  | [s, i, .inl (.inl (.inr (.inr (.inl ⟨0, 0, 1, none, 1⟩))))], ⟨[some ⟨43, l, none, 7, false⟩], [], 0, [some ⟨43, .o (.rows ks L), [], c0, false⟩], 0⟩ => match rslX s, intX i, jbX l, sameK ks jbvK with
    | some ⟨0, 7, 0, n, c⟩, some (.i64, i), some e, true => some fun K => ∃ A, (c0 = c ∧ U.Fu L n c A ∧ (0 ≤ i ∧ i ≤ n) ∧ n + 1 ≤ 1000000) ∧ ∀ (n' c' : Nat) (L' : Rws), n' = n + 1 → U.Fu L' n' c' (U.insR A i e.row) → K (cell (rslC ⟨1, 7, 0, n', c'⟩)) ⟨[jbeV e], [], 0, [none, some (jbvB L' c')], 0⟩
    | _, _, _, _ => none
  | _, _ => none
theorem jbpInsV_ok : PatOk 60 jbpInsV := by
  intro tm σ C h K hK w0 e w hk vs hvs
  unfold jbpInsV at h
  split at h
  · rename_i s i l ks L c0
    split at h
    · rename_i n c i' en hs hi hv hks
      obtain rfl := rslX_eq hs
      obtain rfl := jbX_eq hv
      obtain rfl := sameK_eq hks
      simp only [Option.some.injEq] at h; subst h
      obtain ⟨A, ⟨rfl, h1, h2, h3⟩, hK⟩ := hK
      obtain ⟨x, y, z, rfl, q1, q2, q3⟩ := threes hvs
      refine ins_fin (old := some (jbvB L c0)) (u := 7) (Q := fun n' c' L' => n' = n + 1 ∧ U.Fu L' n' c' (U.insR A i' en.row)) (knownD noOv names (opMV_ok jbovOk) (conOk_ofR tbl0_ok) (jbinsV_run _ L A n c0 i' en.v0 en.v1 en.v2 en.v3 en.v4 en.v5 en.v6 h1 h2 h3 ?_ ?_ ?_) w0 e w hk _ (map3 q1 (as_int hi q2) q3)) (fun n' c' L' hq => hK n' c' L' hq.1 hq.2)
      · exact fun L' c' hF => ⟨n + 1, c', L', ⟨rfl, hF⟩, .inl ⟨rfl, rfl⟩⟩
      · exact fun L' c' hF => ⟨n + 1, c', L', ⟨rfl, hF⟩, .inr (.inl ⟨rfl, rfl⟩)⟩
      · exact fun L' c' hF => ⟨n + 1, c', L', ⟨rfl, hF⟩, .inr (.inr ⟨rfl, rfl⟩)⟩
    · cases h
  · cases h
def jbpDelK : Pat := fun args σ => match args, σ with
  | [s, i, j], ⟨[], [], 0, [some ⟨40, .o (.rows ks L), [], c0, false⟩], 0⟩ => match rslX s, intX i, intX j, sameK ks [.n .u64] with
    | some ⟨0, 1, 0, n, c⟩, some (.i64, i), some (.i64, j), true => some fun K => ∃ A, (c0 = c ∧ U.Fu L n c A ∧ (0 ≤ i ∧ i < n) ∧ j = i + 1) ∧ ∀ (n' : Nat) (L' : Rws), n' + 1 = n → U.Fu L' n' c (U.erR A i) → K (cell (rslC ⟨1, 1, 0, n', c⟩)) ⟨[], [], 0, [none, some (jbkB L' c)], 0⟩
    | _, _, _, _ => none
  | _, _ => none
def jbpDelV : Pat := fun args σ => match args, σ with
  | [s, i, j], ⟨[], [], 0, [some ⟨43, .o (.rows ks L), [], c0, false⟩], 0⟩ => match rslX s, intX i, intX j, sameK ks jbvK with
    | some ⟨0, 7, 0, n, c⟩, some (.i64, i), some (.i64, j), true => some fun K => ∃ A, (c0 = c ∧ U.Fu L n c A ∧ (0 ≤ i ∧ i < n) ∧ j = i + 1) ∧ ∀ (n' : Nat) (L' : Rws), n' + 1 = n → U.Fu L' n' c (U.erR A i) → K (cell (rslC ⟨1, 7, 0, n', c⟩)) ⟨[], [], 0, [none, some (jbvB L' c)], 0⟩
    | _, _, _, _ => none
  | _, _ => none
def jbtID : Tbl := tblOr (tblIf 59 jbpInsK) (tblIf 60 jbpInsV)

theorem jbtID_ok : TblOk Try.prog jbtID := tblOr_ok (tblIf_ok jbpInsK_ok) (tblIf_ok jbpInsV_ok)

end Go.Proofs.Ytgopjjimafcgjaa
end
