/- Parts of a proof, one behind the other: JB4 JB5 JB6 JB7 JB8. No condition. -/
import Derived.Test.YtgopjjimafcgjaaGB
section
namespace Go.Proofs.Ytgopjjimafcgjaa
open Go Reck Ost
set_option linter.unusedVariables false
set_option maxRecDepth 100000
def jbpLess : Pat := fun args σ => match args, σ with
  | [a, b], ⟨[], [], 0, [], 0⟩ => match aIntK .u64 a, aIntK .u64 b with
    | some a, some b => some fun K => (a < b → K (lit (.bool true)) emptySt) ∧ (¬ a < b → K (lit (.bool false)) emptySt)
    | _, _ => none
  | _, _ => none
def jbtLess : Tbl := tblIf 74 jbpLess
structure U.jbbsR (L : Rws) (n : Nat) (k : Int) (i j : Int) : Prop where
  out : 0 ≤ i ∧ i ≤ j ∧ j ≤ n ∧ (∀ m : Nat, (m : Int) < i → U.fi L m 0 < k) ∧ (∀ m : Nat, j ≤ (m : Int) → m < n → ¬ U.fi L m 0 < k)
def jbbsInv (c : Code) (tm : List AV) (σ : St) : Inv where
  X := Int × Int
  tags := [0]
  tag _ _ := 0
  J := wrBut [7, 8] c
  val _ x := [(7, xi .i64 x.1), (8, xi .i64 x.2)]
  st _ _ σ' := σ'
  I _ x := U.jbbsR (rowsAt σ (slotR tm 0).a) (slotR tm 0).n (slotI tm 1) x.1 x.2
  m _ x := (x.2 - x.1).toNat
  ren := noRen
def jbinvBS : InvF := fun c tm σ => match tm.length, firstReg c with
  | 54, some 3 => some (jbbsInv c tm σ)
  | _, _ => none
--PLAIN
theorem jbless_vc (K:AV→St→Prop) (a b:Int):(runR inv0 tbl0 74 [xi .u64 a,xi .u64 b] emptySt K)=((¬a=a→(¬b=b→(a<b→K (lit (.bool true)) ⟨[],[],0,[],0⟩)∧(¬a<b→K (lit (.bool false)) ⟨[],[],0,[],0⟩))∧(¬¬b=b→K (lit (.bool true)) ⟨[],[],0,[],0⟩))∧(¬¬a=a→(a<b→K (lit (.bool true)) ⟨[],[],0,[],0⟩)∧(¬a<b→K (lit (.bool false)) ⟨[],[],0,[],0⟩))) := by kernel_rfl
theorem jbbs_vc (K:AV→St→Prop) (L:Rws) (n c:Nat) (k:Int):(runR jbinvBS jbtLess 68 [cell (rslC ⟨0,1,0,n,c⟩),xi .u64 k] ⟨[],[],0,[some (jbkB L c)],0⟩ K)=(∀ (z0:Int),z0=(↑n:Int)→(∃ (y1:Int × Int),((0:Nat)=0∧n=n∧c=c)∧k=k∧false=false∧z0=z0∧0=y1.1∧z0=y1.2∧((0:Nat)=0∧n=n∧c=c)∧z0=z0∧z0=z0∧(L=L∧c=c∧false=false)∧U.jbbsR L n k y1.1 y1.2)∧∀ (x2:Int × Int),U.jbbsR L n k x2.1 x2.2→(x2.1<x2.2→∀ (z3:Int),z3=IntKind.wrap .i64 (x2.1 + x2.2)→∀ (z4:Int),z4=IntKind.wrap IntKind.u64 z3→(0:Int)≤1∧∀ (z5:Int),z5=shrI IntKind.u64 z4 (1:Int)→∀ (z6:Int),z6=IntKind.wrap .i64 z5→(0≤z6∧z6<(↑n:Int))∧∀ (j7:Nat),(↑j7:Int)=(↑((0:Nat)):Int) + z6→j7<List.length L∧∀ (z8:Int),z8=U.fi L j7 ((0:Nat))→(z8<k→∀ (z9:Int),z9=IntKind.wrap .i64 (z6 + (1:Int))→∃ (y10:Int × Int),((0:Nat)=0∧n=n∧c=c)∧k=k∧false=false∧z0=z0∧z9=y10.1∧x2.2=y10.2∧((0:Nat)=0∧n=n∧c=c)∧z0=z0∧z0=z0∧(L=L∧c=c∧false=false)∧U.jbbsR L n k y10.1 y10.2∧Int.toNat (y10.2 - y10.1)<Int.toNat (x2.2 - x2.1))∧(¬z8<k→∃ (y11:Int × Int),((0:Nat)=0∧n=n∧c=c)∧k=k∧false=false∧z0=z0∧x2.1=y11.1∧z6=y11.2∧((0:Nat)=0∧n=n∧c=c)∧z0=z0∧z0=z0∧(L=L∧c=c∧false=false)∧U.jbbsR L n k y11.1 y11.2∧Int.toNat (y11.2 - y11.1)<Int.toNat (x2.2 - x2.1)))∧(¬x2.1<x2.2→(x2.1<z0→(0≤x2.1∧x2.1<(↑n:Int))∧∀ (j12:Nat),(↑j12:Int)=(↑((0:Nat)):Int) + x2.1→j12<List.length L∧∀ (z13:Int),z13=U.fi L j12 ((0:Nat))→(z13=k→K (Sum.inr [Sum.inl (xintC .i64 x2.1),Sum.inl (Sum.inl (Value.bool true))]) ⟨[],[],0,[some ⟨40,.o (.rows [.n .u64] L),[],c,false⟩],0⟩)∧(¬z13=k→(0≤x2.1∧x2.1<(↑n:Int))∧∀ (j14:Nat),(↑j14:Int)=(↑((0:Nat)):Int) + x2.1→j14<List.length L∧∀ (z15:Int),z15=U.fi L j14 ((0:Nat))→(¬z15=z15→(¬k=k→K (Sum.inr [Sum.inl (xintC .i64 x2.1),Sum.inl (Sum.inl (Value.bool true))]) ⟨[],[],0,[some ⟨40,.o (.rows [.n .u64] L),[],c,false⟩],0⟩)∧(¬¬k=k→K (Sum.inr [Sum.inl (xintC .i64 x2.1),Sum.inl (Sum.inl (Value.bool false))]) ⟨[],[],0,[some ⟨40,.o (.rows [.n .u64] L),[],c,false⟩],0⟩))∧(¬¬z15=z15→K (Sum.inr [Sum.inl (xintC .i64 x2.1),Sum.inl (Sum.inl (Value.bool false))]) ⟨[],[],0,[some ⟨40,.o (.rows [.n .u64] L),[],c,false⟩],0⟩)))∧(¬x2.1<z0→K (Sum.inr [Sum.inl (xintC .i64 x2.1),Sum.inl (Sum.inl (Value.bool false))]) ⟨[],[],0,[some ⟨40,.o (.rows [.n .u64] L),[],c,false⟩],0⟩))) := by kernel_rfl
end Go.Proofs.Ytgopjjimafcgjaa
end

section
set_option linter.unusedVariables false
set_option linter.unusedSimpArgs false
set_option maxRecDepth 10000
namespace Go.Proofs.Ytgopjjimafcgjaa
open Go Reck Ost
theorem jbpLess_ok : PatOk 74 jbpLess := by
  intro tm σ C h K hK w0 e w hk vs hvs
  unfold jbpLess at h
  split at h
  · split at h
    · rename_i a b ha hb
      simp only [Option.some.injEq] at h; subst h
      obtain ⟨v, u, rfl, hv, hu⟩ := twos hvs
      refine knownC noOv names (conOk_ofR tbl0_ok) (show runR inv0 tbl0 74 [xi .u64 a, xi .u64 b] emptySt K from ?_) w0 e w hk [v, u] (map2 (as_aIntK ha hv) (as_aIntK hb hu))
      rw [jbless_vc]
      exact ⟨fun h => absurd rfl h, fun _ => hK⟩
    · cases h
  · cases h
/-- Keys that rise. -/
structure U.jbSrtR (L : Rws) (n : Nat) : Prop where
  out : ∀ i j : Nat, i < j → j < n → U.fi L i 0 < (U.fi L j 0)
/-- Where a key stands, or would stand. -/
structure U.jbAt (L : Rws) (n : Nat) (k : Int) (z : Int) : Prop where
  b : 0 ≤ z ∧ z ≤ n
  lo : ∀ m : Nat, (m : Int) < z → U.fi L m 0 < k
  hi : ∀ m : Nat, z ≤ (m : Int) → m < n → ¬ U.fi L m 0 < k
structure U.jbHasAt (L : Rws) (n : Nat) (k : Int) (z : Int) : Prop where
  out : z < n ∧ U.fi L z.toNat 0 = k
set_option maxHeartbeats 1000000 in
theorem jbbs_run (K : AV → St → Prop) (L : Rws) (n c : Nat) (k : Int) (hl : n ≤ L.length) (hsm : n ≤ 1000000) (hs : U.jbSrtR L n)
    (hK : ∀ z : Int, U.jbAt L n k z → (U.jbHasAt L n k z → K (zbA z true) ⟨[], [], 0, [some (jbkB L c)], 0⟩) ∧ (¬ U.jbHasAt L n k z → K (zbA z false) ⟨[], [], 0, [some (jbkB L c)], 0⟩)) :
    runR jbinvBS jbtLess 68 [cell (rslC ⟨0, 1, 0, n, c⟩), xi .u64 k] ⟨[], [], 0, [some (jbkB L c)], 0⟩ K := by
  rw [jbbs_vc]
  intro z0 h0
  refine ⟨⟨(0, z0), ?_⟩, ?_⟩
  · repeat' (first | exact rfl | with_reducible apply And.intro)
    exact ⟨Int.le_refl _, by dsimp only; omega, by dsimp only; omega, fun m hm => by dsimp only at hm; omega, fun m hm hm2 => by dsimp only at hm; omega⟩
  rintro ⟨i, j⟩ ⟨b1, b2, b3, b4, b5⟩
  dsimp only at b1 b2 b3 b4 b5 ⊢
  refine ⟨fun hij z3 h3 z4 h4 => ⟨by decide, fun z5 h5 z6 h6 => ?_⟩, fun hij => ?_⟩
  · have e3 := iw h3 (by omega)
    have e4 : z4 = i + j := by
      rw [h4, e3]; show IntKind.wrap .u64 _ = _
      rw [IntKind.wrap]; simp [IntKind.signed, IntKind.bits]; omega
    have e5 : z5 = (i + j) / 2 := by
      rw [h5, e4]
      unfold shrI
      rw [show min (1 : Int).toNat (IntKind.bits .u64) = 1 from rfl, Int.fdiv_eq_ediv_of_nonneg _ (by decide)]
      rfl
    clear h3 h4 h5
    replace h6 := iw h6 (by omega)
    refine ⟨by omega, fun j7 h7 => ⟨by omega, fun z8 h8 => ?_⟩⟩
    obtain ⟨p, hp⟩ : ∃ p : Nat, z6 = p := ⟨z6.toNat, by omega⟩
    obtain rfl : j7 = p := by omega
    refine ⟨fun hlt z9 h9 => ⟨(z9, j), ?_⟩, fun hge => ⟨(i, z6), ?_⟩⟩
    · replace h9 := iw h9 (by omega)
      repeat' (first | exact rfl | with_reducible apply And.intro)
      · refine ⟨by dsimp only; omega, by dsimp only; omega, b3, fun m hm => ?_, b5⟩
        dsimp only at hm
        rw [h8] at hlt
        by_cases hmp : m = j7
        · rw [hmp]; exact hlt
        · exact Int.lt_trans (hs.out m j7 (by omega) (by omega)) hlt
      · dsimp only; omega
    · repeat' (first | exact rfl | with_reducible apply And.intro)
      · refine ⟨b1, by dsimp only; omega, by dsimp only; omega, b4, fun m hm hm2 => ?_⟩
        dsimp only at hm
        rw [h8] at hge
        by_cases hmp : m = j7
        · rw [hmp]; exact hge
        · exact fun hx => hge (Int.lt_trans (hs.out j7 m (by omega) hm2) hx)
      · dsimp only; omega
  · obtain rfl : i = j := by omega
    obtain ⟨p, rfl⟩ : ∃ p : Nat, i = p := ⟨i.toNat, by omega⟩
    have hK := hK p ⟨⟨b1, b3⟩, b4, b5⟩
    refine ⟨fun hlt => ⟨by omega, fun j12 h12 => ⟨by omega, fun z13 h13 => ?_⟩⟩, fun hge => hK.2 (fun hx => by have := hx.out.1; omega)⟩
    obtain rfl : j12 = p := by omega
    refine ⟨fun heq => hK.1 ⟨by omega, by rw [Int.toNat_natCast, ← h13]; exact heq⟩, fun hne => ?_⟩
    have hno : ¬ U.jbHasAt L n k j12 := fun hx => hne (by have := hx.out.2; rw [Int.toNat_natCast] at this; rw [h13]; exact this)
    repeat' (first | with_reducible apply And.intro | intro _)
    all_goals (first | exact hK.2 hno | omega | (exfalso; rename_i hx; exact hx rfl) | (exfalso; rename_i hx _; exact hx rfl))
end Go.Proofs.Ytgopjjimafcgjaa
end

section
namespace Go.Proofs.Ytgopjjimafcgjaa
open Go Reck Ost
set_option linter.unusedVariables false
set_option maxRecDepth 100000
def jbpBS : Pat := fun args σ => match args, σ with
  | [s, k], ⟨[], [], 0, [some ⟨40, .o (.rows [.n .u64] L), [], c0, false⟩], 0⟩ => match rslX s, aIntK .u64 k with
    | some ⟨0, 1, 0, n, c⟩, some k => some fun K => (c0 = c ∧ n ≤ L.length ∧ n ≤ 1000000 ∧ U.jbSrtR L n) ∧ ∀ z : Int, U.jbAt L n k z → (U.jbHasAt L n k z → K (zbA z true) ⟨[], [], 0, [some (jbkB L c)], 0⟩) ∧ (¬ U.jbHasAt L n k z → K (zbA z false) ⟨[], [], 0, [some (jbkB L c)], 0⟩)
    | _, _ => none
  | _, _ => none
theorem jbpBS_ok : PatOk 68 jbpBS := by
  intro tm σ C h K hK w0 e w hk vs hvs
  unfold jbpBS at h
  split at h
  · split at h
    · rename_i n c k hs hk'
      obtain rfl := rslX_eq hs
      simp only [Option.some.injEq] at h; subst h
      obtain ⟨⟨rfl, h1, h2, h3⟩, h4⟩ := hK
      obtain ⟨v, u, rfl, hv, hu⟩ := twos hvs
      exact knownC noOv names (conOk_ofR (tblIf_ok jbpLess_ok)) (jbbs_run K _ _ _ k h1 h2 h3 h4) w0 e w hk _ (map2 hv (as_aIntK hk' hu))
    · cases h
  · cases h
def jbtSh : Tbl := tblOr jbtID (tblIf 68 jbpBS)
theorem jbtSh_ok : TblOk Try.prog jbtSh := tblOr_ok jbtID_ok (tblIf_ok jbpBS_ok)
def jbB (a b : Cell) (m : Int) : Option Blk := some ⟨94, [a, b, xintC .i64 m], none, 3, false⟩
def jbSt (n c : Nat) (L : Rws) (d : Nat) (M : Rws) (m : Int) : St := ⟨[jbB (rslC ⟨0, 1, 0, n, c⟩) (rslC ⟨1, 7, 0, n, d⟩) m], [], 0, [some (jbkB L c), some (jbvB M d)], 0⟩
--PLAIN
theorem jbNew_vc (K:AV→St→Prop) (m:Int):(runV jbov inv0 tbl0 27 [xi .i64 m] emptySt K)=(K (Sum.inl (Sum.inl (Sum.inr (Sum.inl ((0:Nat),(0:Nat)))))) ⟨[some ⟨nat_lit 94,[Sum.inl (Value.slice none (0:Nat) (0:Nat)),Sum.inl (Value.slice none (0:Nat) (0:Nat)),xintC .i64 m],none,(0:Nat) + (1:Nat) + (1:Nat) + (1:Nat),false⟩],[],0,[],0⟩) := by kernel_rfl
theorem jbSet_vc (K:AV→St→Prop) (L M:Rws) (n c d:Nat) (m:Int) (k:Int) (v0:Int) (v1:Int) (v2:Int) (v3:Int) (v4:List Int) (v5:List Int) (v6:Int):(runV jbov inv0 jbtSh 42 [ptr 0 0,xi .u64 k,.inl (.inr (jbC v0 v1 v2 v3 v4 v5 v6))] (jbSt n c L d M m) K)=((c=c∧n≤List.length L∧n≤1000000∧U.jbSrtR L n)∧∀ (z0:Int),U.jbAt L n k z0→(U.jbHasAt L n k z0→(0≤z0∧z0<(↑n:Int))∧∀ (j1:Nat),(↑j1:Int)=(↑((0:Nat)):Int) + z0→j1<List.length M∧∀ (L'2:List (List CV)),L'2=U.put M j1 ((0:Nat)) [CV.i v0,CV.i v1,CV.i v2,CV.i v3,CV.s v4,CV.s v5,CV.i v6]→K (Sum.inl (Sum.inl (xintC .i64 (0:Int)))) ⟨[some ⟨nat_lit 94,[rslC ⟨0,1,0,n,c⟩,rslC ⟨1,7,0,n,d⟩,xintC .i64 m],none,3,false⟩],[],0,[some ⟨40,.o (.rows [.n .u64] L),[],c,false⟩,some ⟨nat_lit 43,.o (.rows [.n .u64,.n .u32,.n .i64,.n .i64,CK.s,CK.s,.n .i64] L'2),[],d,false⟩],0⟩)∧(¬U.jbHasAt L n k z0→∀ (z3:Int),z3=(↑n:Int)→(m≤z3→K (Sum.inl (Sum.inl (xintC .i64 (4:Int)))) ⟨[some ⟨nat_lit 94,[rslC ⟨0,1,0,n,c⟩,rslC ⟨1,7,0,n,d⟩,xintC .i64 m],none,3,false⟩],[],0,[some ⟨40,.o (.rows [.n .u64] L),[],c,false⟩,some ⟨43,.o (.rows [.n .u64,.n .u32,.n .i64,.n .i64,CK.s,CK.s,.n .i64] M),[],d,false⟩],0⟩)∧(¬m≤z3→∃ (y4:Rws),(c=c∧U.Fu L n c y4∧(0≤z0∧z0≤(↑n:Int))∧n + (1:Nat)≤1000000)∧∀ (n'5 c'6:Nat) (L'7:Rws),n'5=n + (1:Nat)→U.Fu L'7 n'5 c'6 (U.insR y4 z0 [CV.i k])→v0=v0∧v1=v1∧v2=v2∧v3=v3∧v4=v4∧v5=v5∧v6=v6∧((0:Nat)=0∧n=n∧d=d)∧∃ (y8:Rws),(d=d∧U.Fu M n d y8∧(0≤z0∧z0≤(↑n:Int))∧n + (1:Nat)≤1000000)∧∀ (n'9 c'10:Nat) (L'11:Rws),n'9=n + (1:Nat)→U.Fu L'11 n'9 c'10 (U.insR y8 z0 [CV.i v0,CV.i v1,CV.i v2,CV.i v3,CV.s v4,CV.s v5,CV.i v6])→v0=v0∧v1=v1∧v2=v2∧v3=v3∧v4=v4∧v5=v5∧v6=v6∧((0:Nat)=0∧n=n∧d=d)∧K (Sum.inl (Sum.inl (xintC .i64 (0:Int)))) ⟨[some ⟨nat_lit 94,[rslC ⟨2,1,0,n'5,c'6⟩,rslC ⟨3,7,0,n'9,c'10⟩,xintC .i64 m],none,3,false⟩],[],0,[none,none,some ⟨40,.o (.rows [.n .u64] L'7),[],c'6,false⟩,some ⟨(43:TypeId),.o (.rows [.n .u64,.n .u32,.n .i64,.n .i64,CK.s,CK.s,.n .i64] L'11),[],c'10,false⟩],0⟩))) := by kernel_rfl
theorem jbGet_vc (K:AV→St→Prop) (L M:Rws) (n c d:Nat) (m:Int) (k:Int):(runV jbov inv0 jbtSh 61 [ptr 0 0,xi .u64 k] (jbSt n c L d M m) K)=((c=c∧n≤List.length L∧n≤1000000∧U.jbSrtR L n)∧∀ (z0:Int),U.jbAt L n k z0→(U.jbHasAt L n k z0→(0≤z0∧z0<(↑n:Int))∧∀ (j1:Nat),(↑j1:Int)=(↑((0:Nat)):Int) + z0→j1<List.length M∧∀ (z2:Int),z2=U.fi M j1 ((0:Nat))→∀ (z3:Int),z3=U.fi M j1 ((0:Nat) + (1:Nat))→∀ (z4:Int),z4=U.fi M j1 ((0:Nat) + (1:Nat) + (1:Nat))→∀ (z5:Int),z5=U.fi M j1 ((0:Nat) + (1:Nat) + (1:Nat) + (1:Nat))→∀ (z6:List Int),z6=U.fs M j1 ((0:Nat) + (1:Nat) + (1:Nat) + (1:Nat) + (1:Nat))→∀ (z7:List Int),z7=U.fs M j1 ((0:Nat) + (1:Nat) + (1:Nat) + (1:Nat) + (1:Nat) + (1:Nat))→∀ (z8:Int),z8=U.fi M j1 ((0:Nat) + (1:Nat) + (1:Nat) + (1:Nat) + (1:Nat) + (1:Nat) + (1:Nat))→K (Sum.inr [Sum.inr [xintC .u64 z2,xintC .u32 z3,xintC .i64 z4,xintC .i64 z5,strC z6,strC z7,xintC .i64 z8],Sum.inl (Sum.inl (Value.bool true))]) ⟨[some ⟨nat_lit 94,[rslC ⟨0,1,0,n,c⟩,rslC ⟨1,7,0,n,d⟩,xintC .i64 m],none,3,false⟩],[],0,[some ⟨(40:TypeId),.o (.rows [.n .u64] L),[],c,false⟩,some ⟨(43:TypeId),.o (.rows [.n .u64,.n .u32,.n .i64,.n .i64,CK.s,CK.s,.n .i64] M),[],d,false⟩],0⟩)∧(¬U.jbHasAt L n k z0→K (Sum.inr [Sum.inr [xintC .u64 (0:Int),xintC .u32 (0:Int),xintC .i64 (0:Int),xintC .i64 (0:Int),Sum.inl (Value.string { data := { toList := [] } }),Sum.inl (Value.string { data := { toList := [] } }),xintC .i64 (0:Int)],Sum.inl (Sum.inl (Value.bool false))]) ⟨[some ⟨nat_lit 94,[rslC ⟨0,1,0,n,c⟩,rslC ⟨1,7,0,n,d⟩,xintC .i64 m],none,3,false⟩],[],0,[some ⟨(40:TypeId),.o (.rows [.n .u64] L),[],c,false⟩,some ⟨(43:TypeId),.o (.rows [.n .u64,.n .u32,.n .i64,.n .i64,CK.s,CK.s,.n .i64] M),[],d,false⟩],0⟩)) := by kernel_rfl
theorem jbVals_vc (K:AV→St→Prop) (L M:Rws) (n c d:Nat) (m:Int):(runV jbov inv0 jbtSh 38 [ptr 0 0] (jbSt n c L d M m) K)=((n=0→K (Sum.inl (Sum.inl (rslC ⟨2,(6:Nat) + (1:Nat),0,0,0⟩))) ⟨[some ⟨nat_lit 94,[rslC ⟨0,1,0,n,c⟩,rslC ⟨1,7,0,n,d⟩,xintC .i64 m],none,3,false⟩],[],0,[some ⟨(40:TypeId),.o (.rows [.n .u64] L),[],c,false⟩,some ⟨(43:TypeId),.o (.rows [.n .u64,.n .u32,.n .i64,.n .i64,CK.s,CK.s,.n .i64] M),[],d,false⟩,some ⟨43,.o (.rows [.n .u64,.n .u32,.n .i64,.n .i64,CK.s,CK.s,.n .i64] U.nilL),[],0,false⟩],0⟩)∧True∧Nat.le ((0:Nat) + n) (List.length M)∧(0:Nat)≤16777216∧n≤16777216∧∀ (L'0:List (List CV)) (n'1 c'2:Nat),L'0=U.nilL ++ List.take n (List.drop ((0:Nat)) M)→n'1=0 + n→n'1≤c'2→K (Sum.inl (Sum.inl (rslC ⟨2,(6:Nat) + (1:Nat),0,n'1,c'2⟩))) ⟨[some ⟨nat_lit 94,[rslC ⟨0,1,0,n,c⟩,rslC ⟨1,7,0,n,d⟩,xintC .i64 m],none,3,false⟩],[],0,[some ⟨(40:TypeId),.o (.rows [.n .u64] L),[],c,false⟩,some ⟨(43:TypeId),.o (.rows [.n .u64,.n .u32,.n .i64,.n .i64,CK.s,CK.s,.n .i64] M),[],d,false⟩,some ⟨43,.o (.rows [.n .u64,.n .u32,.n .i64,.n .i64,CK.s,CK.s,.n .i64] L'0),[],c'2,false⟩],0⟩) := by kernel_rfl
theorem jbKeys_vc (K:AV→St→Prop) (L M:Rws) (n c d:Nat) (m:Int):(runQ inv0 tbl0 66 [ptr 0 0] (jbSt n c L d M m) K)=((n=0→K (Sum.inl (Sum.inl (rslC ⟨2,(0:Nat) + (1:Nat),0,0,0⟩))) ⟨[some ⟨nat_lit 94,[rslC ⟨0,1,0,n,c⟩,rslC ⟨1,7,0,n,d⟩,xintC .i64 m],none,3,false⟩],[],0,[some ⟨(40:TypeId),.o (.rows [.n .u64] L),[],c,false⟩,some ⟨(43:TypeId),.o (.rows [.n .u64,.n .u32,.n .i64,.n .i64,CK.s,CK.s,.n .i64] M),[],d,false⟩,some ⟨40,.o (.rows [.n .u64] U.nilL),[],0,false⟩],0⟩)∧True∧Nat.le ((0:Nat) + n) (List.length L)∧(0:Nat)≤16777216∧n≤16777216∧∀ (L'0:List (List CV)) (n'1 c'2:Nat),L'0=U.nilL ++ List.take n (List.drop ((0:Nat)) L)→n'1=0 + n→n'1≤c'2→K (Sum.inl (Sum.inl (rslC ⟨2,(0:Nat) + (1:Nat),0,n'1,c'2⟩))) ⟨[some ⟨nat_lit 94,[rslC ⟨0,1,0,n,c⟩,rslC ⟨1,7,0,n,d⟩,xintC .i64 m],none,3,false⟩],[],0,[some ⟨(40:TypeId),.o (.rows [.n .u64] L),[],c,false⟩,some ⟨(43:TypeId),.o (.rows [.n .u64,.n .u32,.n .i64,.n .i64,CK.s,CK.s,.n .i64] M),[],d,false⟩,some ⟨40,.o (.rows [.n .u64] L'0),[],c'2,false⟩],0⟩) := by kernel_rfl
end Go.Proofs.Ytgopjjimafcgjaa
end

section
set_option linter.unusedVariables false
set_option linter.unusedSimpArgs false
set_option maxRecDepth 10000
namespace Go.Proofs.Ytgopjjimafcgjaa
open Go Reck Ost
theorem jbirr {a : Int} (h : a < a) : False := Int.lt_irrefl _ h
theorem jbtri {a b : Int} (h : ¬ a < b) (k : ¬ b < a) : a = b := by omega
abbrev JBP := List (Int × JBv)
def U.jbks (P : JBP) : Rws := P.map fun p => [.i p.1]
def U.jbvs (P : JBP) : Rws := P.map fun p => p.2.row
structure U.jbSrt (P : JBP) : Prop where
  out : P.Pairwise fun a b => a.1 < b.1
structure U.jbHasK (P : JBP) (k : Int) : Prop where
  out : ∃ e, (k, e) ∈ P
/-- P' is P with an entry put in. -/
structure U.jbPut (P : JBP) (k : Int) (e : JBv) (P' : JBP) : Prop where
  srt : U.jbSrt P'
  mem : ∀ x y, (x, y) ∈ P' ↔ (x = k ∧ y = e) ∨ ((x, y) ∈ P ∧ x ≠ k)
  has : U.jbHasK P k → P'.length = P.length
  non : ¬ U.jbHasK P k → P'.length = P.length + 1
/-- What a shelf has. -/
structure U.jbshI (n c : Nat) (L : Rws) (d : Nat) (M : Rws) (P : JBP) : Prop where
  kf : U.Fu L n c (U.jbks P)
  vf : U.Fu M n d (U.jbvs P)
  srt : U.jbSrt P
theorem jbshI_n {n c d : Nat} {L M : Rws} {P : JBP} (h : U.jbshI n c L d M P) : P.length = n := by
  have := h.kf.n; simpa [U.jbks] using this
theorem jbkey_at {n c d : Nat} {L M : Rws} {P : JBP} (h : U.jbshI n c L d M P) {m : Nat} {p : Int × JBv} (hp : P[m]? = some p) : U.fi L m 0 = p.1 := by
  have hm : m < n := by rw [← jbshI_n h]; exact (List.getElem?_eq_some_iff.1 hp).1
  have := fuGet h.kf hm
  unfold U.fi
  rw [List.getD_eq_getElem?_getD, this]
  simp [U.jbks, hp]
theorem jbrow_at {n c d : Nat} {L M : Rws} {P : JBP} (h : U.jbshI n c L d M P) {m : Nat} {p : Int × JBv} (hp : P[m]? = some p) : M.getD m [] = p.2.row := by
  have hm : m < n := by rw [← jbshI_n h]; exact (List.getElem?_eq_some_iff.1 hp).1
  have := fuGet h.vf hm
  rw [List.getD_eq_getElem?_getD, this]
  simp [U.jbvs, hp]
theorem jbsrt_R {n c d : Nat} {L M : Rws} {P : JBP} (h : U.jbshI n c L d M P) : U.jbSrtR L n := by
  refine ⟨fun i j hij hj => ?_⟩
  have hn := jbshI_n h
  rw [jbkey_at h (List.getElem?_eq_getElem (show i < P.length by omega)), jbkey_at h (List.getElem?_eq_getElem (show j < P.length by omega))]
  exact List.pairwise_iff_getElem.1 h.srt.out i j (by omega) (by omega) hij
theorem jbat_lo {n c d : Nat} {L M : Rws} {P : JBP} (h : U.jbshI n c L d M P) {k : Int} {z : Nat} (ha : U.jbAt L n k z) {p : Int × JBv} (hp : p ∈ P.take z) : p.1 < k := by
  obtain ⟨m, hm⟩ := List.getElem?_of_mem hp
  rw [List.getElem?_take] at hm
  split at hm
  · rename_i hlt
    have := ha.lo m (by omega)
    rwa [jbkey_at h hm] at this
  · cases hm
theorem jbat_hi {n c d : Nat} {L M : Rws} {P : JBP} (h : U.jbshI n c L d M P) {k : Int} {z : Nat} (ha : U.jbAt L n k z) {p : Int × JBv} (hp : p ∈ P.drop z) : ¬ p.1 < k := by
  obtain ⟨m, hm⟩ := List.getElem?_of_mem hp
  rw [List.getElem?_drop] at hm
  have hl := (List.getElem?_eq_some_iff.1 hm).1
  have := ha.hi (z + m) (by omega) (by rw [← jbshI_n h]; exact hl)
  rwa [jbkey_at h hm] at this
theorem jbhas_iff {n c d : Nat} {L M : Rws} {P : JBP} (h : U.jbshI n c L d M P) {k : Int} {z : Nat} (ha : U.jbAt L n k z) : U.jbHasAt L n k z ↔ U.jbHasK P k := by
  have hn := jbshI_n h
  constructor
  · rintro ⟨h1, h2⟩
    have hz : z < P.length := by omega
    refine ⟨P[z].2, ?_⟩
    rw [Int.toNat_natCast, jbkey_at h (List.getElem?_eq_getElem hz)] at h2
    rw [← h2]; exact List.getElem_mem hz
  · rintro ⟨e, he⟩
    obtain ⟨m, hm⟩ := List.getElem?_of_mem he
    have hl := (List.getElem?_eq_some_iff.1 hm).1
    have hk := jbkey_at h hm
    have h1 : ¬ (m < z) := fun hlt => by
      have := ha.lo m (by omega)
      rw [hk] at this; exact jbirr this
    have h2 : ¬ (z < m) := fun hlt => by
      have a := ha.hi z (by omega) (by omega)
      have b := (jbsrt_R h).out z m hlt (by omega)
      rw [hk] at b; exact a b
    obtain rfl : m = z := by omega
    exact ⟨by omega, by rw [Int.toNat_natCast]; exact hk⟩
theorem jbput_non {n c d : Nat} {L M : Rws} {P : JBP} (h : U.jbshI n c L d M P) {k : Int} {z : Nat} (ha : U.jbAt L n k z) (hk : ¬ U.jbHasK P k) (e : JBv) :
    U.jbPut P k e (P.take z ++ [(k, e)] ++ P.drop z) ∧ U.jbks (P.take z ++ [(k, e)] ++ P.drop z) = U.insR (U.jbks P) z [.i k] ∧ U.jbvs (P.take z ++ [(k, e)] ++ P.drop z) = U.insR (U.jbvs P) z e.row := by
  have hne : ∀ p ∈ P, p.1 ≠ k := fun p hp he => hk ⟨p.2, he ▸ hp⟩
  have hgt : ∀ p ∈ P.drop z, k < p.1 := fun p hp => by
    by_cases hx : k < p.1
    · exact hx
    · exact (hne p (List.mem_of_mem_drop hp) (jbtri (jbat_hi h ha hp) hx)).elim
  have hs := h.srt.out
  refine ⟨⟨⟨?_⟩, fun x y => ?_, fun hx => (hk hx).elim, fun _ => ?_⟩, ?_, ?_⟩
  · rw [← List.take_append_drop z P, List.pairwise_append] at hs
    rw [List.append_assoc, List.pairwise_append]
    refine ⟨hs.1, ?_, ?_⟩
    · rw [List.singleton_append, List.pairwise_cons]
      exact ⟨hgt, hs.2.1⟩
    · intro a ha' b hb
      rcases List.mem_cons.1 hb with rfl | hb
      · exact jbat_lo h ha ha'
      · exact hs.2.2 a ha' b hb
  · have hm : (x, y) ∈ P ↔ (x, y) ∈ P.take z ∨ (x, y) ∈ P.drop z := by
      rw [← List.mem_append, List.take_append_drop]
    simp only [List.mem_append, List.mem_singleton, Prod.mk.injEq]
    constructor
    · rintro ((hx | hx) | hx)
      · exact .inr ⟨hm.2 (.inl hx), hne _ (hm.2 (.inl hx))⟩
      · exact .inl hx
      · exact .inr ⟨hm.2 (.inr hx), hne _ (hm.2 (.inr hx))⟩
    · rintro (hx | ⟨hx, _⟩)
      · exact .inl (.inr hx)
      · rcases hm.1 hx with hx | hx
        · exact .inl (.inl hx)
        · exact .inr hx
  · have := ha.b
    have hn := jbshI_n h
    simp; omega
  · simp [U.jbks, U.insR, List.map_take, List.map_drop]
  · simp [U.jbvs, U.insR, List.map_take, List.map_drop]
theorem jbput_has {n c d : Nat} {L M : Rws} {P : JBP} (h : U.jbshI n c L d M P) {k : Int} {z : Nat} (ha : U.jbAt L n k z) (hk : U.jbHasAt L n k z) (e : JBv) :
    U.jbPut P k e (P.set z (k, e)) ∧ U.jbks (P.set z (k, e)) = U.jbks P ∧ U.jbvs (P.set z (k, e)) = (U.jbvs P).set z e.row := by
  have hn := jbshI_n h
  obtain ⟨h1, h2⟩ := hk.out
  have hz : z < P.length := by omega
  have hkz : P[z].1 = k := by
    rw [Int.toNat_natCast, jbkey_at h (List.getElem?_eq_getElem hz)] at h2; exact h2
  have hks : U.jbks (P.set z (k, e)) = U.jbks P := by
    apply List.ext_getElem?
    intro m
    simp only [U.jbks, List.getElem?_map, List.getElem?_set]
    by_cases hm : z = m
    · subst hm
      rw [if_pos rfl, if_pos hz, List.getElem?_eq_getElem hz]; simp [hkz]
    · rw [if_neg hm]
  have hlk : ∀ i (hi : i < P.length) (hi' : i < (P.set z (k, e)).length), ((P.set z (k, e))[i]).1 = (P[i]).1 := fun i hi hi' => by
    rw [List.getElem_set]
    split
    · rename_i hzi; subst hzi; exact hkz.symm
    · rfl
  refine ⟨⟨⟨?_⟩, fun x y => ?_, fun _ => List.length_set, fun hx => (hx ((jbhas_iff h ha).1 hk)).elim⟩, hks, ?_⟩
  · rw [List.pairwise_iff_getElem]
    intro i j hi hj hij
    rw [List.length_set] at hi hj
    rw [hlk i hi, hlk j hj]
    exact List.pairwise_iff_getElem.1 h.srt.out i j hi hj hij
  · constructor
    · intro hx
      obtain ⟨m, hm⟩ := List.getElem?_of_mem hx
      rw [List.getElem?_set] at hm
      split at hm
      · try rw [if_pos hz] at hm
        simp only [Option.some.injEq, Prod.mk.injEq] at hm
        exact .inl ⟨hm.1.symm, hm.2.symm⟩
      · rename_i hne
        refine .inr ⟨List.mem_of_getElem? hm, fun he => ?_⟩
        have hl := (List.getElem?_eq_some_iff.1 hm).1
        have e1 := jbkey_at h hm
        have e2 := jbkey_at h (List.getElem?_eq_getElem hz)
        rw [hkz] at e2
        dsimp only at e1
        rcases Nat.lt_or_gt_of_ne hne with hlt | hlt
        · have := (jbsrt_R h).out z m hlt (by omega)
          rw [e1, e2, he] at this; exact jbirr this
        · have := (jbsrt_R h).out m z hlt (by omega)
          rw [e1, e2, he] at this; exact jbirr this
    · rintro (⟨rfl, rfl⟩ | ⟨hx, hne⟩)
      · exact List.mem_of_getElem? (i := z) (by rw [List.getElem?_set, if_pos rfl, if_pos hz])
      · obtain ⟨m, hm⟩ := List.getElem?_of_mem hx
        refine List.mem_of_getElem? (i := m) ?_
        rw [List.getElem?_set]
        by_cases hmz : z = m
        · subst hmz
          rw [List.getElem?_eq_getElem hz] at hm
          simp only [Option.some.injEq] at hm
          exact (hne (by rw [hm] at hkz; exact hkz)).elim
        · rw [if_neg hmz]; exact hm
  · apply List.ext_getElem?
    intro m
    simp only [U.jbvs, List.getElem?_map, List.getElem?_set, List.length_map]
    by_cases hm : z = m
    · subst hm
      rw [if_pos rfl, if_pos rfl, if_pos hz, if_pos hz]; rfl
    · rw [if_neg hm, if_neg hm]
theorem jbput_row {n c d : Nat} {L M M' : Rws} {P : JBP} (h : U.jbshI n c L d M P) {z : Nat} (hz : z < n) (e : JBv) {r : List CV} (hr : r = e.row) (hM : M' = U.put M z 0 r) : U.Fu M' n d ((U.jbvs P).set z e.row) := by
  subst hr
  have hn := jbshI_n h
  have hrow := jbrow_at h (List.getElem?_eq_getElem (show z < P.length by omega))
  have hp1 : put1 (M.getD z []) 0 e.row = e.row := by
    rw [hrow]
    simp [put1, JBv.row, jbR]
  unfold U.put at hM
  rw [hp1] at hM
  obtain ⟨v1, v2, v3, v4⟩ := h.vf
  exact ⟨by rw [hM, v1, List.take_set], by rw [hM, List.length_set]; exact v2, v3, v4⟩
def jbshNw (n c : Nat) (L : Rws) (d : Nat) (M : Rws) (m : Int) : St := ⟨[jbB (rslC ⟨2, 1, 0, n, c⟩) (rslC ⟨3, 7, 0, n, d⟩) m], [], 0, [none, none, some (jbkB L c), some (jbvB M d)], 0⟩
/-- P' is P with a key taken out. -/
structure U.jbRem (P : JBP) (k : Int) (P' : JBP) : Prop where
  srt : U.jbSrt P'
  mem : ∀ x y, (x, y) ∈ P' ↔ (x, y) ∈ P ∧ x ≠ k
  len : P'.length + 1 = P.length
theorem jbrem_has {n c d : Nat} {L M : Rws} {P : JBP} (h : U.jbshI n c L d M P) {k : Int} {z : Nat} (ha : U.jbAt L n k z) (hk : U.jbHasAt L n k z) :
    U.jbRem P k (P.eraseIdx z) ∧ U.jbks (P.eraseIdx z) = U.erR (U.jbks P) z ∧ U.jbvs (P.eraseIdx z) = U.erR (U.jbvs P) z := by
  have hn := jbshI_n h
  obtain ⟨h1, h2⟩ := hk.out
  have hz : z < P.length := by omega
  have hkz : P[z].1 = k := by
    rw [Int.toNat_natCast, jbkey_at h (List.getElem?_eq_getElem hz)] at h2; exact h2
  have hlt : ∀ i j (hi : i < P.length) (hj : j < P.length), i < j → (P[i]).1 < (P[j]).1 := fun i j hi hj hij => List.pairwise_iff_getElem.1 h.srt.out i j hi hj hij
  refine ⟨⟨⟨List.Pairwise.sublist (List.eraseIdx_sublist _ _) h.srt.out⟩, fun x y => ?_, by rw [List.length_eraseIdx_of_lt hz]; omega⟩, ?_, ?_⟩
  · rw [List.mem_eraseIdx_iff_getElem?]
    constructor
    · rintro ⟨i, hi, hx⟩
      refine ⟨List.mem_of_getElem? hx, fun he => ?_⟩
      obtain ⟨hl, hx⟩ := List.getElem?_eq_some_iff.1 hx
      have e1 : (P[i]).1 = k := by rw [hx]; exact he
      rcases Nat.lt_or_gt_of_ne hi with g | g
      · have := hlt i z hl hz g
        rw [e1, hkz] at this; exact jbirr this
      · have := hlt z i hz hl g
        rw [e1, hkz] at this; exact jbirr this
    · rintro ⟨hx, hne⟩
      obtain ⟨i, hi⟩ := List.getElem?_of_mem hx
      refine ⟨i, fun he => hne ?_, hi⟩
      subst he
      rw [List.getElem?_eq_getElem hz] at hi
      simp only [Option.some.injEq] at hi
      rw [hi] at hkz; exact hkz
  · unfold U.erR U.jbks
    rw [Int.toNat_natCast]; simp [List.eraseIdx_eq_take_drop_succ, List.map_take, List.map_drop]
  · unfold U.erR U.jbvs
    rw [Int.toNat_natCast]; simp [List.eraseIdx_eq_take_drop_succ, List.map_take, List.map_drop]
theorem jbSet_run (K : AV → St → Prop) (L M : Rws) (n c d : Nat) (m : Int) (k : Int) (e : JBv) (P : JBP) (h : U.jbshI n c L d M P) (hn : n ≤ 100000)
    (h1 : U.jbHasK P k → ∀ (M' : Rws) (P' : JBP), U.jbPut P k e P' → U.jbshI n c L d M' P' → K (xi .i64 0) (jbSt n c L d M' m))
    (h2 : ¬ U.jbHasK P k → m ≤ n → K (xi .i64 4) (jbSt n c L d M m))
    (h3 : ¬ U.jbHasK P k → (n : Int) < m → ∀ (L' : Rws) (n' c' : Nat) (M' : Rws) (d' : Nat) (P' : JBP), n' = n + 1 → U.jbPut P k e P' → U.jbshI n' c' L' d' M' P' → K (xi .i64 0) (jbshNw n' c' L' d' M' m)) :
    runV jbov inv0 jbtSh 42 [ptr 0 0, xi .u64 k, .inl (.inr e.cells)] (jbSt n c L d M m) K := by
  obtain ⟨v0, v1, v2, v3, v4, v5, v6⟩ := e
  have hPn := jbshI_n h
  have hl := h.kf.len
  have hle := h.kf.le
  have hl2 := h.vf.len
  have hle2 := h.vf.le
  have G : ∀ (z : Nat), U.jbAt L n k z → (U.jbHasAt L n k z ↔ U.jbHasK P k) := fun z ha => jbhas_iff h ha
  show runV jbov inv0 jbtSh 42 [ptr 0 0, xi .u64 k, .inl (.inr (jbC v0 v1 v2 v3 v4 v5 v6))] (jbSt n c L d M m) K
  rw [jbSet_vc]
  refine ⟨⟨rfl, by omega, by omega, jbsrt_R h⟩, fun z hz => ?_⟩
  have hb := hz.b
  obtain ⟨z, rfl⟩ : ∃ y : Nat, z = y := ⟨z.toNat, by omega⟩
  refine ⟨fun hx => ⟨by have := hx.out.1; omega, fun j1 hj1 => ⟨by have := hx.out.1; omega, fun M' hM => ?_⟩⟩, fun hx z3 h3' => ⟨fun hfull => ?_, fun hroom => ⟨U.jbks P, ⟨rfl, h.kf, by omega, by omega⟩, fun n5 c6 L7 e5 e7 => ?_⟩⟩⟩
  · obtain rfl : j1 = z := by omega
    obtain ⟨q1, q2, q3⟩ := jbput_has h hz hx ⟨v0, v1, v2, v3, v4, v5, v6⟩
    exact h1 ((G j1 hz).1 hx) M' _ q1 ⟨by rw [q2]; exact h.kf, by rw [q3]; exact jbput_row h (by have := hx.out.1; omega) _ rfl hM, q1.srt⟩
  · exact h2 (fun hy => hx ((G z hz).2 hy)) (by omega)
  · repeat (first | refine ⟨rfl, ?_⟩ | refine ⟨⟨rfl, rfl, rfl⟩, ?_⟩)
    refine ⟨U.jbvs P, ⟨rfl, h.vf, by omega, by omega⟩, fun n9 d10 M11 e9 e11 => ?_⟩
    obtain rfl : n9 = n5 := by omega
    obtain ⟨q1, q2, q3⟩ := jbput_non h hz (fun hy => hx ((G z hz).2 hy)) ⟨v0, v1, v2, v3, v4, v5, v6⟩
    repeat' (first | exact rfl | with_reducible apply And.intro)
    exact h3 (fun hy => hx ((G z hz).2 hy)) (by omega) _ _ _ _ _ _ e5 q1 ⟨by rw [q2]; exact e7, by rw [q3]; exact e11, q1.srt⟩
/-- This thing is there by this key. -/
structure U.jbHasE (P : JBP) (k : Int) (v0 : Int) (v1 : Int) (v2 : Int) (v3 : Int) (v4 : List Int) (v5 : List Int) (v6 : Int) : Prop where
  out : (k, (⟨v0, v1, v2, v3, v4, v5, v6⟩ : JBv)) ∈ P
theorem jbof {M : Rws} {j : Nat} {e : JBv} (h : M.getD j [] = e.row) : (⟨U.fi M j 0, U.fi M j 1, U.fi M j 2, U.fi M j 3, U.fs M j 4, U.fs M j 5, U.fi M j 6⟩ : JBv) = e := by
  unfold U.fi U.fs
  rw [h]
  rfl
abbrev jbge (v0 : Int) (v1 : Int) (v2 : Int) (v3 : Int) (v4 : List Int) (v5 : List Int) (v6 : Int) (ok : Bool) : AV := .inr [.inr (jbC v0 v1 v2 v3 v4 v5 v6), .inl (.inl (.bool ok))]
abbrev jbg0 : AV := .inr [.inr [xintC .u64 0, xintC .u32 0, xintC .i64 0, xintC .i64 0, .inl (.string ⟨⟨[]⟩⟩), .inl (.string ⟨⟨[]⟩⟩), xintC .i64 0], .inl (.inl (.bool false))]
theorem jbGet_run (K : AV → St → Prop) (L M : Rws) (n c d : Nat) (m : Int) (k : Int) (P : JBP) (h : U.jbshI n c L d M P) (hn : n ≤ 100000)
    (hT : ∀ (v0 : Int) (v1 : Int) (v2 : Int) (v3 : Int) (v4 : List Int) (v5 : List Int) (v6 : Int), U.jbHasE P k v0 v1 v2 v3 v4 v5 v6 → K (jbge v0 v1 v2 v3 v4 v5 v6 true) (jbSt n c L d M m)) (hF : ¬ U.jbHasK P k → K jbg0 (jbSt n c L d M m)) :
    runV jbov inv0 jbtSh 61 [ptr 0 0, xi .u64 k] (jbSt n c L d M m) K := by
  rw [jbGet_vc]
  have hPn := jbshI_n h
  have hl := h.kf.len
  have hle := h.kf.le
  have hl2 := h.vf.len
  have hle2 := h.vf.le
  refine ⟨⟨rfl, by omega, by omega, jbsrt_R h⟩, fun z hz => ?_⟩
  have hb := hz.b
  obtain ⟨z, rfl⟩ : ∃ y : Nat, z = y := ⟨z.toNat, by omega⟩
  refine ⟨fun hx => ⟨by have := hx.out.1; omega, fun j1 hj1 => ⟨by have := hx.out.1; omega, ?_⟩⟩, fun hx => hF (fun hy => hx ((jbhas_iff h hz).2 hy))⟩
  obtain rfl : j1 = z := by omega
  obtain ⟨g1, g2⟩ := hx.out
  have hzl : j1 < P.length := by omega
  have hP := List.getElem?_eq_getElem hzl
  have hrow := jbrow_at h hP
  have hkz := jbkey_at h hP
  rw [Int.toNat_natCast, hkz] at g2
  have hmem : (k, P[j1].2) ∈ P := by rw [← g2]; exact List.getElem_mem hzl
  have hT := hT (U.fi M j1 0) (U.fi M j1 1) (U.fi M j1 2) (U.fi M j1 3) (U.fs M j1 4) (U.fs M j1 5) (U.fi M j1 6) ⟨by rw [jbof hrow]; exact hmem⟩
  rintro _ rfl _ rfl _ rfl _ rfl _ rfl _ rfl _ rfl
  exact hT

theorem jbVals_run (K : AV → St → Prop) (L M : Rws) (n c d : Nat) (m : Int) (P : JBP) (h : U.jbshI n c L d M P)
    (hK : ∀ (L' : Rws) (n' c' : Nat), n' = n → n' ≤ c' → L' = U.jbvs P → K (cell (rslC ⟨2, 7, 0, n', c'⟩)) ⟨[jbB (rslC ⟨0, 1, 0, n, c⟩) (rslC ⟨1, 7, 0, n, d⟩) m], [], 0, [some (jbkB L c), some (jbvB M d), some (jbvB L' c')], 0⟩) :
    runV jbov inv0 jbtSh 38 [ptr 0 0] (jbSt n c L d M m) K := by
  rw [jbVals_vc]
  have hPn := jbshI_n h
  have hv := h.vf.n
  have hl2 := h.vf.len
  have hle2 := h.vf.le
  have hsm := h.vf.sm
  refine ⟨fun h0 => hK [] 0 0 h0.symm (Nat.le_refl _) (List.eq_nil_of_length_eq_zero (by omega)).symm, trivial, (by omega : 0 + n ≤ M.length), by omega, by omega, fun L0 n1 c2 e0 e1 e2 => ?_⟩
  obtain rfl : n1 = n := by omega
  refine hK L0 n1 c2 rfl e2 ?_
  rw [e0, List.drop_zero, h.vf.eq]; rfl
theorem jbKeys_run (K : AV → St → Prop) (L M : Rws) (n c d : Nat) (m : Int) (P : JBP) (h : U.jbshI n c L d M P)
    (hK : ∀ (L' : Rws) (n' c' : Nat), n' = n → n' ≤ c' → L' = U.jbks P → K (cell (rslC ⟨2, 1, 0, n', c'⟩)) ⟨[jbB (rslC ⟨0, 1, 0, n, c⟩) (rslC ⟨1, 7, 0, n, d⟩) m], [], 0, [some (jbkB L c), some (jbvB M d), some (jbkB L' c')], 0⟩) :
    runQ inv0 tbl0 66 [ptr 0 0] (jbSt n c L d M m) K := by
  rw [jbKeys_vc]
  have hPn := jbshI_n h
  have hv := h.kf.n
  have hl2 := h.kf.len
  have hle2 := h.kf.le
  have hsm := h.kf.sm
  refine ⟨fun h0 => hK [] 0 0 h0.symm (Nat.le_refl _) (List.eq_nil_of_length_eq_zero (by omega)).symm, trivial, (by omega : 0 + n ≤ L.length), by omega, by omega, fun L0 n1 c2 e0 e1 e2 => ?_⟩
  obtain rfl : n1 = n := by omega
  refine hK L0 n1 c2 rfl e2 ?_
  rw [e0, List.drop_zero, h.kf.eq]; rfl
end Go.Proofs.Ytgopjjimafcgjaa
end

section
set_option linter.unusedVariables false
set_option linter.unusedSimpArgs false
set_option maxRecDepth 10000
namespace Go.Proofs.Ytgopjjimafcgjaa
open Go Reck Ost
theorem jbstrX_cv {c : Cell} {l : List Int} {e : Env} {x : Value} (h : strX (cell c) = some l) (hv : Reck.cv e c = some x) : Reck.cv e (strC l) = some x := by
  obtain ⟨rfl, hb⟩ := strX_ok h (v := x) hv
  exact strC_av hb e
/-- A thing as a value: texts may be literals. -/
def jbXA (l : List Cell) : Option JBv :=
  match l with
  | [v0, v1, v2, v3, v4, v5, v6] => match xiX (cell v0), xiX (cell v1), xiX (cell v2), xiX (cell v3), strX (cell v4), strX (cell v5), xiX (cell v6) with
    | some (.u64, v0), some (.u32, v1), some (.i64, v2), some (.i64, v3), some v4, some v5, some (.i64, v6) => some ⟨v0, v1, v2, v3, v4, v5, v6⟩
    | _, _, _, _, _, _, _ => none
  | _ => none
theorem jbXA_av {l : List Cell} {en : JBv} (h : jbXA l = some en) {ev : Env} {v : Value} (hv : Reck.av ev (.inl (.inr l)) = some v) : Reck.av ev (.inl (.inr en.cells)) = some v := by
  unfold jbXA at h
  split at h
  · split at h
    · rename_i c0 c1 c2 c3 c4 c5 c6 y0 y1 y2 y3 y4 y5 y6 w0 w1 w2 w3 w4 w5 w6 h0 h1 h2 h3 h4 h5 h6
      simp only [Option.some.injEq] at h; subst h
      rw [cInj (xiX_eq h0)] at hv
      rw [cInj (xiX_eq h1)] at hv
      rw [cInj (xiX_eq h2)] at hv
      rw [cInj (xiX_eq h3)] at hv
      rw [cInj (xiX_eq h6)] at hv
      simp only [Reck.av, Reck.v1, List.map_cons, List.map_nil, JBv.cells, jbC] at hv ⊢
      obtain ⟨x4, hc4⟩ : ∃ x, Reck.cv ev c4 = some x := by
        cases hc : Reck.cv ev c4 with
        | none => rw [hc] at hv; simp [seqO, xintC, Reck.cv] at hv
        | some x => exact ⟨x, rfl⟩
      rw [hc4] at hv
      rw [jbstrX_cv h4 hc4]
      obtain ⟨x5, hc5⟩ : ∃ x, Reck.cv ev c5 = some x := by
        cases hc : Reck.cv ev c5 with
        | none => rw [hc] at hv; simp [seqO, xintC, Reck.cv] at hv
        | some x => exact ⟨x, rfl⟩
      rw [hc5] at hv
      rw [jbstrX_cv h5 hc5]
      exact hv
    · cases h
  · cases h
/-- The state of a shelf. -/
def jbshC (p : Option Blk) (a1 a2 : Option ABlk) : Option (Nat × Nat × Rws × Nat × Rws × Int) :=
  match p, a1, a2 with
  | some ⟨94, [a, b, m], none, 3, false⟩, some ⟨40, .o (.rows [.n .u64] L), [], c0, false⟩, some ⟨43, .o (.rows ks M), [], d0, false⟩ => match cRsl a, cRsl b, cInt m, sameK ks jbvK with
    | some ⟨0, 1, 0, n, c⟩, some ⟨1, 7, 0, n2, d⟩, some m, true => some (n, c0, L, d0, M, m)
    | _, _, _, _ => none
  | _, _, _ => none
/-- Its slices tell the same. -/
def jbshD (p : Option Blk) (a1 a2 : Option ABlk) : Prop :=
  match p, a1, a2 with
  | some ⟨_, [a, b, _], _, _, _⟩, some ⟨_, _, _, c0, _⟩, some ⟨_, _, _, d0, _⟩ => match cRsl a, cRsl b with
    | some ⟨_, _, _, n, c⟩, some ⟨_, _, _, n2, d⟩ => c = c0 ∧ d = d0 ∧ n2 = n
    | _, _ => False
  | _, _, _ => False
theorem jbshC_eq {p : Option Blk} {a1 a2 : Option ABlk} {n c d : Nat} {L M : Rws} {m : Int} (h : jbshC p a1 a2 = some (n, c, L, d, M, m)) (hy : jbshD p a1 a2) : p = jbB (rslC ⟨0, 1, 0, n, c⟩) (rslC ⟨1, 7, 0, n, d⟩) m ∧ a1 = some (jbkB L c) ∧ a2 = some (jbvB M d) := by
  unfold jbshC at h
  split at h
  · split at h
    · rename_i h1 h2 h3 h4
      simp only [Option.some.injEq, Prod.mk.injEq] at h
      obtain ⟨rfl, rfl, rfl, rfl, rfl, rfl⟩ := h
      simp only [jbshD, h1, h2] at hy
      obtain ⟨rfl, rfl, rfl⟩ := hy
      rw [cRsl_eq h1, cRsl_eq h2, cInt_eq h3, sameK_eq h4]
      exact ⟨rfl, rfl, rfl⟩
    · cases h
  · cases h
theorem jbmv {w0 w : World} {e : Env} {n c d : Nat} {L M : Rws} {m : Int} {H : List (Option Blk)} (h : Ok w0 e ⟨jbB (rslC ⟨0, 1, 0, n, c⟩) (rslC ⟨1, 7, 0, n, d⟩) m :: H, [], 0, [some (jbkB L c), some (jbvB M d)], 0⟩ w) :
    ∃ e', e.le e' ∧ Ok w0 e' ⟨jbB (rslC ⟨2, 1, 0, n, c⟩) (rslC ⟨3, 7, 0, n, d⟩) m :: H, [], 0, [none, none, some (jbkB L c), some (jbvB M d)], 0⟩ w := by
  have hb : ∃ q, e.blk[0]? = some q := by
    have := h.blks
    exact ⟨_, List.getElem?_eq_getElem (by rw [this]; exact Nat.succ_pos _)⟩
  obtain ⟨q, hq⟩ := hb
  obtain ⟨_, cur, fz, _, hc, _⟩ := h.blk 0 _ q rfl hq
  obtain ⟨v0, a0, _⟩ := hc 0 _ rfl
  obtain ⟨v1, a1, _⟩ := hc 1 _ rfl
  have b0 : Reck.av e (cell (rslC ⟨0, 1, 0, n, c⟩)) = some v0 := a0
  obtain ⟨q1, m1, k1⟩ := h.mvRows (i := 0) (b := jbkB L c) rfl rfl rfl b0
  have b1 := av_mono (le_arr e q1) (cell (rslC ⟨1, 7, 0, n, d⟩)) v1 a1
  obtain ⟨q2, m2, k2⟩ := k1.mvRows (i := 1) (b := jbvB M d) rfl rfl rfl b1
  have l2 := le_arr ⟨e.blk, e.int, e.opq, e.arr ++ [q1], e.S, e.junk⟩ q2
  have m1 := av_mono l2 _ _ m1
  have le := (le_arr e q1).trans l2
  refine ⟨_, le, ?_⟩
  exact k2.reCell (i := 0) (cells' := [rslC ⟨2, 1, 0, n, c⟩, rslC ⟨3, 7, 0, n, d⟩, xintC .i64 m]) rfl (by
    intro j c' hc'
    match j, hc' with
    | 0, hc' => simp at hc'; subst hc'; exact ⟨_, _, rfl, cv_mono le _ _ a0, m1⟩
    | 1, hc' => simp at hc'; subst hc'; exact ⟨_, _, rfl, cv_mono le _ _ a1, m2⟩
    | 2, hc' => simp at hc'; subst hc'; exact ⟨_, _, rfl, rfl, rfl⟩
    | n + 3, hc' => simp at hc')
def U.jblen (P : JBP) : Nat := P.length
/-- There is room for a key. -/
structure U.jbRoom (P : JBP) (k : Int) (m : Int) : Prop where
  out : U.jbHasK P k ∨ (P.length : Int) < m
def jbpNew : Pat := fun args σ => match args, σ with
  | [m], ⟨[], [], 0, [], 0⟩ => match aInt m with
    | some m => some fun K => K (ptr 0 0) ⟨[jbB (rslC ⟨0, 1, 0, 0, 0⟩) (rslC ⟨1, 7, 0, 0, 0⟩) m], [], 0, [some (jbkB [] 0), some (jbvB [] 0)], 0⟩
    | _ => none
  | _, _ => none
theorem jbpNew_ok : PatOk 27 jbpNew := by
  intro tm σ C h K hK w0 e w hk vs hvs
  unfold jbpNew at h
  split at h
  · split at h
    · rename_i m hm
      simp only [Option.some.injEq] at h; subst h
      obtain ⟨v, rfl, hv⟩ := ones hvs
      refine (knownD noOv names (opMV_ok jbovOk) (conOk_ofR tbl0_ok) (show runV jbov inv0 tbl0 27 [xi .i64 m] emptySt (fun x σ' => x = ptr 0 0 ∧ σ' = ⟨[jbB (.inl (.slice none 0 0)) (.inl (.slice none 0 0)) m], [], 0, [], 0⟩) by rw [jbNew_vc]; exact ⟨rfl, rfl⟩) w0 e w hk _ (map1 (as_aInt hm hv))).mono ?_
      rintro en w' ⟨x, σ', e', v', h1, h2, h3, h4, rfl, rfl⟩
      obtain ⟨k1, c1⟩ := h4.addNone 40 [.n .u64] 1
      obtain ⟨k2, c2⟩ := k1.addNone 43 jbvK 7
      have l2 := le_arr ⟨e'.blk, e'.int, e'.opq, e'.arr ++ [.inl none], e'.S, e'.junk⟩ (.inl none)
      have c1 := cv_mono l2 _ _ c1
      have k3 := k2.reCell (i := 0) (cells' := [rslC ⟨0, 1, 0, 0, 0⟩, rslC ⟨1, 7, 0, 0, 0⟩, xintC .i64 m]) rfl (by
        intro j c' hc'
        match j, hc' with
        | 0, hc' => simp at hc'; subst hc'; exact ⟨_, _, rfl, rfl, c1⟩
        | 1, hc' => simp at hc'; subst hc'; exact ⟨_, _, rfl, rfl, c2⟩
        | 2, hc' => simp at hc'; subst hc'; exact ⟨_, _, rfl, rfl, rfl⟩
        | n + 3, hc' => simp at hc')
      exact ⟨_, _, _, v', h1, h2.trans ((le_arr e' (.inl none)).trans l2), av_mono ((le_arr e' (.inl none)).trans l2) _ _ h3, k3, hK⟩
    · cases h
  · cases h
def jbpSet : Pat := fun args σ => match args, σ with
  | [.inl (.inl (.inr (.inl (0, 0)))), k, .inl (.inr l)], ⟨[p], [], 0, [a1, a2], 0⟩ => match aIntK .u64 k, jbXA l, jbshC p a1 a2 with
    | some k, some e, some (n, c, L, d, M, m) => some fun K => ∃ P, (jbshD p a1 a2 ∧ U.jbshI n c L d M P ∧ n ≤ 100000) ∧
      (U.jbRoom P k m → ∀ (L' : Rws) (n' c' : Nat) (M' : Rws) (d' : Nat) (P' : JBP), n' = U.jblen P' → U.jbPut P k e P' → U.jbshI n' c' L' d' M' P' → K (xi .i64 0) (jbshNw n' c' L' d' M' m)) ∧
      (¬ U.jbRoom P k m → K (xi .i64 4) (jbSt n c L d M m))
    | _, _, _ => none
  | _, _ => none
theorem jbpSet_ok : PatOk 42 jbpSet := by
  intro tm σ C h K hK w0 e w hk vs hvs
  unfold jbpSet at h
  split at h
  · split at h
    · rename_i k en n c L d M m hkk hl hσ
      simp only [Option.some.injEq] at h; subst h
      obtain ⟨P, ⟨hy, h1, h2⟩, h3, h4⟩ := hK
      obtain ⟨rfl, rfl, rfl⟩ := jbshC_eq hσ hy
      obtain ⟨x, y, z, rfl, q1, q2, q3⟩ := threes hvs
      replace q3 := jbXA_av hl q3
      have hn := jbshI_n h1
      refine (knownD noOv names (opMV_ok jbovOk) (conOk_ofR jbtSh_ok) (jbSet_run (fun x σ' => (x = xi .i64 0 ∧ U.jbRoom P k m ∧ ∃ (L' : Rws) (n' c' : Nat) (M' : Rws) (d' : Nat) (P' : JBP), n' = P'.length ∧ U.jbPut P k en P' ∧ U.jbshI n' c' L' d' M' P' ∧ (σ' = jbSt n' c' L' d' M' m ∨ σ' = jbshNw n' c' L' d' M' m)) ∨ (x = xi .i64 4 ∧ ¬ U.jbRoom P k m ∧ σ' = jbSt n c L d M m)) L M n c d m k en P h1 h2 ?_ ?_ ?_) w0 e w hk _ (map3 q1 (as_aIntK hkk q2) q3)).mono ?_
      · exact fun hh M' P' hp hi => .inl ⟨rfl, ⟨.inl hh⟩, L, n, c, M', d, P', by rw [hp.has hh, hn], hp, hi, .inl rfl⟩
      · exact fun hh hm => .inr ⟨rfl, fun ⟨hx⟩ => hx.elim hh (fun h => by omega), rfl⟩
      · exact fun hh hm L' n' c' M' d' P' he hp hi => .inl ⟨rfl, ⟨.inr (by omega)⟩, L', n', c', M', d', P', by rw [hp.non hh]; omega, hp, hi, .inr rfl⟩
      · rintro en' w' ⟨x, σ', e', v, g1, g2, g3, g4, hw⟩
        rcases hw with ⟨rfl, hr, L', n', c', M', d', P', f1, f2, f3, rfl | rfl⟩ | ⟨rfl, hr, rfl⟩
        · obtain ⟨e2, l2, k2⟩ := jbmv g4
          exact ⟨_, _, e2, v, g1, g2.trans l2, av_mono l2 _ _ g3, k2, h3 hr L' n' c' M' d' P' f1 f2 f3⟩
        · exact ⟨_, _, e', v, g1, g2, g3, g4, h3 hr L' n' c' M' d' P' f1 f2 f3⟩
        · exact ⟨_, _, e', v, g1, g2, g3, g4, h4 hr⟩
    · cases h
  · cases h
def jbpGet : Pat := fun args σ => match args, σ with
  | [.inl (.inl (.inr (.inl (0, 0)))), k], ⟨[p], [], 0, [a1, a2], 0⟩ => match aIntK .u64 k, jbshC p a1 a2 with
    | some k, some (n, c, L, d, M, m) => some fun K => ∃ P, (jbshD p a1 a2 ∧ U.jbshI n c L d M P ∧ n ≤ 100000) ∧ (∀ (v0 : Int) (v1 : Int) (v2 : Int) (v3 : Int) (v4 : List Int) (v5 : List Int) (v6 : Int), U.jbHasE P k v0 v1 v2 v3 v4 v5 v6 → K (jbge v0 v1 v2 v3 v4 v5 v6 true) (jbSt n c L d M m)) ∧ (¬ U.jbHasK P k → K jbg0 (jbSt n c L d M m))
    | _, _ => none
  | _, _ => none
theorem jbpGet_ok : PatOk 61 jbpGet := by
  intro tm σ C h K hK w0 e w hk vs hvs
  unfold jbpGet at h
  split at h
  · split at h
    · rename_i hkk hσ
      simp only [Option.some.injEq] at h; subst h
      obtain ⟨P, ⟨hy, h1, h2⟩, h3, h4⟩ := hK
      obtain ⟨rfl, rfl, rfl⟩ := jbshC_eq hσ hy
      obtain ⟨x, y, rfl, q1, q2⟩ := twos hvs
      exact knownD noOv names (opMV_ok jbovOk) (conOk_ofR jbtSh_ok) (jbGet_run K _ _ _ _ _ _ _ P h1 h2 h3 h4) w0 e w hk _ (map2 q1 (as_aIntK hkk q2))
    · cases h
  · cases h
/-- P' is P without a key. -/
structure U.jbRm (P : JBP) (k : Int) (P' : JBP) : Prop where
  srt : U.jbSrt P'
  mem : ∀ x y, (x, y) ∈ P' ↔ (x, y) ∈ P ∧ x ≠ k
  len : P'.length ≤ P.length
structure U.jbRmN (P : JBP) (k : Int) (z : Int) : Prop where
  yes : U.jbHasK P k → z = 1
  no : ¬ U.jbHasK P k → z = 0
theorem jbrm_of {P P' : JBP} {k : Int} (h : U.jbRem P k P') : U.jbRm P k P' := ⟨h.srt, h.mem, by have := h.len; omega⟩
theorem jbrm_non {P : JBP} {k : Int} (hs : U.jbSrt P) (h : ¬ U.jbHasK P k) : U.jbRm P k P :=
  ⟨hs, fun x y => ⟨fun hx => ⟨hx, fun he => h ⟨y, he ▸ hx⟩⟩, fun hx => hx.1⟩, Nat.le_refl _⟩

def jbpVals : Pat := fun args σ => match args, σ with
  | [.inl (.inl (.inr (.inl (0, 0))))], ⟨[p], [], 0, [a1, a2], 0⟩ => match jbshC p a1 a2 with
    | some (n, c, L, d, M, m) => some fun K => ∃ P, (jbshD p a1 a2 ∧ U.jbshI n c L d M P) ∧ ∀ (L' : Rws) (n' c' : Nat), n' = n → n' ≤ c' → L' = U.jbvs P → K (cell (rslC ⟨2, 7, 0, n', c'⟩)) ⟨[jbB (rslC ⟨0, 1, 0, n, c⟩) (rslC ⟨1, 7, 0, n, d⟩) m], [], 0, [some (jbkB L c), some (jbvB M d), some (jbvB L' c')], 0⟩
    | _ => none
  | _, _ => none
theorem jbpVals_ok : PatOk 38 jbpVals := by
  intro tm σ C h K hK w0 e w hk vs hvs
  unfold jbpVals at h
  split at h
  · split at h
    · rename_i hσ
      simp only [Option.some.injEq] at h; subst h
      obtain ⟨P, ⟨hy, h1⟩, h2⟩ := hK
      obtain ⟨rfl, rfl, rfl⟩ := jbshC_eq hσ hy
      exact knownD noOv names (opMV_ok jbovOk) (conOk_ofR jbtSh_ok) (jbVals_run K _ _ _ _ _ _ P h1 h2) w0 e w hk vs hvs
    · cases h
  · cases h
def jbpKeys : Pat := fun args σ => match args, σ with
  | [.inl (.inl (.inr (.inl (0, 0))))], ⟨[p], [], 0, [a1, a2], 0⟩ => match jbshC p a1 a2 with
    | some (n, c, L, d, M, m) => some fun K => ∃ P, (jbshD p a1 a2 ∧ U.jbshI n c L d M P) ∧ ∀ (L' : Rws) (n' c' : Nat), n' = n → n' ≤ c' → L' = U.jbks P → K (cell (rslC ⟨2, 1, 0, n', c'⟩)) ⟨[jbB (rslC ⟨0, 1, 0, n, c⟩) (rslC ⟨1, 7, 0, n, d⟩) m], [], 0, [some (jbkB L c), some (jbvB M d), some (jbkB L' c')], 0⟩
    | _ => none
  | _, _ => none
theorem jbpKeys_ok : PatOk 66 jbpKeys := by
  intro tm σ C h K hK w0 e w hk vs hvs
  unfold jbpKeys at h
  split at h
  · split at h
    · rename_i hσ
      simp only [Option.some.injEq] at h; subst h
      obtain ⟨P, ⟨hy, h1⟩, h2⟩ := hK
      obtain ⟨rfl, rfl, rfl⟩ := jbshC_eq hσ hy
      exact knownD noOv names opMK_ok (conOk_ofR tbl0_ok) (jbKeys_run K _ _ _ _ _ _ P h1 h2) w0 e w hk vs hvs
    · cases h
  · cases h
def jbtS : Tbl := tblOr (tblIf 27 jbpNew) (tblOr (tblIf 42 jbpSet) (tblOr (tblIf 61 jbpGet) ((tblOr (tblIf 38 jbpVals) (tblIf 66 jbpKeys)))))
theorem jbtS_ok : TblOk Try.prog jbtS := tblOr_ok (tblIf_ok jbpNew_ok) (tblOr_ok (tblIf_ok jbpSet_ok) (tblOr_ok (tblIf_ok jbpGet_ok) ((tblOr_ok (tblIf_ok jbpVals_ok) (tblIf_ok jbpKeys_ok)))))
end Go.Proofs.Ytgopjjimafcgjaa
end
