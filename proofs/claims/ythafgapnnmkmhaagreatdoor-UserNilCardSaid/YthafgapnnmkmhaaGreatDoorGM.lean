/- Parts of a proof, one behind the other: US8 US9 USA. No condition. -/
import Derived.Test.YthafgapnnmkmhaaGreatDoorGL
import Derived.Test.YthafgapnnmkmhaaGreatDoorRkB
import Derived.Test.YthafgapnnmkmhaaGreatDoorRkG
section
set_option linter.unusedVariables false
set_option linter.unusedSimpArgs false
set_option maxRecDepth 10000
namespace Go.Proofs.YthafgapnnmkmhaaGreatDoor
open Go Reck Ost
theorem ul_put_le {Q Q' : ULP} {k : Int} {e : ULv} (h : U.ulPut Q k e Q') : Q'.length ≤ Q.length + 1 := by
  by_cases hk : U.ulHasK Q k
  · have := h.has hk; omega
  · have := h.non hk; omega
theorem ua_put_le {Q Q' : UAP} {k : List Int} {e : UAv} (h : U.uaPut Q k e Q') : Q'.length ≤ Q.length + 1 := by
  by_cases hk : U.uaHasK Q k
  · have := h.has hk; omega
  · have := h.non hk; omega
theorem ul_put_has {Q Q' : ULP} {k : Int} {a : List Int} {b : Int} (h : U.ulPut Q k ⟨a, b⟩ Q') : U.ulHasE Q' k a b := ⟨(h.mem _ _).2 (.inl ⟨rfl, rfl⟩)⟩
theorem ua_put_has {Q Q' : UAP} {k : List Int} {a b c d : Int} (h : U.uaPut Q k ⟨a, b, c, d⟩ Q') : U.uaHasE Q' k a b c d := ⟨(h.mem _ _).2 (.inl ⟨rfl, rfl⟩)⟩
theorem ul_rm_no {Q Q' : ULP} {k : Int} (h : U.ulRm Q k Q') : ¬ U.ulHasK Q' k := fun ⟨⟨e, he⟩⟩ => ((h.mem _ _).1 he).2 rfl
theorem pf5 : (16697770552069854347 : Int) = U.pf 1 2 9 5 7 9 annL := by decide +kernel
theorem pf6 : ¬ (0 : Int) = U.pf 1 2 9 6 7 9 annL := by decide +kernel
theorem pfok5 : U.PfOk 5 7 9 annL := ⟨by decide⟩
theorem pfok6 : U.PfOk 6 7 9 annL := ⟨by decide⟩
theorem awake24_run (K : AV → St → Prop) (hK : K (lit (.bool true)) ⟨[], [], 0, [U.resA], 0⟩) : runR inv0 tUs7 13 [] ⟨[], [], 0, [U.resA], 0⟩ K := by
  rw [awake24_vc]
  refine ⟨⟨rfl, rfl, rfl, rfl, rfl, rfl, rfl⟩, fun L n c M d P e1 e2 e3 => ⟨pfok5, fun z6 hz => ?_⟩⟩
  have hn := uashI_n e3
  have l0 := ua_put_le e2
  rw [List.length_nil] at l0
  have s0 : n ≤ 1 := by omega
  clear hn l0
  refine ⟨P, 1, 2, 0, 0, [], ⟨⟨⟨rfl, rfl, rfl⟩, rfl, rfl, rfl, rfl, rfl, rfl⟩, rfl, e3, by omega, ua_put_has e2, ul_nil, by omega, by decide⟩, fun L2 m2 c2 M2 d2 Q2 a1 a2 a3 => ?_⟩
  have hm := ulshI_n a3
  have l0 := ul_put_le a2
  rw [List.length_nil] at l0
  have t0 : m2 ≤ 1 := by omega
  refine ⟨P, 1, 2, 0, 0, Q2, ⟨⟨⟨rfl, rfl, rfl⟩, rfl, rfl, rfl, rfl, rfl, rfl⟩, rfl, e3, by omega, ua_put_has e2, a3, by omega⟩, .inl ⟨by decide, ul_put_has a2, pfok5, hz.trans pf5, fun L3 n3 c3 M3 d3 P3 m3 L4 M4 Q3 b1 b2 b3 b4 b5 b6 => ?_⟩⟩
  have hn3 := uashI_n b3
  have hm3 := ulshI_n b6
  have l1 := ua_put_le b2
  have l2 := b5.len
  have hn0 := uashI_n e3
  have s3 : n3 ≤ 2 := by omega
  have t3 : m3 ≤ 1 := by omega
  refine ⟨P3, 1, 2, 0, 0, Q3, ⟨⟨⟨rfl, rfl, rfl⟩, rfl, rfl, rfl, rfl, rfl, rfl⟩, rfl, b3, by omega, ua_put_has b2, b6, by omega⟩, .inr ⟨ul_rm_no b5, fun m4 L5 M5 Q4 d1 d2 d3 => ?_⟩⟩
  have hm4 := ulshI_n d3
  have l3 := d2.len
  have t4 : m4 ≤ 1 := by omega
  refine ⟨P3, 1, 2, 0, 0, Q4, ⟨⟨⟨rfl, rfl, rfl⟩, rfl, rfl, rfl, rfl, rfl, rfl⟩, rfl, b3, by omega, ua_put_has b2, d3, by omega, by decide⟩, fun L6 m5 c5 M6 d5 Q5 f1 f2 f3 => ?_⟩
  have hm5 := ulshI_n f3
  have l4 := ul_put_le f2
  have t5 : m5 ≤ 2 := by omega
  refine ⟨P3, 1, 2, 0, 0, Q5, ⟨⟨⟨rfl, rfl, rfl⟩, rfl, rfl, rfl, rfl, rfl, rfl⟩, rfl, b3, by omega, ua_put_has b2, f3, by omega⟩, ⟨by decide, by decide, by decide, ul_put_has f2, pfok6, pf6⟩, fun f' u' L7 n7 c7 M7 d7 P7 m7 L8 M8 Q7 g0 g1 g2 g3 g4 g5 g6 => ?_⟩
  obtain ⟨rfl, rfl⟩ : f' = 1 ∧ u' = 0 := by rcases g0.out with ⟨h, _, _⟩ | ⟨_, h1, h2⟩ <;> omega
  have hn7 := uashI_n g3
  have hm7 := ulshI_n g6
  have l5 := ua_put_le g2
  have l6 := g5.len
  have s7 : n7 ≤ 3 := by omega
  have t7 : m7 ≤ 2 := by omega
  refine ⟨P7, 1, 2, 1, 0, Q7, ⟨⟨⟨rfl, rfl, rfl⟩, rfl, rfl, rfl, rfl, rfl, rfl⟩, rfl, g3, by omega, ua_put_has g2, g6, by omega, by decide⟩, fun L6 m9 c9 M6 d9 Q9 f1 f2' f3' => ?_⟩
  have hm9 := ulshI_n f3'
  have l7 := ul_put_le f2'
  have t9 : m9 ≤ 3 := by omega
  refine ⟨P7, 1, 2, 1, 0, Q9, ⟨⟨⟨rfl, rfl, rfl⟩, rfl, rfl, rfl, rfl, rfl, rfl⟩, rfl, g3, by omega, ua_put_has g2, f3', by omega⟩, ⟨by decide, by decide, by decide, ul_put_has f2', pfok6, pf6⟩, fun f' u' La na ca Ma da Pa ma Lb Mb Qa h0 h1 h2 h3 h4 h5 h6 => ?_⟩
  obtain ⟨rfl, rfl⟩ : f' = 2 ∧ u' = 0 := by rcases h0.out with ⟨h, _, _⟩ | ⟨_, h1, h2⟩ <;> omega
  have hna := uashI_n h3
  have hma := ulshI_n h6
  have l8 := ua_put_le h2
  have l9 := h5.len
  have sa : na ≤ 4 := by omega
  have ta : ma ≤ 3 := by omega
  refine ⟨Pa, 1, 2, 2, 0, Qa, ⟨⟨⟨rfl, rfl, rfl⟩, rfl, rfl, rfl, rfl, rfl, rfl⟩, rfl, h3, by omega, ua_put_has h2, h6, by omega, by decide⟩, fun L6 mc cc M6 dc Qc f1 i2 i3 => ?_⟩
  have hmc := ulshI_n i3
  have la := ul_put_le i2
  have tc : mc ≤ 4 := by omega
  refine ⟨Pa, 1, 2, 2, 0, Qc, ⟨⟨⟨rfl, rfl, rfl⟩, rfl, rfl, rfl, rfl, rfl, rfl⟩, rfl, h3, by omega, ua_put_has h2, i3, by omega⟩, ⟨by decide, by decide, by decide, ul_put_has i2, pfok6, pf6⟩, fun f' u' Ld nd cd Md dd Pd md Le Me Qd j0 j1 j2 j3 j4 j5 j6 => ?_⟩
  obtain ⟨rfl, rfl⟩ : f' = 0 ∧ u' = 60 := by rcases j0.out with ⟨_, h1, h2⟩ | ⟨h, _, _⟩ <;> omega
  have hnd := uashI_n j3
  have hmd := ulshI_n j6
  have lb := ua_put_le j2
  have lc := j5.len
  have sd : nd ≤ 5 := by omega
  have td : md ≤ 4 := by omega
  exact ⟨fun _ => ⟨fun _ => ⟨fun _ => ⟨fun _ => ⟨Pd, 1, 2, 0, 60, Qd, ⟨⟨⟨rfl, rfl, rfl⟩, rfl, rfl, rfl, rfl, rfl, rfl⟩, rfl, j3, by omega, ua_put_has j2, j6, by omega⟩, fun _ => ⟨Pd, 1, 2, 0, 60, Qd, ⟨⟨⟨rfl, rfl, rfl⟩, rfl, rfl, rfl, rfl, rfl, rfl⟩, rfl, j3, by omega, ua_put_has j2, j6, by omega⟩, fun h => absurd h (by decide), fun _ => hK⟩, fun h => absurd (by decide) h⟩, fun h => absurd rfl h⟩, fun h => absurd rfl h⟩, fun h => absurd rfl h⟩, fun h => absurd rfl h⟩
end Go.Proofs.YthafgapnnmkmhaaGreatDoor
end
section
namespace Go.Proofs.YthafgapnnmkmhaaGreatDoor
open Go Reck Ost
set_option linter.unusedVariables false
set_option maxRecDepth 100000
def pAw24 : Pat := fun args σ => match args, σ with
  | [], ⟨[], [], 0, [some ⟨0, .o (.glob 0 vs), [], 0, true⟩], 0⟩ => some fun K => vs = U.resWords ∧ K (lit (.bool true)) ⟨[], [], 0, [U.resA], 0⟩
  | _, _ => none
theorem pAw24_ok : PatOk 13 pAw24 := by
  intro tm σ C h K hK
  unfold pAw24 at h
  split at h
  · simp only [Option.some.injEq] at h; subst h
    obtain ⟨rfl, hK⟩ := hK
    exact knownC noOv names (conOk_ofR tUs7_ok) (awake24_run K hK)
  · cases h
def tUN : Tbl := tblIf 13 pAw24
theorem tUN_ok : TblOk Tryz.prog tUN := tblIf_ok pAw24_ok
abbrev runUB (inv : InvF) (tbl : Tbl) (f : Nat) (args : List AV) (σ : St) : Prop := goT Tryz.prog [] (orcR inv nmt tbl) (opMB Tryz.prog) 3000 (.inr (.inr (.inr (.inr f)))) args σ isTrue
theorem userNil_vc (l:List Int) (m:Int):(runUB inv0 tUN 6 [cell (strC l),xi .u64 m] ⟨[],[],0,[U.resA],0⟩)=(∀ (z0:Int),z0=(↑((0:Nat)):Int)→(z0=(0:Int)→∀ (z1:Int),z1=(↑((0:Nat)):Int)→(z1=(0:Int)→U.resWords=U.resWords∧True)∧(¬z1=(0:Int)→Err [(200:Nat)]))∧(¬z0=(0:Int)→Err [(200:Nat)])) := by kernel_rfl
end Go.Proofs.YthafgapnnmkmhaaGreatDoor
end
section
set_option linter.unusedVariables false
set_option linter.unusedSimpArgs false
namespace Go.Proofs.YthafgapnnmkmhaaGreatDoor
open Go Reck Ost
theorem userNil_run (l : List Int) (m : Int) : runUB inv0 tUN 6 [cell (strC l), xi .u64 m] ⟨[], [], 0, [U.resA], 0⟩ := by
  rw [userNil_vc]
  exact fun z0 h0 => ⟨fun _ z1 h1 => ⟨fun _ => ⟨rfl, trivial⟩, fun h => (h h1).elim⟩, fun h => (h h0).elim⟩
theorem str_av24 (s : ByteArray) (e : Env) : Reck.av e (cell (strC (s.data.toList.map fun b => (b.toNat : Int)))) = some (.string s) := by
  have h := strC_av (byteZ_lit s) e
  rw [strZ_lit] at h; exact h
theorem ok_res24 (w : World) (h : GlobIs w 0 U.resWords) : Ok w (arE [.inr (0, 0)]) resSt w :=
  ok_arrs w (l := [globB 0 U.resWords]) rfl (by simp [globB]) (by
    intro i x q h1 h2
    match i with
    | 0 =>
      simp only [List.getElem?_cons_zero, Option.some.injEq] at h1 h2
      subst h1; subst h2
      exact globB_ok h _ rfl
    | i + 1 => simp at h1)
theorem call_true24 {R : Orc} (hC : ConOk Tryz.prog R) {n f : Nat} {args : List AV} {σ : St} (h : goT Tryz.prog [] R (opMB Tryz.prog) n (.inr (.inr (.inr (.inr f)))) args σ isTrue)
    {w0 w : World} {e : Env} (hk : Ok w0 e σ w) {vs : List Value} (hvs : args.map (Reck.av e) = vs.map some) : Calls Tryz.prog f vs.toArray w fun en w' => en = .returned (.bool true) ∧ Only e.S w0 w' :=
  true_ok (ovs_of noOv) (names_of names) (opMB_ok Tryz.prog) hC h hk hvs
theorem userNil_walk (s : ByteArray) (m : Int) (w : World) (hs : s.size ≤ maxLen) (h2 : (Lit.int .u64 m).wf = true) (hg : GlobIs w 0 U.resWords) : Calls Tryz.prog 6 #[.string s, .int .u64 m] w fun e w' => e = .returned (.bool true) ∧ Only (fun _ => False) w w' :=
  call_true24 (conOk_ofR tUN_ok) (userNil_run (s.data.toList.map fun b => (b.toNat : Int)) m) (ok_res24 w hg) (vs := [.string s, .int .u64 m]) (by
    simp only [List.map_cons, List.map_nil, str_av24]
    rfl)
end Go.Proofs.YthafgapnnmkmhaaGreatDoor
end
