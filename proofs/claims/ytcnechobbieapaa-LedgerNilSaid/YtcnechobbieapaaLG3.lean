/- Layer 26: LedgerNil's walk. No condition. -/
import Derived.Test.YtcnechobbieapaaLG2
import Derived.Test.YtcnechobbieapaaLGO
set_option linter.unusedVariables false
set_option linter.unusedSimpArgs false
set_option maxRecDepth 10000
namespace Go.Proofs.Ytcnechobbieapaa
open Go Reck Ost
theorem ledgerNil_run (z0 z1 z2 z3 z4 z5 z6 z7 z8 z9 z10 z11 z12 : Int) (l13 l14 l15 l16 : List Int) (z17 z18 : Int) (A : List (List CV)) (n c : Nat) (hc : n ≤ c) : runB inv0 tLg 6 [.inl (.inr (flC z0 z1 z2 z3 z4 z5 z6 z7 z8 z9 z10 z11 z12 l13 l14 l15 l16 z17 z18 (rslC ⟨0, 3, 0, n, c⟩)))] ⟨[], [], 0, [some (hopB A)], 0⟩ := by
  rw [ledgerNil_vc]
  intro y0 h0
  refine ⟨fun hlt => ⟨⟨by omega, by omega, by omega⟩, fun o1 n2 c3 _ _ _ y4 h4 => ⟨fun _ y5 h5 => ⟨fun _ => trivial, fun h => (h (by omega)).elim⟩, fun h => (h (by omega)).elim⟩⟩, fun _ y6 h6 => ⟨fun _ y7 h7 => ⟨fun _ => trivial, fun h => (h (by omega)).elim⟩, fun h => (h (by omega)).elim⟩⟩
theorem call_trueB {R : Orc} (hC : ConOk Try.prog R) {n f : Nat} {args : List AV} {σ : St} (h : goT Try.prog [] R (opMB Try.prog) n (.inr (.inr (.inr (.inr f)))) args σ isTrue)
    {w0 w : World} {e : Env} (hk : Ok w0 e σ w) {vs : List Value} (hvs : args.map (Reck.av e) = vs.map some) : Calls Try.prog f vs.toArray w fun en w' => en = .returned (.bool true) ∧ Only e.S w0 w' :=
  true_ok (ovs_of noOv) (names_of names) (opMB_ok Try.prog) hC h hk hvs
theorem fl_base {w : World} {s : FlI} (hs : s.ok w) : ∃ (R : List (List CV)) (q : Option Addr ⊕ (Nat × Nat)), CameR hopKs w s.A s.len s.cap R ∧ AOk w w (arE [q]) (hopB R) q ∧ ∀ (e : Env) (a : Nat), e.arr[a]? = some q → Reck.cv e (rslC ⟨a, 3, 0, s.len, s.cap⟩) = some (.slice s.A s.len s.cap) := by
  obtain ⟨R, hR⟩ := hs.w
  obtain ⟨q, h1, h2⟩ := hR.base (by decide) 94
  exact ⟨R, q, hR, h2 _ rfl, fun e a h => h1 e a h⟩
theorem ledgerNil_walk (s : FlI) (w : World) (hs : s.ok w) : Calls Try.prog 6 #[s.val] w fun e w' => e = .returned (.bool true) ∧ Only (fun _ => False) w w' := by
  obtain ⟨R, q, hR, h2, h1⟩ := fl_base hs
  have hok : Ok w (arE [q]) (arS [hopB R]) w := ok_arrs w (l := [hopB R]) (bs := [q]) rfl (by simp [hopB]) (by
    intro i x q' hx hq
    cases i with
    | zero => simp at hx hq; subst hx; subst hq; exact h2
    | succ i => simp at hx)
  exact call_trueB (conOk_ofR tLg_ok) (ledgerNil_run s.z0 s.z1 s.z2 s.z3 s.z4 s.z5 s.z6 s.z7 s.z8 s.z9 s.z10 s.z11 s.z12 (bz s.s13) (bz s.s14) (bz s.s15) (bz s.s16) s.z17 s.z18 R s.len s.cap hR.2.1) hok (vs := [s.val]) (by
    simp only [List.map_cons, List.map_nil]
    rw [show flC s.z0 s.z1 s.z2 s.z3 s.z4 s.z5 s.z6 s.z7 s.z8 s.z9 s.z10 s.z11 s.z12 (bz s.s13) (bz s.s14) (bz s.s15) (bz s.s16) s.z17 s.z18 (rslC ⟨0, 3, 0, s.len, s.cap⟩) = s.cs 0 from rfl, fl_av s _ 0 (h1 _ 0 rfl)])
end Go.Proofs.Ytcnechobbieapaa
