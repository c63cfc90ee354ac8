/- Parts of a proof, one behind the other: QA0 QA1 QA2. No condition. -/
import Derived.Test.YtbifilonmkaonaaGD
import Derived.Test.YtbifilonmkaonaaRkV
import Derived.Test.YtbifilonmkaonaaRkB
section
namespace Go.Proofs.Ytbifilonmkaonaa
open Go Reck Ost
set_option linter.unusedVariables false
set_option maxRecDepth 100000
abbrev nilP : AV := .inl (.inl (.inl (.pointer none)))
--PLAIN
theorem qfindN_vc (K : AV → St → Prop) (m : Int) : (runR (invQf [] m) tbl0 14 [nilP, xi .u64 m] emptySt K) = (∀ (z0 : Int), z0 = (0 : Int) → (∃ (y1 : Int), m = m ∧ ((0 : Nat) = (0 : Nat) ∧ (0 : Nat) = (0 : Nat) ∧ (0 : Nat) = (0 : Nat)) ∧ z0 = z0 ∧ (0 : Int) = y1 ∧ (U.nilL = U.nilL ∧ (0 : Nat) = (0 : Nat) ∧ false = false) ∧ (U.nilL = U.nilL ∧ (0 : Nat) = (0 : Nat) ∧ false = false) ∧ U.qfI [] m y1) ∧ ∀ (x2 : Int), U.qfI [] m x2 → (x2 < z0 → ((0 : Int) ≤ x2 ∧ x2 < (0 : Int)) ∧ ∀ (j3 : Nat), (↑j3 : Int) = (0 : Int) + x2 → j3 < (0 : Nat) ∧ ∀ (z4 : Int), z4 = U.fi U.nilL j3 ((0 : Nat)) → ∀ (z5 : Int), z5 = U.fi U.nilL j3 ((0 : Nat) + (1 : Nat)) → ∀ (z6 : Int), z6 = U.fi U.nilL j3 ((0 : Nat) + (1 : Nat) + (1 : Nat)) → (z4 = m → K (Sum.inr [Sum.inr [Sum.inr (Sum.inr (Sum.inr (Sum.inr (Sum.inr (Sum.inr (Sum.inl (IntKind.u64, z4))))))), Sum.inr (Sum.inr (Sum.inr (Sum.inr (Sum.inr (Sum.inr (Sum.inl (IntKind.u32, z5))))))), Sum.inr (Sum.inr (Sum.inr (Sum.inr (Sum.inr (Sum.inr (Sum.inl (IntKind.i64, z6)))))))], Sum.inl (Sum.inl (Value.bool true))]) { heap := [], ints := [], opqs := (0 : Nat), arrs := [], junks := (0 : Nat) }) ∧ (¬z4 = m → ∀ (z7 : Int), z7 = IntKind.wrap IntKind.i64 (x2 + (1 : Int)) → ∃ (y8 : Int), m = m ∧ ((0 : Nat) = (0 : Nat) ∧ (0 : Nat) = (0 : Nat) ∧ (0 : Nat) = (0 : Nat)) ∧ z0 = z0 ∧ z7 = y8 ∧ (U.nilL = U.nilL ∧ (0 : Nat) = (0 : Nat) ∧ false = false) ∧ (U.nilL = U.nilL ∧ (0 : Nat) = (0 : Nat) ∧ false = false) ∧ U.qfI [] m y8 ∧ Int.toNat (↑((0 : Nat)) : Int) - Int.toNat y8 < Int.toNat (↑((0 : Nat)) : Int) - Int.toNat x2)) ∧ (¬x2 < z0 → K (Sum.inr [Sum.inr [Sum.inr (Sum.inr (Sum.inr (Sum.inr (Sum.inr (Sum.inr (Sum.inl (IntKind.u64, (0 : Int)))))))), Sum.inr (Sum.inr (Sum.inr (Sum.inr (Sum.inr (Sum.inr (Sum.inl (IntKind.u32, (0 : Int)))))))), Sum.inr (Sum.inr (Sum.inr (Sum.inr (Sum.inr (Sum.inr (Sum.inl (IntKind.i64, (0 : Int))))))))], Sum.inl (Sum.inl (Value.bool false))]) { heap := [], ints := [], opqs := (0 : Nat), arrs := [], junks := (0 : Nat) })) := by kernel_rfl
end Go.Proofs.Ytbifilonmkaonaa
end

section
namespace Go.Proofs.Ytbifilonmkaonaa
open Go Reck Ost
set_option linter.unusedVariables false
set_option maxRecDepth 100000
theorem qfindN_run (K : AV → St → Prop) (m : Int) (hK : K (qlge 0 0 0 false) emptySt) : runR (invQf [] m) tbl0 14 [nilP, xi .u64 m] emptySt K := by
  rw [qfindN_vc]
  refine fun z0 h0 => ⟨?_, ?_⟩
  · refine ⟨0, ?_⟩
    repeat' (first | exact rfl | with_reducible apply And.intro)
    exact ⟨by omega, by simp, fun m hm => by omega⟩
  · rintro i ⟨i1, i2, i3⟩
    exact ⟨fun h => by omega, fun h => hK⟩
def pqfindN : Pat := fun args σ => match args, σ with
  | [.inl (.inl (.inl (.pointer none))), a], ⟨[], [], 0, [], 0⟩ => match aIntK .u64 a with
    | some m => some fun K => K (qlge 0 0 0 false) emptySt
    | _ => none
  | _, _ => none
theorem pqfindN_ok : PatOk 14 pqfindN := by
  intro tm σ C h K hK w0 e w hk vs hvs
  unfold pqfindN at h
  split at h
  · split at h
    · rename_i h0
      simp only [Option.some.injEq] at h; subst h
      obtain ⟨y0, y1, rfl, q0, q1⟩ := twos hvs
      exact knownC noOv names (conOk_ofR tbl0_ok) (qfindN_run K _ hK) w0 e w hk _ (map2 q0 (as_aIntK h0 q1))
    · cases h
  · cases h
def pAw23 : Pat := fun args σ => match args, σ with
  | [], ⟨[], [], 0, [], 0⟩ => some fun K => K (lit (.bool true)) emptySt
  | _, _ => none
def tQN : Tbl := tblOr (tblIf 14 pqfindN) (tblIf 9 pAw23)
abbrev runB (inv : InvF) (tbl : Tbl) (f : Nat) (args : List AV) (σ : St) : Prop := goT Try.prog [] (orcR inv nmt tbl) (opMB Try.prog) 3000 (.inr (.inr (.inr (.inr f)))) args σ isTrue
--PLAIN
theorem awake23_vc (K : AV → St → Prop) : (runR inv0 tQ6 9 [] emptySt K) = (((0 : Int) ≤ (10 : Int) ∧ (10 : Int) ≤ (4294967295 : Int)) ∧ (¬U.qGood (10 : Int) (2 : Int) (50 : Int) → K (Sum.inl (Sum.inl (Sum.inl (Value.bool false)))) { heap := [], ints := [], opqs := (0 : Nat), arrs := [], junks := (0 : Nat) }) ∧ (U.qGood (10 : Int) (2 : Int) (50 : Int) → ∃ (y0 : QLP), ((((0 : Nat) = (0 : Nat) ∧ (0 : Nat) = (0 : Nat) ∧ (0 : Nat) = (0 : Nat)) ∧ (2 : Int) = (2 : Int)) ∧ U.Qp (10 : Int) (2 : Int) (50 : Int) (0 : Nat) (0 : Nat) U.nilL (0 : Nat) U.nilL y0) ∧ ∀ (ip1 e2 : Int), U.qOff y0 (10 : Int) (2 : Int) (7 : Int) (0 : Int) ip1 e2 → ∃ (y3 : QLP), ((((0 : Nat) = (0 : Nat) ∧ (0 : Nat) = (0 : Nat) ∧ (0 : Nat) = (0 : Nat)) ∧ (2 : Int) = (2 : Int)) ∧ U.Qp (10 : Int) (2 : Int) (50 : Int) (0 : Nat) (0 : Nat) U.nilL (0 : Nat) U.nilL y3 ∧ ((0 : Int) ≤ (11 : Int) ∧ (11 : Int) ≤ (4294967295 : Int)) ∧ (0 : Int) ≤ (0 : Int) ∧ (0 : Int) ≤ (2000000 : Int)) ∧ (∀ (u4 e5 : Int), U.qGf y3 (10 : Int) (2 : Int) (7 : Int) (11 : Int) (0 : Int) e5 → ∃ (y6 : QLP), ((((0 : Nat) = (0 : Nat) ∧ (0 : Nat) = (0 : Nat) ∧ (0 : Nat) = (0 : Nat)) ∧ (2 : Int) = (2 : Int)) ∧ U.Qp (10 : Int) (2 : Int) (50 : Int) (0 : Nat) (0 : Nat) U.nilL (0 : Nat) U.nilL y6) ∧ ∀ (ip7 e8 : Int), U.qOff y6 (10 : Int) (2 : Int) (8 : Int) (0 : Int) ip7 e8 → ∃ (y9 : QLP), ((((0 : Nat) = (0 : Nat) ∧ (0 : Nat) = (0 : Nat) ∧ (0 : Nat) = (0 : Nat)) ∧ (2 : Int) = (2 : Int)) ∧ U.Qp (10 : Int) (2 : Int) (50 : Int) (0 : Nat) (0 : Nat) U.nilL (0 : Nat) U.nilL y9) ∧ ∀ (q'10 : Nat) (L'11 M'12 : Rws) (P'13 : QLP) (O14 : Rws) (r15 co16 : Nat), P'13 = U.qRest (50 : Int) y9 → U.Qp (10 : Int) (2 : Int) (50 : Int) q'10 (0 : Nat) L'11 (0 : Nat) M'12 P'13 → O14 = U.qlvs (U.qGone (50 : Int) y9) → r15 = U.qllen (U.qGone (50 : Int) y9) → r15 ≤ co16 → (ip1 = (11 : Int) → (e2 = (0 : Int) → (u4 = (50 : Int) → (e5 = (0 : Int) → (ip7 = (12 : Int) → (e8 = (0 : Int) → ∀ (z17 : Int), z17 = (↑r15 : Int) → (z17 = (1 : Int) → ((0 : Int) ≤ (0 : Int) ∧ (0 : Int) < (↑r15 : Int)) ∧ ∀ (j18 : Nat), (↑j18 : Int) = (↑((0 : Nat)) : Int) + (0 : Int) → j18 < List.length O14 ∧ ∀ (z19 : Int), z19 = U.fi O14 j18 ((0 : Nat) + (0 : Nat)) → (z19 = (7 : Int) → K (Sum.inl (Sum.inl (Sum.inl (Value.bool true)))) { heap := [], ints := [], opqs := (0 : Nat), arrs := [], junks := (0 : Nat) }) ∧ (¬z19 = (7 : Int) → K (Sum.inl (Sum.inl (Sum.inl (Value.bool false)))) { heap := [], ints := [], opqs := (0 : Nat), arrs := [], junks := (0 : Nat) })) ∧ (¬z17 = (1 : Int) → K (Sum.inl (Sum.inl (Sum.inl (Value.bool false)))) { heap := [], ints := [], opqs := (0 : Nat), arrs := [], junks := (0 : Nat) })) ∧ (¬e8 = (0 : Int) → K (Sum.inl (Sum.inl (Sum.inl (Value.bool false)))) { heap := [], ints := [], opqs := (0 : Nat), arrs := [], junks := (0 : Nat) })) ∧ (¬ip7 = (12 : Int) → K (Sum.inl (Sum.inl (Sum.inl (Value.bool false)))) { heap := [], ints := [], opqs := (0 : Nat), arrs := [], junks := (0 : Nat) })) ∧ (¬e5 = (0 : Int) → K (Sum.inl (Sum.inl (Sum.inl (Value.bool false)))) { heap := [], ints := [], opqs := (0 : Nat), arrs := [], junks := (0 : Nat) })) ∧ (¬u4 = (50 : Int) → K (Sum.inl (Sum.inl (Sum.inl (Value.bool false)))) { heap := [], ints := [], opqs := (0 : Nat), arrs := [], junks := (0 : Nat) })) ∧ (¬e2 = (0 : Int) → K (Sum.inl (Sum.inl (Sum.inl (Value.bool false)))) { heap := [], ints := [], opqs := (0 : Nat), arrs := [], junks := (0 : Nat) })) ∧ (¬ip1 = (11 : Int) → K (Sum.inl (Sum.inl (Sum.inl (Value.bool false)))) { heap := [], ints := [], opqs := (0 : Nat), arrs := [], junks := (0 : Nat) })) ∧ ∀ (u20 : Int) (P'21 : QLP) (q'22 c'23 : Nat) (L'24 : Rws) (d'25 : Nat) (M'26 : Rws), u20 = (50 : Int) → U.qIn (10 : Int) (2 : Int) (11 : Int) → U.qFre y3 (7 : Int) (11 : Int) (0 : Int) → U.qGs y3 (7 : Int) (11 : Int) u20 P'21 → U.Qp (10 : Int) (2 : Int) (50 : Int) q'22 c'23 L'24 d'25 M'26 P'21 → ∃ (y27 : QLP), (((c'23 = c'23 ∧ d'25 = d'25 ∧ q'22 = q'22) ∧ (2 : Int) = (2 : Int)) ∧ U.Qp (10 : Int) (2 : Int) (50 : Int) q'22 c'23 L'24 d'25 M'26 y27) ∧ ∀ (ip28 e29 : Int), U.qOff y27 (10 : Int) (2 : Int) (8 : Int) (0 : Int) ip28 e29 → ∃ (y30 : QLP), (((c'23 = c'23 ∧ d'25 = d'25 ∧ q'22 = q'22) ∧ (2 : Int) = (2 : Int)) ∧ U.Qp (10 : Int) (2 : Int) (50 : Int) q'22 c'23 L'24 d'25 M'26 y30) ∧ ∀ (q'31 : Nat) (L'32 M'33 : Rws) (P'34 : QLP) (O35 : Rws) (r36 co37 : Nat), P'34 = U.qRest (50 : Int) y30 → U.Qp (10 : Int) (2 : Int) (50 : Int) q'31 c'23 L'32 d'25 M'33 P'34 → O35 = U.qlvs (U.qGone (50 : Int) y30) → r36 = U.qllen (U.qGone (50 : Int) y30) → r36 ≤ co37 → (ip1 = (11 : Int) → (e2 = (0 : Int) → (u20 = (50 : Int) → ((0 : Int) = (0 : Int) → (ip28 = (12 : Int) → (e29 = (0 : Int) → ∀ (z38 : Int), z38 = (↑r36 : Int) → (z38 = (1 : Int) → ((0 : Int) ≤ (0 : Int) ∧ (0 : Int) < (↑r36 : Int)) ∧ ∀ (j39 : Nat), (↑j39 : Int) = (↑((0 : Nat)) : Int) + (0 : Int) → j39 < List.length O35 ∧ ∀ (z40 : Int), z40 = U.fi O35 j39 ((0 : Nat) + (0 : Nat)) → (z40 = (7 : Int) → K (Sum.inl (Sum.inl (Sum.inl (Value.bool true)))) { heap := [], ints := [], opqs := (0 : Nat), arrs := [], junks := (0 : Nat) }) ∧ (¬z40 = (7 : Int) → K (Sum.inl (Sum.inl (Sum.inl (Value.bool false)))) { heap := [], ints := [], opqs := (0 : Nat), arrs := [], junks := (0 : Nat) })) ∧ (¬z38 = (1 : Int) → K (Sum.inl (Sum.inl (Sum.inl (Value.bool false)))) { heap := [], ints := [], opqs := (0 : Nat), arrs := [], junks := (0 : Nat) })) ∧ (¬e29 = (0 : Int) → K (Sum.inl (Sum.inl (Sum.inl (Value.bool false)))) { heap := [], ints := [], opqs := (0 : Nat), arrs := [], junks := (0 : Nat) })) ∧ (¬ip28 = (12 : Int) → K (Sum.inl (Sum.inl (Sum.inl (Value.bool false)))) { heap := [], ints := [], opqs := (0 : Nat), arrs := [], junks := (0 : Nat) })) ∧ (¬(0 : Int) = (0 : Int) → K (Sum.inl (Sum.inl (Sum.inl (Value.bool false)))) { heap := [], ints := [], opqs := (0 : Nat), arrs := [], junks := (0 : Nat) })) ∧ (¬u20 = (50 : Int) → K (Sum.inl (Sum.inl (Sum.inl (Value.bool false)))) { heap := [], ints := [], opqs := (0 : Nat), arrs := [], junks := (0 : Nat) })) ∧ (¬e2 = (0 : Int) → K (Sum.inl (Sum.inl (Sum.inl (Value.bool false)))) { heap := [], ints := [], opqs := (0 : Nat), arrs := [], junks := (0 : Nat) })) ∧ (¬ip1 = (11 : Int) → K (Sum.inl (Sum.inl (Sum.inl (Value.bool false)))) { heap := [], ints := [], opqs := (0 : Nat), arrs := [], junks := (0 : Nat) }))) := by kernel_rfl
theorem poolNil_vc (m ip : Int) : (runB inv0 tQN 5 [xi .u64 m, xi .u32 ip] emptySt) = (∀ (z0 : Int), z0 = (↑((0 : Nat)) : Int) → (z0 = (0 : Int) → ∀ (z1 : Int), z1 = (0 : Int) → (z1 = (0 : Int) → True) ∧ (¬z1 = (0 : Int) → Err [(200 : Nat)])) ∧ (¬z0 = (0 : Int) → Err [(200 : Nat)])) := by kernel_rfl
end Go.Proofs.Ytbifilonmkaonaa
end

section
set_option linter.unusedVariables false
set_option linter.unusedSimpArgs false
set_option maxRecDepth 10000
namespace Go.Proofs.Ytbifilonmkaonaa
open Go Reck Ost
theorem qtk_nil {x now : Int} (h : U.qTk [] x now) : False := by
  obtain ⟨v, hv, _⟩ := h
  exact List.not_mem_nil hv
theorem qsingle {P : QLP} (hs : U.qlSrt P) {k : Int} {v : QLv} (h : ∀ x y, (x, y) ∈ P ↔ x = k ∧ y = v) : P = [(k, v)] := by
  match P, hs, h with
  | [], _, h => exact (List.not_mem_nil ((h k v).2 ⟨rfl, rfl⟩)).elim
  | [p], _, h =>
    have := (h p.1 p.2).1 (List.mem_singleton_self _)
    rw [show p = (p.1, p.2) from rfl, this.1, this.2]
  | p :: r :: l, hs, h =>
    have h1 := (h p.1 p.2).1 (by simp)
    have h2 := (h r.1 r.2).1 (by simp)
    have := List.pairwise_iff_getElem.1 hs.out 0 1 (by simp) (by simp) (by omega)
    simp at this
    omega
theorem qgood23 : U.qGood 10 2 50 := ⟨by omega⟩
theorem awake23_run (K : AV → St → Prop) (h : K (lit (.bool true)) emptySt) : runR inv0 tQ6 9 [] emptySt K := by
  rw [awake23_vc]
  have hq0 : U.Qp 10 2 50 0 0 [] 0 [] [] := qp_nil (by decide) qgood23
  refine ⟨by omega, fun hn => (hn qgood23).elim, fun _ => ⟨[], ⟨⟨⟨rfl, rfl, rfl⟩, rfl⟩, hq0⟩, fun ip1 e1 hO => ⟨[], ⟨⟨⟨rfl, rfl, rfl⟩, rfl⟩, hq0, by omega, by omega, by omega⟩, fun u e hF => ?_, fun u P1 q1 c1 L1 d1 M1 eu hi hf hG hQ1 => ?_⟩⟩⟩
  · exfalso
    rcases hF.out with ⟨h1, _⟩ | ⟨_, _, v, hv, _⟩
    · exact h1 ⟨by omega⟩
    · exact List.not_mem_nil hv
  · subst eu
    have e1' : ip1 = 11 ∧ e1 = 0 := by
      rcases hO.out with ⟨k, v0, v1, v2, hh, _⟩ | ⟨_, ⟨s, s1, s2, s3, s4, _, s5⟩ | ⟨_, hx⟩⟩
      · exact (List.not_mem_nil hh.mem).elim
      · rcases Int.lt_or_le 0 s with g | g
        · exact (qtk_nil (s5 0 (by omega) g)).elim
        · omega
      · exact (qtk_nil (hx 0 (by omega) (by omega))).elim
    have hm : ∀ x y, (x, y) ∈ P1 ↔ x = 11 ∧ y = ⟨7, 11, 50⟩ := fun x y => by
      rw [hG.out]
      exact ⟨fun h => h.elim id fun h => (List.not_mem_nil h.1).elim, .inl⟩
    have hP := qsingle hQ1.s.srt hm
    subst hP
    refine ⟨_, ⟨⟨⟨rfl, rfl, rfl⟩, rfl⟩, hQ1⟩, fun ip2 e2 hO2 => ⟨_, ⟨⟨⟨rfl, rfl, rfl⟩, rfl⟩, hQ1⟩, fun q2 L2 M2 P2 O r co p1 p2 p3 p4 p5 => ?_⟩⟩
    have t11 : U.qTk [((11 : Int), (⟨7, 11, 50⟩ : QLv))] 11 0 := ⟨_, List.mem_singleton_self _, by decide⟩
    have e2' : ip2 = 12 ∧ e2 = 0 := by
      rcases hO2.out with ⟨k, v0, v1, v2, hh, _⟩ | ⟨_, ⟨s, s1, s2, s3, s4, s6, s5⟩ | ⟨_, hx⟩⟩
      · have h1 := List.mem_singleton.1 hh.mem
        have h2 := hh.mac
        simp at h1
        omega
      · rcases Int.lt_or_le 0 s with g | g
        · omega
        · have : s = 0 := by omega
          subst this
          rw [s3] at s6
          exact (s6 t11).elim
      · obtain ⟨v, hv, _⟩ := hx 1 (by omega) (by omega)
        simp at hv
    have hr : r = 1 := p4
    have hOl : O = [[.i 7, .i 11, .i 50]] := p3
    obtain ⟨rfl, rfl⟩ := e1'
    obtain ⟨rfl, rfl⟩ := e2'
    subst hr hOl
    refine ⟨fun _ => ⟨fun _ => ⟨fun _ => ⟨fun _ => ⟨fun _ => ⟨fun _ z hz => ⟨fun _ => ⟨by omega, fun j hj => ⟨by simp; omega, fun z2 hz2 => ⟨fun _ => h, fun hx => absurd ?_ hx⟩⟩⟩, fun hx => absurd (by omega) hx⟩, ?_⟩, ?_⟩, ?_⟩, ?_⟩, ?_⟩, ?_⟩
    · rw [hz2, show j = 0 by omega]; rfl
    all_goals exact fun hx => absurd rfl hx
theorem pAw23_ok : PatOk 9 pAw23 := by
  intro tm σ C h K hK
  unfold pAw23 at h
  split at h
  · simp only [Option.some.injEq] at h; subst h
    exact knownC noOv names (conOk_ofR tQ6_ok) (awake23_run K hK)
  · cases h
theorem tQN_ok : TblOk Try.prog tQN := tblOr_ok (tblIf_ok pqfindN_ok) (tblIf_ok pAw23_ok)
theorem poolNil_run (m ip : Int) : runB inv0 tQN 5 [xi .u64 m, xi .u32 ip] emptySt := by
  rw [poolNil_vc]
  repeat' (first | exact trivial | with_reducible apply And.intro | intro _)
  all_goals (exfalso; omega)
theorem call_trueB {R : Orc} (hC : ConOk Try.prog R) {n f : Nat} {args : List AV} {σ : St} (h : goT Try.prog [] R (opMB Try.prog) n (.inr (.inr (.inr (.inr f)))) args σ isTrue)
    {w0 w : World} {e : Env} (hk : Ok w0 e σ w) {vs : List Value} (hvs : args.map (Reck.av e) = vs.map some) : Calls Try.prog f vs.toArray w fun en w' => en = .returned (.bool true) ∧ Only e.S w0 w' :=
  true_ok (ovs_of noOv) (names_of names) (opMB_ok Try.prog) hC h hk hvs
theorem ok_none23 (w : World) : Ok w (arE []) emptySt w := ok_arrs w (l := []) (bs := []) rfl (by simp) (by intro i x q h; simp at h)
theorem poolNil_walk (m ip : Int) (w : World) (h1 : (Lit.int .u64 m).wf = true) (h2 : (Lit.int .u32 ip).wf = true) : Calls Try.prog 5 #[.int .u64 m, .int .u32 ip] w fun e w' => e = .returned (.bool true) ∧ Only (fun _ => False) w w' :=
  call_trueB (conOk_ofR tQN_ok) (poolNil_run m ip) (ok_none23 w) (vs := [.int .u64 m, .int .u32 ip]) rfl
end Go.Proofs.Ytbifilonmkaonaa
end
