/- Parts of a proof, one behind the other: VN0 VVA VO VVB. No condition. -/
import Derived.Test.YtfhgnngdbbgogaaGA
import Derived.Test.YtfhgnngdbbgogaaRkV
import Derived.Test.YtfhgnngdbbgogaaGF
import Derived.Deep.Fields
import Derived.OpenShut
section
namespace Go.Proofs.Ytfhgnngdbbgogaa
open Go Reck Ost
set_option linter.unusedVariables false
set_option maxRecDepth 100000
def tAw21 : Tbl := fun f args σ => if f == 10 then match args, σ with
    | [], ⟨[], [], 0, [], 0⟩ => some fun K => K (lit (.bool true)) emptySt
    | _, _ => none
  else none
def plV (a b : Int) : AV := .inl (.inr [xintC .i64 a, xintC .i64 b])
abbrev runP (inv : InvF) (tbl : Tbl) (f : Nat) (args : List AV) (σ : St) : Prop := goT Try.prog [] (orcR inv nmt tbl) (opMem Try.prog) 3000 (.inr (.inr (.inr (.inr f)))) args σ isTrue
end Go.Proofs.Ytfhgnngdbbgogaa
end
section
set_option linter.unusedVariables false
set_option linter.unusedSimpArgs false
set_option maxRecDepth 10000
namespace Go.Proofs.Ytfhgnngdbbgogaa
open Go Reck Ost
theorem vu_nil : U.vushI 0 0 [] 0 [] [] := ⟨⟨rfl, rfl, Nat.le_refl _, by decide⟩, ⟨rfl, rfl, Nat.le_refl _, by decide⟩, ⟨List.Pairwise.nil⟩⟩
theorem vl_nil : U.vlshI 0 0 [] 0 [] [] := ⟨⟨rfl, rfl, Nat.le_refl _, by decide⟩, ⟨rfl, rfl, Nat.le_refl _, by decide⟩, ⟨List.Pairwise.nil⟩⟩
theorem vw_nil : U.Vw 0 0 [] 0 [] 0 0 [] 0 [] [] [] := ⟨vu_nil, vl_nil, ⟨fun _ _ h => (List.not_mem_nil h).elim⟩, ⟨fun _ _ h => (List.not_mem_nil h).elim, fun _ _ _ _ h => (List.not_mem_nil h).elim⟩⟩
theorem bad_no {s u : Int} (h : U.badP s u) (g : 1 ≤ s ∧ s ≤ 8 ∧ 0 ≤ u ∧ u ≤ 255) {X : Prop} : X := by have := h.out; exfalso; omega
theorem vl_single {P : VLP} {k : Int} {v : VLv} (h : U.vlPut [] k v P) : P = [(k, v)] := by
  have hl := h.non (fun ⟨_, hx⟩ => by cases hx)
  match P, hl with
  | [p], _ =>
    have := (h.mem p.1 p.2).1 (List.mem_singleton_self _)
    rcases this with ⟨rfl, rfl⟩ | ⟨hx, _⟩
    · rfl
    · cases hx
theorem awake21_run (K : AV → St → Prop) (h : K (lit (.bool true)) emptySt) : runR inv0 tV9 10 [] emptySt K := by
  rw [awake21_vc]
  refine ⟨[], [], ⟨⟨⟨rfl, rfl, rfl⟩, rfl, rfl, rfl⟩, vw_nil, rfl⟩, fun hb => bad_no hb (by omega), fun _ n1 c1 L1 d1 M1 Pu1 e1 S1 T1 Pl1 O1 q1 qc1 p1 r1 _ _ _ V1 => ?_⟩
  have : Pl1 = [] := r1
  subst this
  refine ⟨Pu1, [], ⟨⟨⟨rfl, rfl, rfl⟩, rfl, rfl, rfl⟩, V1, rfl⟩, fun hb => bad_no hb (by omega), fun _ n2 c2 L2 d2 M2 Pu2 e2 S2 T2 Pl2 O2 q2 qc2 p2 r2 _ _ _ V2 => ?_⟩
  have : Pl2 = [] := r2
  subst this
  have m1 : (1, (⟨3⟩ : VUv)) ∈ Pu2 := (p2.mem _ _).2 (.inr ⟨(p1.mem _ _).2 (.inl ⟨rfl, rfl⟩), by decide⟩)
  have m2 : (2, (⟨1⟩ : VUv)) ∈ Pu2 := (p2.mem _ _).2 (.inl ⟨rfl, rfl⟩)
  have u11 : U.Upp Pu2 1 1 := ⟨⟨by omega, by omega⟩, 3, m1, by decide⟩
  have u12 : U.Upp Pu2 1 2 := ⟨⟨by omega, by omega⟩, 3, m1, by decide⟩
  have u21 : U.Upp Pu2 2 1 := ⟨⟨by omega, by omega⟩, 1, m2, by decide⟩
  have hm : U.mayL Pu2 2 1 1 2 := ⟨by omega, u21, u12⟩
  refine ⟨Pu2, [], ⟨⟨⟨rfl, rfl, rfl⟩, rfl, rfl, rfl⟩, V2, rfl⟩, fun hn => absurd hm hn, fun _ _ _ _ _ _ _ hx => (List.not_mem_nil hx).elim, fun x y x' y' _ ho _ e3 f3 S3 g3 T3 Pl3 O3 q3 qc3 _ hq3 _ p3 V3 => ?_⟩
  have hord : x = 1 ∧ y = 2 ∧ x' = 2 ∧ y' = 1 := by
    rcases ho.out with ⟨_, h⟩ | ⟨hn, _⟩
    · exact h
    · exact absurd (by decide) hn
  obtain ⟨rfl, rfl, rfl, rfl⟩ := hord
  have hp := vl_single p3
  subst hp
  have hn := vlshI_n V3.l
  have hn8 := vw_n V3
  have hq0 : q3 = 0 := hq3
  have he1 : e3 = 1 := hn.symm
  refine ⟨_, ⟨⟨rfl, rfl, rfl⟩, V3.l⟩, fun L5 n5 c5 a1 a2 a3 => ⟨[(U.num 1 2, ⟨1, 2, 2, 1, 5⟩)], ⟨rfl, a3, a1.trans hn.symm, by omega⟩, fun O6 q6 c6 b1 b2 b3 z57 h57 => ⟨fun _ z58 h58 => ⟨fun _ => ⟨⟨by omega, by omega⟩, fun j59 h59 => ⟨by rw [b1, lks_len]; omega, fun z60 h60 => ⟨fun _ => ?_, fun g => absurd ?_ g⟩⟩⟩, fun g => absurd (by omega) g⟩, fun g => absurd (by omega) g⟩⟩⟩
  · refine ⟨Pu2, _, ⟨⟨⟨rfl, rfl, rfl⟩, rfl, rfl, rfl⟩, V3.u, hn8, V3.ku, V3.l, by omega⟩, fun _ => ⟨Pu2, _, ⟨⟨⟨rfl, rfl, rfl⟩, rfl, rfl, rfl⟩, V3.u, hn8, V3.ku, V3.l, by omega⟩, fun g => ?_, fun _ => h⟩, fun g => absurd ⟨u11, fun p hp hE => ?_⟩ g⟩
    · exact (g.no _ (List.mem_singleton_self _) ⟨.inl ⟨rfl, rfl⟩⟩).elim
    · rw [List.mem_singleton] at hp
      subst hp
      have := hE.out
      dsimp only at this
      omega
  · rw [h60, b1, show j59 = 0 by omega]; rfl
theorem tAw21_ok : TblOk Try.prog tAw21 := by
  intro f tm σ C h K hK
  unfold tAw21 at h
  split at h
  · rename_i hf
    obtain rfl : f = 10 := by simpa using hf
    split at h
    · simp only [Option.some.injEq] at h; subst h
      exact knownC noOv names (conOk_ofR tV9_ok) (awake21_run K hK)
    · cases h
  · cases h
end Go.Proofs.Ytfhgnngdbbgogaa
end
section
set_option linter.unusedVariables false
set_option linter.unusedSimpArgs false
set_option maxRecDepth 100000
namespace Go.Proofs.Ytfhgnngdbbgogaa
open Go Reck Go.ChangeShapes Go.WideShapes Go.Deep
structure PlI where
  (a b : Int)
def PlI.val (s : PlI) : Value := .agg #[.int .i64 s.a, .int .i64 s.b]
def plZ : PlI := ⟨0, 0⟩
structure PlI.ok (s : PlI) (W : World) : Prop where
  wa : (Lit.int .i64 s.a).wf = true
  wb : (Lit.int .i64 s.b).wf = true
end Go.Proofs.Ytfhgnngdbbgogaa
end
section
set_option linter.unusedVariables false
set_option linter.unusedSimpArgs false
set_option maxRecDepth 10000
namespace Go.Proofs.Ytfhgnngdbbgogaa
open Go Reck Ost
end Go.Proofs.Ytfhgnngdbbgogaa
end
