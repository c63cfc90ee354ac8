/- Parts of a proof, one behind the other: VN0 VVA VO VVB. No condition. -/
import Derived.Test.YtfhgnngdbbgogaaGA
import Derived.Test.YtfhgnngdbbgogaaRkV
import Derived.Test.YtfhgnngdbbgogaaGF
import Derived.Deep.Fields
import Derived.OpenShut
section
namespace Go.Proofs.Ytfhgnngdbbgogaa
open Go Reck Ost
set_option linter.unusedVariables false
set_option maxRecDepth 100000
def tAw21 : Tbl := fun f args σ => if f == 10 then match args, σ with
    | [], ⟨[], [], 0, [], 0⟩ => some fun K => K (lit (.bool true)) emptySt
    | _, _ => none
  else none
def plV (a b : Int) : AV := .inl (.inr [xintC .i64 a, xintC .i64 b])
abbrev runP (inv : InvF) (tbl : Tbl) (f : Nat) (args : List AV) (σ : St) : Prop := goT Try.prog [] (orcR inv nmt tbl) (opMem Try.prog) 3000 (.inr (.inr (.inr (.inr f)))) args σ isTrue
end Go.Proofs.Ytfhgnngdbbgogaa
end
section
set_option linter.unusedVariables false
set_option linter.unusedSimpArgs false
set_option maxRecDepth 10000
namespace Go.Proofs.Ytfhgnngdbbgogaa
open Go Reck Ost
theorem vu_nil : U.vushI 0 0 [] 0 [] [] := ⟨⟨rfl, rfl, Nat.le_refl _, by decide⟩, ⟨rfl, rfl, Nat.le_refl _, by decide⟩, ⟨List.Pairwise.nil⟩⟩
theorem vl_nil : U.vlshI 0 0 [] 0 [] [] := ⟨⟨rfl, rfl, Nat.le_refl _, by decide⟩, ⟨rfl, rfl, Nat.le_refl _, by decide⟩, ⟨List.Pairwise.nil⟩⟩
theorem vw_nil : U.Vw 0 0 [] 0 [] 0 0 [] 0 [] [] [] := ⟨vu_nil, vl_nil, ⟨fun _ _ h => (List.not_mem_nil h).elim⟩, ⟨fun _ _ h => (List.not_mem_nil h).elim, fun _ _ _ _ h => (List.not_mem_nil h).elim⟩⟩
theorem bad_no {s u : Int} (h : U.badP s u) (g : 1 ≤ s ∧ s ≤ 8 ∧ 0 ≤ u ∧ u ≤ 255) {X : Prop} : X := by have := h.out; exfalso; omega
theorem vl_single {P : VLP} {k : Int} {v : VLv} (h : U.vlPut [] k v P) : P = [(k, v)] := by
  have hl := h.non (fun ⟨_, hx⟩ => by cases hx)
  match P, hl with
  | [p], _ =>
    have := (h.mem p.1 p.2).1 (List.mem_singleton_self _)
    rcases this with ⟨rfl, rfl⟩ | ⟨hx, _⟩
    · rfl
    · cases hx
theorem awake21_run (K : AV → St → Prop) (h : K (lit (.bool true)) emptySt) : runR inv0 tV9 10 [] emptySt K := by
  rw [awake21_vc]
  refine ⟨[], [], ⟨⟨⟨rfl, rfl, rfl⟩, rfl, rfl, rfl⟩, vw_nil, rfl⟩, fun hb => bad_no hb (by omega), fun _ n1 c1 L1 d1 M1 Pu1 e1 S1 T1 Pl1 O1 q1 qc1 p1 r1 _ _ _ V1 => ?_⟩
  have : Pl1 = [] := r1
  subst this
  refine ⟨Pu1, [], ⟨⟨⟨rfl, rfl, rfl⟩, rfl, rfl, rfl⟩, V1, rfl⟩, fun hb => bad_no hb (by omega), fun _ n2 c2 L2 d2 M2 Pu2 e2 S2 T2 Pl2 O2 q2 qc2 p2 r2 _ _ _ V2 => ?_⟩
  have : Pl2 = [] := r2
  subst this
  have m1 : (1, (⟨3⟩ : VUv)) ∈ Pu2 := (p2.mem _ _).2 (.inr ⟨(p1.mem _ _).2 (.inl ⟨rfl, rfl⟩), by decide⟩)
  have m2 : (2, (⟨1⟩ : VUv)) ∈ Pu2 := (p2.mem _ _).2 (.inl ⟨rfl, rfl⟩)
  have u11 : U.Upp Pu2 1 1 := ⟨⟨by omega, by omega⟩, 3, m1, by decide⟩
  have u12 : U.Upp Pu2 1 2 := ⟨⟨by omega, by omega⟩, 3, m1, by decide⟩
  have u21 : U.Upp Pu2 2 1 := ⟨⟨by omega, by omega⟩, 1, m2, by decide⟩
  have hm : U.mayL Pu2 2 1 1 2 := ⟨by omega, u21, u12⟩
  refine ⟨Pu2, [], ⟨⟨⟨rfl, rfl, rfl⟩, rfl, rfl, rfl⟩, V2, rfl⟩, fun hn => absurd hm hn, fun _ _ _ _ _ _ _ hx => (List.not_mem_nil hx).elim, fun x y x' y' _ ho _ e3 f3 S3 g3 T3 Pl3 O3 q3 qc3 _ hq3 _ p3 V3 => ?_⟩
  have hord : x = 1 ∧ y = 2 ∧ x' = 2 ∧ y' = 1 := by
    rcases ho.out with ⟨_, h⟩ | ⟨hn, _⟩
    · exact h
    · exact absurd (by decide) hn
  obtain ⟨rfl, rfl, rfl, rfl⟩ := hord
  have hp := vl_single p3
  subst hp
  have hn := vlshI_n V3.l
  have hn8 := vw_n V3
  have hq0 : q3 = 0 := hq3
  have he1 : e3 = 1 := hn.symm
  refine ⟨_, ⟨⟨rfl, rfl, rfl⟩, V3.l⟩, fun L5 n5 c5 a1 a2 a3 => ⟨[(U.num 1 2, ⟨1, 2, 2, 1, 5⟩)], ⟨rfl, a3, a1.trans hn.symm, by omega⟩, fun O6 q6 c6 b1 b2 b3 z57 h57 => ⟨fun _ z58 h58 => ⟨fun _ => ⟨⟨by omega, by omega⟩, fun j59 h59 => ⟨by rw [b1, lks_len]; omega, fun z60 h60 => ⟨fun _ => ?_, fun g => absurd ?_ g⟩⟩⟩, fun g => absurd (by omega) g⟩, fun g => absurd (by omega) g⟩⟩⟩
  · refine ⟨Pu2, _, ⟨⟨⟨rfl, rfl, rfl⟩, rfl, rfl, rfl⟩, V3.u, hn8, V3.ku, V3.l, by omega⟩, fun _ => ⟨Pu2, _, ⟨⟨⟨rfl, rfl, rfl⟩, rfl, rfl, rfl⟩, V3.u, hn8, V3.ku, V3.l, by omega⟩, fun g => ?_, fun _ => h⟩, fun g => absurd ⟨u11, fun p hp hE => ?_⟩ g⟩
    · exact (g.no _ (List.mem_singleton_self _) ⟨.inl ⟨rfl, rfl⟩⟩).elim
    · rw [List.mem_singleton] at hp
      subst hp
      have := hE.out
      dsimp only at this
      omega
  · rw [h60, b1, show j59 = 0 by omega]; rfl
theorem tAw21_ok : TblOk Try.prog tAw21 := by
  intro f tm σ C h K hK
  unfold tAw21 at h
  split at h
  · rename_i hf
    obtain rfl : f = 10 := by simpa using hf
    split at h
    · simp only [Option.some.injEq] at h; subst h
      exact knownC noOv names (conOk_ofR tV9_ok) (awake21_run K hK)
    · cases h
  · cases h
end Go.Proofs.Ytfhgnngdbbgogaa
end
section
set_option linter.unusedVariables false
set_option linter.unusedSimpArgs false
set_option maxRecDepth 100000
namespace Go.Proofs.Ytfhgnngdbbgogaa
open Go Reck Go.ChangeShapes Go.WideShapes Go.Deep
structure PlI where
  (a b : Int)
def PlI.val (s : PlI) : Value := .agg #[.int .i64 s.a, .int .i64 s.b]
def plZ : PlI := ⟨0, 0⟩
structure PlI.ok (s : PlI) (W : World) : Prop where
  wa : (Lit.int .i64 s.a).wf = true
  wb : (Lit.int .i64 s.b).wf = true
theorem pl_list {α : Type} : ∀ l : List α, l.length = 2 → ∃ x0 x1, l = [x0, x1]
  | [x0, x1], _ => ⟨x0, x1, rfl⟩
theorem pl_fld {H : Type} {enc : TypeId × Value → H} {P : Program} {w : World} {base : Nat} {spare : Nat → Bool} {held : Bool} {t : TypeId} {fs : Array Field} {fuel : Nat} {cs : List Value} {x : DataW H × List MemPlace} (ht : P.underlying t = some (.struct fs)) (hone : oneCellFields P fs = true) (hC : P.cellsOf t = fs.size)
    (h : DataW.trod enc P w base spare held fuel t cs = some x) : ∃ n, cs.length = fs.size ∧ ∀ (i : Nat) (f : Field), fs[i]? = some f → ∃ y, DataW.trod enc P w base spare held n f.type [cs.getD i undef] = some y := by
  obtain ⟨ys, n, _, _, hl, hyl, hfld⟩ := DataW.trod_struct ht h
  refine ⟨n, hl.trans hC, fun i f hi => ?_⟩
  have hlt : i < fs.size := (Array.getElem?_eq_some_iff.1 hi).1
  obtain ⟨ho, hc1⟩ := hone_of hone i f hi
  have e := hfld i f hi
  rw [ho, hc1, take1_drop _ i undef (by omega)] at e
  have hy : i < ys.length := by omega
  exact ⟨ys[i], by rw [← List.getElem?_eq_getElem hy, ← e]⟩
theorem open_pl {H : Type} {enc : TypeId × Value → H} {W : World} {b0 : Nat} {held : Bool} {v : Value} {d : DataW H} {p : List MemPlace} (hval : Value.okWide Try.prog W .any b0 32 v) (h : DataW.Trod enc Try.prog W 0 (fun _ => true) held 32 v d p) : ∃ s : PlI, v = s.val ∧ s.ok W := by
  obtain ⟨cs, rfl, hsz⟩ : ∃ cs, v = .agg cs ∧ cs.size = Try.prog.cellsOf 32 := by
    simp only [Value.okWide, Try.underlying32] at hval
    obtain ⟨cs, h1, h2, _⟩ := hval
    exact ⟨cs, h1, h2⟩
  have hC : Try.prog.cellsOf 32 = 2 := by kernel_rfl
  rw [hC] at hsz
  obtain ⟨fuel, hf⟩ := h
  have hf : DataW.trod enc Try.prog W 0 (fun _ => true) held fuel 32 cs.toList = some (d, p) := hf
  obtain ⟨x0, x1, hcs⟩ := pl_list cs.toList (by simpa using hsz)
  rw [hcs] at hf
  obtain ⟨n, _, g⟩ := pl_fld Try.underlying32 (by kernel_rfl) (by kernel_rfl) hf
  obtain rfl : cs = #[x0, x1] := by cases cs; simp_all
  clear hval hcs hf
  obtain ⟨y0, hy0⟩ := g 0 _ rfl
  obtain ⟨z0, e0, _, w0⟩ := DataW.trod_int Try.underlying3 hy0
  obtain rfl : x0 = .int .i64 z0 := (List.cons.inj e0).1
  obtain ⟨y1, hy1⟩ := g 1 _ rfl
  obtain ⟨z1, e1, _, w1⟩ := DataW.trod_int Try.underlying3 hy1
  obtain rfl : x1 = .int .i64 z1 := (List.cons.inj e1).1
  exact ⟨⟨z0, z1⟩, rfl, ⟨w0, w1⟩⟩
end Go.Proofs.Ytfhgnngdbbgogaa
end
section
set_option linter.unusedVariables false
set_option linter.unusedSimpArgs false
set_option maxRecDepth 10000
namespace Go.Proofs.Ytfhgnngdbbgogaa
open Go Reck Ost
end Go.Proofs.Ytfhgnngdbbgogaa
end
