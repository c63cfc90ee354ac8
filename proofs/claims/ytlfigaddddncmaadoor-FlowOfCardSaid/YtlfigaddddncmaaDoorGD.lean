/- Parts of a proof, one behind the other: KO YH YI. No condition. -/
import Derived.Test.YtlfigaddddncmaaDoorGB
import Derived.Deep.Fields
import Derived.OpenShut
import Derived.Test.YtlfigaddddncmaaDoorGC
import Derived.Test.YtlfigaddddncmaaDoorRkV
import Derived.Test.YtlfigaddddncmaaDoorRkG
section
set_option linter.unusedVariables false
set_option linter.unusedSimpArgs false
set_option maxRecDepth 100000
namespace Go.Proofs.YtlfigaddddncmaaDoor
open Go Reck Go.ChangeShapes Go.WideShapes Go.Deep

structure Ky where
  (src dst sip dip proto sport dport : Int)
def Ky.val (s : Ky) : Value := .agg #[.int .u64 s.src, .int .u64 s.dst, .int .u32 s.sip, .int .u32 s.dip, .int .i64 s.proto, .int .i64 s.sport, .int .i64 s.dport]
def keyZ : Ky := ⟨0, 0, 0, 0, 0, 0, 0⟩
structure Ky.ok (s : Ky) (W : World) : Prop where
  wsrc : (Lit.int .u64 s.src).wf = true
  wdst : (Lit.int .u64 s.dst).wf = true
  wsip : (Lit.int .u32 s.sip).wf = true
  wdip : (Lit.int .u32 s.dip).wf = true
  wproto : (Lit.int .i64 s.proto).wf = true
  wsport : (Lit.int .i64 s.sport).wf = true
  wdport : (Lit.int .i64 s.dport).wf = true
theorem key_list {α : Type} : ∀ l : List α, l.length = 7 → ∃ x0 x1 x2 x3 x4 x5 x6, l = [x0, x1, x2, x3, x4, x5, x6]
  | [x0, x1, x2, x3, x4, x5, x6], _ => ⟨x0, x1, x2, x3, x4, x5, x6, rfl⟩
theorem key_fld {H : Type} {enc : TypeId × Value → H} {P : Program} {w : World} {base : Nat} {spare : Nat → Bool} {held : Bool} {t : TypeId} {fs : Array Field} {fuel : Nat} {cs : List Value} {x : DataW H × List MemPlace} (ht : P.underlying t = some (.struct fs)) (hone : oneCellFields P fs = true) (hC : P.cellsOf t = fs.size)
    (h : DataW.trod enc P w base spare held fuel t cs = some x) : ∃ n, cs.length = fs.size ∧ ∀ (i : Nat) (f : Field), fs[i]? = some f → ∃ y, DataW.trod enc P w base spare held n f.type [cs.getD i undef] = some y := by
  obtain ⟨ys, n, _, _, hl, hyl, hfld⟩ := DataW.trod_struct ht h
  refine ⟨n, hl.trans hC, fun i f hi => ?_⟩
  have hlt : i < fs.size := (Array.getElem?_eq_some_iff.1 hi).1
  obtain ⟨ho, hc1⟩ := hone_of hone i f hi
  have e := hfld i f hi
  rw [ho, hc1, take1_drop _ i undef (by omega)] at e
  have hy : i < ys.length := by omega
  exact ⟨ys[i], by rw [← List.getElem?_eq_getElem hy, ← e]⟩
theorem open_key {H : Type} {enc : TypeId × Value → H} {W : World} {b0 : Nat} {held : Bool} {v : Value} {d : DataW H} {p : List MemPlace} (hval : Value.okWide Tryd.prog W .any b0 31 v) (h : DataW.Trod enc Tryd.prog W 0 (fun _ => true) held 31 v d p) : ∃ s : Ky, v = s.val ∧ s.ok W := by
  obtain ⟨cs, rfl, hsz⟩ : ∃ cs, v = .agg cs ∧ cs.size = Tryd.prog.cellsOf 31 := by
    simp only [Value.okWide, Tryd.underlying31] at hval
    obtain ⟨cs, h1, h2, _⟩ := hval
    exact ⟨cs, h1, h2⟩
  have hC : Tryd.prog.cellsOf 31 = 7 := by kernel_rfl
  rw [hC] at hsz
  obtain ⟨fuel, hf⟩ := h
  have hf : DataW.trod enc Tryd.prog W 0 (fun _ => true) held fuel 31 cs.toList = some (d, p) := hf
  obtain ⟨x0, x1, x2, x3, x4, x5, x6, hcs⟩ := key_list cs.toList (by simpa using hsz)
  rw [hcs] at hf
  obtain ⟨n, _, g⟩ := key_fld Tryd.underlying31 (by kernel_rfl) (by kernel_rfl) hf
  obtain rfl : cs = #[x0, x1, x2, x3, x4, x5, x6] := by cases cs; simp_all
  clear hval hcs hf
  obtain ⟨y0, hy0⟩ := g 0 _ rfl
  obtain ⟨z0, e0, _, w0⟩ := DataW.trod_int Tryd.underlying28 hy0
  obtain rfl : x0 = .int .u64 z0 := (List.cons.inj e0).1
  obtain ⟨y1, hy1⟩ := g 1 _ rfl
  obtain ⟨z1, e1, _, w1⟩ := DataW.trod_int Tryd.underlying28 hy1
  obtain rfl : x1 = .int .u64 z1 := (List.cons.inj e1).1
  obtain ⟨y2, hy2⟩ := g 2 _ rfl
  obtain ⟨z2, e2, _, w2⟩ := DataW.trod_int Tryd.underlying29 hy2
  obtain rfl : x2 = .int .u32 z2 := (List.cons.inj e2).1
  obtain ⟨y3, hy3⟩ := g 3 _ rfl
  obtain ⟨z3, e3, _, w3⟩ := DataW.trod_int Tryd.underlying29 hy3
  obtain rfl : x3 = .int .u32 z3 := (List.cons.inj e3).1
  obtain ⟨y4, hy4⟩ := g 4 _ rfl
  obtain ⟨z4, e4, _, w4⟩ := DataW.trod_int Tryd.underlying3 hy4
  obtain rfl : x4 = .int .i64 z4 := (List.cons.inj e4).1
  obtain ⟨y5, hy5⟩ := g 5 _ rfl
  obtain ⟨z5, e5, _, w5⟩ := DataW.trod_int Tryd.underlying3 hy5
  obtain rfl : x5 = .int .i64 z5 := (List.cons.inj e5).1
  obtain ⟨y6, hy6⟩ := g 6 _ rfl
  obtain ⟨z6, e6, _, w6⟩ := DataW.trod_int Tryd.underlying3 hy6
  obtain rfl : x6 = .int .i64 z6 := (List.cons.inj e6).1
  exact ⟨⟨z0, z1, z2, z3, z4, z5, z6⟩, rfl, ⟨w0, w1, w2, w3, w4, w5, w6⟩⟩
end Go.Proofs.YtlfigaddddncmaaDoor
end

section
namespace Go.Proofs.YtlfigaddddncmaaDoor
open Go Reck
set_option linter.unusedVariables false
def U.plcN : List Int := [24, 16, 8, 0]
def U.plc : List Value := U.plcN.map fun z => Value.int .i64 z
def U.plcA : Option ABlk := some ⟨0, .o (.glob 0 U.plc), [], 0, true⟩
def U.powN : List Int := [1, 10, 100, 1000, 10000, 100000, 1000000, 10000000, 100000000, 1000000000, 10000000000, 100000000000, 1000000000000, 10000000000000, 100000000000000, 1000000000000000, 10000000000000000, 100000000000000000, 1000000000000000000, 10000000000000000000]
def U.pow : List Value := U.powN.map fun z => Value.int .u64 z
def U.powA : Option ABlk := some ⟨0, .o (.glob 1 U.pow), [], 0, true⟩
def plcSt : St := ⟨[], [], 0, [U.plcA, U.powA], 0⟩
set_option maxRecDepth 100000
--PLAIN
theorem awake6_vc (K : AV → St → Prop) : (goT Tryd.prog [] (orcOf inv0 tYG) (opCM Tryd.prog) 6000 (.inr (.inr (.inr (.inr 13)))) [] plcSt (retC plcSt K)) = ((U.KG (1 : Int) (2 : Int) (167772161 : Int) (167772162 : Int) (6 : Int) (4000 : Int) (80 : Int) → U.KK (1 : Int) (2 : Int) (167772161 : Int) (167772162 : Int) (6 : Int) (4000 : Int) (80 : Int) ∧ (U.KG (1 : Int) (2 : Int) (167772161 : Int) (167772162 : Int) (6 : Int) (4000 : Int) (80 : Int) → ∀ (L0 : List Int) (m1 c2 cap3 : Nat), L0 = U.kb (1 : Int) (2 : Int) (167772161 : Int) (167772162 : Int) (6 : Int) (4000 : Int) (80 : Int) → m1 = (25 : Nat) → m1 ≤ c2 → c2 ≤ cap3 → ∀ (z4 : Int), z4 = (↑m1 : Int) → (z4 = (25 : Int) → (U.KG (1 : Int) (2 : Int) (167772161 : Int) (167772162 : Int) (6 : Int) (4000 : Int) (80 : Int) → K (Sum.inl (Sum.inl (Sum.inl (Value.bool true)))) { heap := [], ints := [], opqs := (0 : Nat), arrs := [some { elem := (0 : Nat), k := AK.o (Obj.glob (0 : Nat) U.plc), l := [], cap := (0 : Nat), ro := true }, some { elem := (0 : Nat), k := AK.o (Obj.glob (1 : Nat) U.pow), l := [], cap := (0 : Nat), ro := true }], junks := (0 : Nat) }) ∧ (¬U.KG (1 : Int) (2 : Int) (167772161 : Int) (167772162 : Int) (6 : Int) (4000 : Int) (80 : Int) → K (Sum.inl (Sum.inl (Sum.inl (Value.bool false)))) { heap := [], ints := [], opqs := (0 : Nat), arrs := [some { elem := (0 : Nat), k := AK.o (Obj.glob (0 : Nat) U.plc), l := [], cap := (0 : Nat), ro := true }, some { elem := (0 : Nat), k := AK.o (Obj.glob (1 : Nat) U.pow), l := [], cap := (0 : Nat), ro := true }], junks := (0 : Nat) })) ∧ (¬z4 = (25 : Int) → K (Sum.inl (Sum.inl (Sum.inl (Value.bool false)))) { heap := [], ints := [], opqs := (0 : Nat), arrs := [some { elem := (0 : Nat), k := AK.o (Obj.glob (0 : Nat) U.plc), l := [], cap := (0 : Nat), ro := true }, some { elem := (0 : Nat), k := AK.o (Obj.glob (1 : Nat) U.pow), l := [], cap := (0 : Nat), ro := true }], junks := (0 : Nat) })) ∧ (¬U.KG (1 : Int) (2 : Int) (167772161 : Int) (167772162 : Int) (6 : Int) (4000 : Int) (80 : Int) → K (Sum.inl (Sum.inl (Sum.inl (Value.bool false)))) { heap := [], ints := [], opqs := (0 : Nat), arrs := [some { elem := (0 : Nat), k := AK.o (Obj.glob (0 : Nat) U.plc), l := [], cap := (0 : Nat), ro := true }, some { elem := (0 : Nat), k := AK.o (Obj.glob (1 : Nat) U.pow), l := [], cap := (0 : Nat), ro := true }], junks := (0 : Nat) })) ∧ (¬U.KG (1 : Int) (2 : Int) (167772161 : Int) (167772162 : Int) (6 : Int) (4000 : Int) (80 : Int) → K (Sum.inl (Sum.inl (Sum.inl (Value.bool false)))) { heap := [], ints := [], opqs := (0 : Nat), arrs := [some { elem := (0 : Nat), k := AK.o (Obj.glob (0 : Nat) U.plc), l := [], cap := (0 : Nat), ro := true }, some { elem := (0 : Nat), k := AK.o (Obj.glob (1 : Nat) U.pow), l := [], cap := (0 : Nat), ro := true }], junks := (0 : Nat) })) := by kernel_rfl
end Go.Proofs.YtlfigaddddncmaaDoor
end

section
set_option linter.unusedVariables false
set_option maxRecDepth 100000
namespace Go.Proofs.YtlfigaddddncmaaDoor
open Go Reck Ost
theorem awake6_run (K : AV → St → Prop) (h : K (lit (.bool true)) plcSt) : goT Tryd.prog [] (orcOf inv0 tYG) (opCM Tryd.prog) 6000 (.inr (.inr (.inr (.inr 13)))) [] plcSt (retC plcSt K) := by
  rw [awake6_vc]
  have hg : U.KG 1 2 167772161 167772162 6 4000 80 := ⟨by omega, by omega, by omega, by omega⟩
  have hk : U.KK 1 2 167772161 167772162 6 4000 80 := ⟨by omega, by omega, by omega, by omega, by omega, by omega, by omega⟩
  refine ⟨fun _ => ⟨hk, fun _ L m c cap hL hm hc hcap z hz => ⟨fun _ => ⟨fun _ => h, fun hn => absurd hg hn⟩, fun hn => by omega⟩, fun hn => absurd hg hn⟩, fun hn => absurd hg hn⟩
def tAwake6 : Tbl := fun f args σ => if f == 13 then match args, σ with
    | [], ⟨[], [], 0, [some ⟨0, .o (.glob 0 a), [], 0, true⟩, some ⟨0, .o (.glob 1 b), [], 0, true⟩], 0⟩ => some fun K => (a = U.plc ∧ b = U.pow) ∧ K (lit (.bool true)) ⟨[], [], 0, [some ⟨0, .o (.glob 0 a), [], 0, true⟩, some ⟨0, .o (.glob 1 b), [], 0, true⟩], 0⟩
    | _, _ => none
  else none
theorem tAwake6_ok : TblOk Tryd.prog tAwake6 := by
  intro f tm σ C h K hK
  unfold tAwake6 at h
  split at h
  · rename_i hf
    obtain rfl : f = 13 := by simpa using hf
    split at h
    · simp only [Option.some.injEq] at h; subst h
      obtain ⟨⟨rfl, rfl⟩, hK⟩ := hK
      refine knownD (R := orcOf inv0 tYG) (n := 6000) noOv names (opCM_ok _) (conOk_of tYG_ok) (K := K) ?_
      show goT Tryd.prog [] (orcOf inv0 tYG) (opCM Tryd.prog) 6000 (.inr (.inr (.inr (.inr 13)))) [] plcSt (retC plcSt K)
      exact awake6_run K hK
    · cases h
  · cases h
def tYI : Tbl := tblOr tYG tAwake6
theorem tYI_ok : TblOk Tryd.prog tYI := tblOr_ok tYG_ok tAwake6_ok
def plcB (L : List Int) (cap : Nat) : St := ⟨[], [], 0, [some (bs L cap true), U.plcA, U.powA], 0⟩
theorem ok_plc {w : World} (h : GlobIs w 0 U.plc) (k : GlobIs w 1 U.pow) : Ok w (arE [.inr (0, 0), .inr (1, 0)]) plcSt w :=
  ok_arrs w (l := [globB 0 U.plc, globB 1 U.pow]) rfl (by simp [globB]) (by
    intro i x q h1 h2
    match i with
    | 0 =>
      simp only [List.getElem?_cons_zero, Option.some.injEq] at h1 h2
      subst h1; subst h2
      exact globB_ok h _ rfl
    | 1 =>
      simp only [List.getElem?_cons_zero, List.getElem?_cons_succ, Option.some.injEq] at h1 h2
      subst h1; subst h2
      exact globB_ok k _ rfl
    | i + 2 => simp at h1)
theorem ok_plcB {w : World} (h : GlobIs w 0 U.plc) (k : GlobIs w 1 U.pow) {L : List Int} {q : Option Addr ⊕ (Nat × Nat)} (hq : ∀ e : Env, e.S = (fun _ => False) → AOk w w e ⟨5, .n .u8, L, 0, true⟩ q) :
    Ok w (arE [q, .inr (0, 0), .inr (1, 0)]) (plcB L 0) w :=
  ok_arrs w (l := [⟨5, .n .u8, L, 0, true⟩, globB 0 U.plc, globB 1 U.pow]) rfl (by simp [globB]) (by
    intro i x q h1 h2
    match i with
    | 0 =>
      simp only [List.getElem?_cons_zero, Option.some.injEq] at h1 h2
      subst h1; subst h2
      exact hq _ rfl
    | 1 =>
      simp only [List.getElem?_cons_zero, List.getElem?_cons_succ, Option.some.injEq] at h1 h2
      subst h1; subst h2
      exact globB_ok h _ rfl
    | 2 =>
      simp only [List.getElem?_cons_zero, List.getElem?_cons_succ, Option.some.injEq] at h1 h2
      subst h1; subst h2
      exact globB_ok k _ rfl
    | i + 3 => simp at h1)
end Go.Proofs.YtlfigaddddncmaaDoor
end
