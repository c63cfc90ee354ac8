/- Parts of a proof, one behind the other: E14 EO. No condition. -/
import Derived.Test.YtdpcahblhjbgjaaDoorGJ
import Derived.Test.YtdpcahblhjbgjaaDoorGC
import Derived.Deep.Fields
import Derived.OpenShut
section
set_option linter.unusedVariables false
set_option linter.unusedSimpArgs false
set_option maxRecDepth 10000
namespace Go.Proofs.YtdpcahblhjbgjaaDoor
open Go Reck Ost
theorem shI_0 : U.shI 0 0 U.nilL 0 U.nilL [] := ⟨⟨rfl, rfl, Nat.le_refl _, by decide⟩, ⟨rfl, rfl, Nat.le_refl _, by decide⟩, ⟨List.Pairwise.nil⟩⟩
theorem put_0 {k : List Int} {e : En} {P' : Prs} (h : U.Put [] k e P') : U.len P' = 1 ∧ ∀ x y, (x, y) ∈ P' ↔ x = k ∧ y = e := by
  refine ⟨h.non (fun ⟨e, he⟩ => by simp at he), fun x y => ?_⟩
  rw [h.mem x y]; simp
theorem put_1 {P : Prs} {k : List Int} {e e' : En} {P' : Prs} (hl : U.len P = 1) (hm : ∀ x y, (x, y) ∈ P ↔ x = k ∧ y = e) (h : U.Put P k e' P') : U.len P' = 1 ∧ ∀ x y, (x, y) ∈ P' ↔ x = k ∧ y = e' := by
  refine ⟨(h.has ⟨e, (hm k e).2 ⟨rfl, rfl⟩⟩).trans hl, fun x y => ?_⟩
  rw [h.mem x y, hm x y]
  constructor
  · rintro (h | ⟨⟨rfl, _⟩, h2⟩)
    · exact h
    · exact (h2 rfl).elim
  · exact .inl
theorem awake_run (K : AV → St → Prop) (hK : K (lit (.bool true)) powSt) : runV ovI inv0 tAwk 15 [] powSt K := by
  rw [awake_vc]
  rintro z0 rfl
  have kk : U.KK 1 2 3 4 6 5 80 := ⟨by omega, by omega, by omega, by omega, by omega, by omega, by omega⟩
  refine ⟨[], ⟨⟨rfl, rfl, rfl, rfl⟩, shI_0, by omega, kk, ⟨by omega, by omega, ⟨by omega, by omega, by omega, by omega⟩, by omega, by omega⟩, ⟨.inr (by decide)⟩⟩, fun L2 n3 c4 M5 d6 P7 e3 p7 i7 => ?_⟩
  obtain ⟨l7, m7⟩ := put_0 p7
  refine ⟨P7, ⟨⟨rfl, rfl, rfl, rfl⟩, i7, by omega, kk, by omega, by omega⟩, 1, 1, 2, 3, 4, 6, 5, 80, 2, 0, 5, 0, 10, 10, ⟨(m7 _ _).2 ⟨rfl, rfl⟩, rfl, fun ⟨ho⟩ => ?_⟩, fun L23 n24 c25 M26 d27 P28 e24 p28 i28 => ?_⟩
  · revert ho; decide
  obtain ⟨l8, m8⟩ := put_1 l7 m7 p28
  refine ⟨P28, ⟨⟨rfl, rfl, rfl, rfl⟩, i28, by omega, kk, by omega, by omega⟩, ⟨fun e he hx => ?_⟩, P28, ⟨⟨rfl, rfl, rfl, rfl⟩, i28, by omega, kk, by omega, by omega⟩, ⟨fun e he hx => ?_⟩, ?_⟩
  · obtain ⟨_, rfl⟩ := (m8 _ _).1 he
    exact hx.2 ⟨by decide⟩
  · obtain ⟨_, rfl⟩ := (m8 _ _).1 he
    exact absurd (show (0 : Int) = -1 from hx.1) (by decide)
  · refine ⟨fun _ => ?_, fun h => absurd rfl h⟩
    rintro z31 rfl
    exact ⟨fun _ => hK, fun h => absurd (by rw [e24, l8]; rfl) h⟩
def tAw : Tbl := fun f args σ => if f == 15 then match args, σ with
    | [], ⟨[], [], 0, [some ⟨0, .o (.glob 0 vs), [], 0, true⟩], 0⟩ => some fun K => vs = U.pow ∧ K (lit (.bool true)) powSt
    | _, _ => none
  else none
theorem tAw_ok : TblOk Tryd.prog tAw := by
  intro f tm σ C h K hK
  unfold tAw at h
  split at h
  · rename_i hf
    obtain rfl : f = 15 := by simpa using hf
    split at h
    · simp only [Option.some.injEq] at h; subst h
      obtain ⟨rfl, hK⟩ := hK
      exact knownD noOv names (opMV_ok ovIs) (conOk_ofR tAwk_ok) (awake_run K hK)
    · cases h
  · cases h
def tLaw : Tbl := tblOr tAw tTab
theorem tLaw_ok : TblOk Tryd.prog tLaw := tblOr_ok tAw_ok tTab_ok
abbrev runLaw (f : Nat) (args : List AV) : Prop := goT Tryd.prog [] (orcR inv0 nmt tLaw) (opMV Tryd.prog ovI) 3000 (.inr (.inr (.inr (.inr f)))) args powSt isTrue
end Go.Proofs.YtdpcahblhjbgjaaDoor
end

section
set_option linter.unusedVariables false
set_option linter.unusedSimpArgs false
set_option maxRecDepth 100000
namespace Go.Proofs.YtdpcahblhjbgjaaDoor
open Go Reck Go.ChangeShapes Go.WideShapes Go.Deep

def En.val (e : En) : Value := .agg #[.int .i64 e.p, .int .u64 e.a, .int .u64 e.b, .int .u32 e.c, .int .u32 e.d, .int .i64 e.x, .int .i64 e.s, .int .i64 e.t, .bool e.en, .bool e.la, .int .i64 e.o, .int .u32 e.ep, .int .i64 e.i, .int .i64 e.h, .int .i64 e.bo, .int .i64 e.us]
def enZ : En := ⟨0, 0, 0, 0, 0, 0, 0, 0, false, false, 0, 0, 0, 0, 0, 0⟩
structure En.ok (e : En) (W : World) : Prop where
  wp : (Lit.int .i64 e.p).wf = true
  wa : (Lit.int .u64 e.a).wf = true
  wb : (Lit.int .u64 e.b).wf = true
  wc : (Lit.int .u32 e.c).wf = true
  wd : (Lit.int .u32 e.d).wf = true
  wx : (Lit.int .i64 e.x).wf = true
  ws : (Lit.int .i64 e.s).wf = true
  wt : (Lit.int .i64 e.t).wf = true
  wo : (Lit.int .i64 e.o).wf = true
  wep : (Lit.int .u32 e.ep).wf = true
  wi : (Lit.int .i64 e.i).wf = true
  wh : (Lit.int .i64 e.h).wf = true
  wbo : (Lit.int .i64 e.bo).wf = true
  wus : (Lit.int .i64 e.us).wf = true
theorem ent_list {α : Type} : ∀ l : List α, l.length = 16 → ∃ x0 x1 x2 x3 x4 x5 x6 x7 x8 x9 x10 x11 x12 x13 x14 x15, l = [x0, x1, x2, x3, x4, x5, x6, x7, x8, x9, x10, x11, x12, x13, x14, x15]
  | [x0, x1, x2, x3, x4, x5, x6, x7, x8, x9, x10, x11, x12, x13, x14, x15], _ => ⟨x0, x1, x2, x3, x4, x5, x6, x7, x8, x9, x10, x11, x12, x13, x14, x15, rfl⟩
theorem ent_fld {H : Type} {enc : TypeId × Value → H} {P : Program} {w : World} {base : Nat} {spare : Nat → Bool} {held : Bool} {t : TypeId} {fs : Array Field} {fuel : Nat} {cs : List Value} {x : DataW H × List MemPlace} (ht : P.underlying t = some (.struct fs))
    (h : DataW.trod enc P w base spare held fuel t cs = some x) : ∀ (i : Nat) (f : Field) (k : Nat), fs[i]? = some f → P.cellsOf f.type = k → ∃ n y, DataW.trod enc P w base spare held n f.type ((cs.drop f.offset).take k) = some y := by
  obtain ⟨ys, n, _, _, hl, hyl, hfld⟩ := DataW.trod_struct ht h
  intro i f k hi hk
  have e := hfld i f hi
  rw [hk] at e
  have hy : i < ys.length := by rw [hyl]; exact (Array.getElem?_eq_some_iff.1 hi).1
  exact ⟨n, ys[i], by rw [← List.getElem?_eq_getElem hy, ← e]⟩
theorem open_entry {H : Type} {enc : TypeId × Value → H} {W : World} {b0 : Nat} {held : Bool} {v : Value} {d : DataW H} {p : List MemPlace} (hval : Value.okWide Tryd.prog W .any b0 34 v) (h : DataW.Trod enc Tryd.prog W 0 (fun _ => true) held 34 v d p) : ∃ s : En, v = s.val ∧ s.ok W := by
  obtain ⟨cs, rfl, hsz⟩ : ∃ cs, v = .agg cs ∧ cs.size = Tryd.prog.cellsOf 34 := by
    simp only [Value.okWide, Tryd.underlying34] at hval
    obtain ⟨cs, h1, h2, _⟩ := hval
    exact ⟨cs, h1, h2⟩
  have hC : Tryd.prog.cellsOf 34 = 16 := by kernel_rfl
  rw [hC] at hsz
  obtain ⟨fuel, hf⟩ := h
  have hf : DataW.trod enc Tryd.prog W 0 (fun _ => true) held fuel 34 cs.toList = some (d, p) := hf
  obtain ⟨x0, x1, x2, x3, x4, x5, x6, x7, x8, x9, x10, x11, x12, x13, x14, x15, hcs⟩ := ent_list cs.toList (by simpa using hsz)
  rw [hcs] at hf
  have g := ent_fld Tryd.underlying34 hf
  obtain rfl : cs = #[x0, x1, x2, x3, x4, x5, x6, x7, x8, x9, x10, x11, x12, x13, x14, x15] := by cases cs; simp_all
  clear hval hcs hf
  obtain ⟨nk, yk, hk⟩ := g 1 _ 7 rfl (by kernel_rfl)
  have hk : DataW.trod enc Tryd.prog W 0 (fun _ => true) held nk 32 [x1, x2, x3, x4, x5, x6, x7] = some yk := hk
  obtain ⟨nn, _, gk⟩ := key_fld Tryd.underlying32 (by kernel_rfl) (by kernel_rfl) hk
  obtain ⟨n0, y0, hy0⟩ := g 0 _ 1 rfl (by kernel_rfl)
  have hy0 : DataW.trod enc Tryd.prog W 0 (fun _ => true) held n0 3 [x0] = some y0 := hy0
  obtain ⟨z0, e0, _, w0⟩ := DataW.trod_int Tryd.underlying3 hy0
  obtain rfl : x0 = .int .i64 z0 := (List.cons.inj e0).1
  obtain ⟨y1, hy1⟩ := gk 0 _ rfl
  obtain ⟨z1, e1, _, w1⟩ := DataW.trod_int Tryd.underlying28 hy1
  obtain rfl : x1 = .int .u64 z1 := (List.cons.inj e1).1
  obtain ⟨y2, hy2⟩ := gk 1 _ rfl
  obtain ⟨z2, e2, _, w2⟩ := DataW.trod_int Tryd.underlying28 hy2
  obtain rfl : x2 = .int .u64 z2 := (List.cons.inj e2).1
  obtain ⟨y3, hy3⟩ := gk 2 _ rfl
  obtain ⟨z3, e3, _, w3⟩ := DataW.trod_int Tryd.underlying30 hy3
  obtain rfl : x3 = .int .u32 z3 := (List.cons.inj e3).1
  obtain ⟨y4, hy4⟩ := gk 3 _ rfl
  obtain ⟨z4, e4, _, w4⟩ := DataW.trod_int Tryd.underlying30 hy4
  obtain rfl : x4 = .int .u32 z4 := (List.cons.inj e4).1
  obtain ⟨y5, hy5⟩ := gk 4 _ rfl
  obtain ⟨z5, e5, _, w5⟩ := DataW.trod_int Tryd.underlying3 hy5
  obtain rfl : x5 = .int .i64 z5 := (List.cons.inj e5).1
  obtain ⟨y6, hy6⟩ := gk 5 _ rfl
  obtain ⟨z6, e6, _, w6⟩ := DataW.trod_int Tryd.underlying3 hy6
  obtain rfl : x6 = .int .i64 z6 := (List.cons.inj e6).1
  obtain ⟨y7, hy7⟩ := gk 6 _ rfl
  obtain ⟨z7, e7, _, w7⟩ := DataW.trod_int Tryd.underlying3 hy7
  obtain rfl : x7 = .int .i64 z7 := (List.cons.inj e7).1
  obtain ⟨n8, y8, hy8⟩ := g 2 _ 1 rfl (by kernel_rfl)
  have hy8 : DataW.trod enc Tryd.prog W 0 (fun _ => true) held n8 4 [x8] = some y8 := hy8
  obtain ⟨z8, e8, _⟩ := DataW.trod_bool Tryd.underlying4 hy8
  obtain rfl : x8 = .bool z8 := (List.cons.inj e8).1
  obtain ⟨n9, y9, hy9⟩ := g 3 _ 1 rfl (by kernel_rfl)
  have hy9 : DataW.trod enc Tryd.prog W 0 (fun _ => true) held n9 4 [x9] = some y9 := hy9
  obtain ⟨z9, e9, _⟩ := DataW.trod_bool Tryd.underlying4 hy9
  obtain rfl : x9 = .bool z9 := (List.cons.inj e9).1
  obtain ⟨n10, y10, hy10⟩ := g 4 _ 1 rfl (by kernel_rfl)
  have hy10 : DataW.trod enc Tryd.prog W 0 (fun _ => true) held n10 3 [x10] = some y10 := hy10
  obtain ⟨z10, e10, _, w10⟩ := DataW.trod_int Tryd.underlying3 hy10
  obtain rfl : x10 = .int .i64 z10 := (List.cons.inj e10).1
  obtain ⟨n11, y11, hy11⟩ := g 5 _ 1 rfl (by kernel_rfl)
  have hy11 : DataW.trod enc Tryd.prog W 0 (fun _ => true) held n11 29 [x11] = some y11 := hy11
  obtain ⟨z11, e11, _, w11⟩ := DataW.trod_int Tryd.underlying29 hy11
  obtain rfl : x11 = .int .u32 z11 := (List.cons.inj e11).1
  obtain ⟨n12, y12, hy12⟩ := g 6 _ 1 rfl (by kernel_rfl)
  have hy12 : DataW.trod enc Tryd.prog W 0 (fun _ => true) held n12 3 [x12] = some y12 := hy12
  obtain ⟨z12, e12, _, w12⟩ := DataW.trod_int Tryd.underlying3 hy12
  obtain rfl : x12 = .int .i64 z12 := (List.cons.inj e12).1
  obtain ⟨n13, y13, hy13⟩ := g 7 _ 1 rfl (by kernel_rfl)
  have hy13 : DataW.trod enc Tryd.prog W 0 (fun _ => true) held n13 3 [x13] = some y13 := hy13
  obtain ⟨z13, e13, _, w13⟩ := DataW.trod_int Tryd.underlying3 hy13
  obtain rfl : x13 = .int .i64 z13 := (List.cons.inj e13).1
  obtain ⟨n14, y14, hy14⟩ := g 8 _ 1 rfl (by kernel_rfl)
  have hy14 : DataW.trod enc Tryd.prog W 0 (fun _ => true) held n14 2 [x14] = some y14 := hy14
  obtain ⟨z14, e14, _, w14⟩ := DataW.trod_int Tryd.underlying2 hy14
  obtain rfl : x14 = .int .i64 z14 := (List.cons.inj e14).1
  obtain ⟨n15, y15, hy15⟩ := g 9 _ 1 rfl (by kernel_rfl)
  have hy15 : DataW.trod enc Tryd.prog W 0 (fun _ => true) held n15 2 [x15] = some y15 := hy15
  obtain ⟨z15, e15, _, w15⟩ := DataW.trod_int Tryd.underlying2 hy15
  obtain rfl : x15 = .int .i64 z15 := (List.cons.inj e15).1
  exact ⟨⟨z0, z1, z2, z3, z4, z5, z6, z7, z8, z9, z10, z11, z12, z13, z14, z15⟩, rfl, ⟨w0, w1, w2, w3, w4, w5, w6, w7, w10, w11, w12, w13, w14, w15⟩⟩
structure En.kin (e : En) : Prop where
  k : U.KK e.a e.b e.c e.d e.x e.s e.t
  p : -9223372036854775808 ≤ e.p ∧ e.p ≤ 9223372036854775807
  ep : 0 ≤ e.ep ∧ e.ep ≤ 4294967295
  r : (-9223372036854775808 ≤ e.o ∧ e.o ≤ 9223372036854775807) ∧ (-9223372036854775808 ≤ e.i ∧ e.i ≤ 9223372036854775807) ∧ (-9223372036854775808 ≤ e.h ∧ e.h ≤ 9223372036854775807)
theorem wf_i64 {n : Int} (h : (Lit.int .i64 n).wf = true) : -9223372036854775808 ≤ n ∧ n ≤ 9223372036854775807 := by
  simp [Lit.wf, IntKind.min, IntKind.max, IntKind.signed, IntKind.bits] at h; omega
theorem wf_u64 {n : Int} (h : (Lit.int .u64 n).wf = true) : 0 ≤ n ∧ n ≤ 18446744073709551615 := by
  simp [Lit.wf, IntKind.min, IntKind.max, IntKind.signed, IntKind.bits] at h; omega
theorem wf_u32 {n : Int} (h : (Lit.int .u32 n).wf = true) : 0 ≤ n ∧ n ≤ 4294967295 := by
  simp [Lit.wf, IntKind.min, IntKind.max, IntKind.signed, IntKind.bits] at h; omega
theorem en_kin {e : En} {W : World} (h : e.ok W) : e.kin := by
  obtain ⟨h1, h2, h3, h4, h5, h6, h7, h8, h9, h10, h11, h12, h13, h14⟩ := h
  exact ⟨⟨wf_u64 h2, wf_u64 h3, wf_u32 h4, wf_u32 h5, wf_i64 h6, wf_i64 h7, wf_i64 h8⟩, wf_i64 h1, wf_u32 h10, wf_i64 h9, wf_i64 h11, wf_i64 h12⟩
theorem en_av (e : En) (ev : Env) : Reck.av ev (.inl (.inr e.cells)) = some e.val := by rfl
theorem ok_pow {w : World} (h : GlobIs w 0 U.pow) : Ok w (arE [.inr (0, 0)]) (arS [globB 0 U.pow]) w := ok_arrs w (l := [globB 0 U.pow]) (bs := [.inr (0, 0)]) rfl (by simp [globB]) (by
  intro i x q' hx hq
  cases i with
  | zero => simp at hx hq; subst hx; subst hq; exact globB_ok h _ rfl
  | succ i => simp at hx)
end Go.Proofs.YtdpcahblhjbgjaaDoor
end
