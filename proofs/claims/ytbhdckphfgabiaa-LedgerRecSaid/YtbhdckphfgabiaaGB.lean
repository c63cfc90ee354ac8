/- Parts of a proof, one behind the other: LG0 LG1 LGO. No condition. -/
import Derived.Test.YtbhdckphfgabiaaGA
import Derived.Test.YtbhdckphfgabiaaRkV
import Derived.Test.YtbhdckphfgabiaaRkB
import Derived.Test.YtbhdckphfgabiaaRkZ
import Derived.Deep.Fields
import Derived.Deep.Slices
import Derived.OpenShut
section
namespace Go.Proofs.Ytbhdckphfgabiaa
open Go Reck
set_option linter.unusedVariables false
set_option maxRecDepth 100000
theorem awake26_vc (K : AV → St → Prop) : (goT Try.prog [63, 65] (orcOf inv0 tbl0) (opCl Try.prog) 3000 (.inr (.inr (.inr (.inr 12)))) [] emptySt (retC emptySt K)) = (K (Sum.inl (Sum.inl (Sum.inl (Value.bool true)))) { heap := [], ints := [], opqs := (0 : Nat), arrs := [], junks := (0 : Nat) }) := by kernel_rfl
end Go.Proofs.Ytbhdckphfgabiaa
end

section
set_option linter.unusedVariables false
set_option linter.unusedSimpArgs false
set_option maxRecDepth 10000
namespace Go.Proofs.Ytbhdckphfgabiaa
open Go Reck Ost
theorem ov26 : [63, 65].all (isOverlaps Try.prog) = true := by kernel_rfl
def pAw26 : Pat := fun args σ => match args, σ with
  | [], ⟨[], [], 0, [], 0⟩ => some fun K => K (lit (.bool true)) emptySt
  | _, _ => none
theorem pAw26_ok : PatOk 12 pAw26 := by
  intro tm σ C h K hK w0 e w hk vs hvs
  unfold pAw26 at h
  split at h
  · simp only [Option.some.injEq] at h; subst h
    exact knownD ov26 names (opCl_ok _) (conOk_of tbl0_ok) (show goT Try.prog [63, 65] (orcOf inv0 tbl0) (opCl Try.prog) 3000 (.inr (.inr (.inr (.inr 12)))) [] emptySt (retC emptySt K) by rw [awake26_vc]; exact hK) w0 e w hk vs hvs
  · cases h
def tLg : Tbl := tblIf 12 pAw26
theorem tLg_ok : TblOk Try.prog tLg := tblIf_ok pAw26_ok
abbrev runB (inv : InvF) (tbl : Tbl) (f : Nat) (args : List AV) (σ : St) : Prop := goT Try.prog [] (orcR inv nmt tbl) (opMB Try.prog) 3000 (.inr (.inr (.inr (.inr f)))) args σ isTrue
def hopKs : List CK := [.n .i64, .n .i64, .n .i64]
def hopB (A : List (List CV)) : ABlk := ⟨94, .o (.rows hopKs A), [], 0, true⟩
/-- A flow as it comes in: its numbers, its texts, its path. -/
structure FlI where
  (z0 z1 z2 z3 z4 z5 z6 z7 z8 z9 z10 z11 z12 : Int)
  (s13 s14 s15 s16 : ByteArray)
  (z17 z18 : Int)
  A : Option Addr
  (len cap : Nat)
def flC (z0 z1 z2 z3 z4 z5 z6 z7 z8 z9 z10 z11 z12 : Int) (l13 l14 l15 l16 : List Int) (z17 z18 : Int) (c : Cell) : List Cell := [xintC .u32 z0, xintC .u32 z1, xintC .u64 z2, xintC .u64 z3, xintC .u32 z4, xintC .u32 z5, xintC .i64 z6, xintC .i64 z7, xintC .i64 z8, xintC .i64 z9, xintC .i64 z10, xintC .i64 z11, xintC .i64 z12, strC l13, strC l14, strC l15, strC l16, xintC .i64 z17, xintC .i64 z18, c]
end Go.Proofs.Ytbhdckphfgabiaa
end

section
set_option linter.unusedVariables false
set_option linter.unusedSimpArgs false
set_option maxRecDepth 100000
namespace Go.Proofs.Ytbhdckphfgabiaa
open Go Reck Go.ChangeShapes Go.WideShapes Go.Deep
def FlI.val (s : FlI) : Value := .agg #[.int .u32 s.z0, .int .u32 s.z1, .int .u64 s.z2, .int .u64 s.z3, .int .u32 s.z4, .int .u32 s.z5, .int .i64 s.z6, .int .i64 s.z7, .int .i64 s.z8, .int .i64 s.z9, .int .i64 s.z10, .int .i64 s.z11, .int .i64 s.z12, .string s.s13, .string s.s14, .string s.s15, .string s.s16, .int .i64 s.z17, .int .i64 s.z18, .slice s.A s.len s.cap]
def flZ : FlI := ⟨0, 0, 0, 0, 0, 0, 0, 0, 0, 0, 0, 0, 0, ByteArray.empty, ByteArray.empty, ByteArray.empty, ByteArray.empty, 0, 0, none, 0, 0⟩
structure FlI.ok (s : FlI) (W : World) : Prop where
  w : ∃ R, CameR hopKs W s.A s.len s.cap R
theorem fl_list {α : Type} : ∀ l : List α, l.length = 20 → ∃ x0 x1 x2 x3 x4 x5 x6 x7 x8 x9 x10 x11 x12 x13 x14 x15 x16 x17 x18 x19, l = [x0, x1, x2, x3, x4, x5, x6, x7, x8, x9, x10, x11, x12, x13, x14, x15, x16, x17, x18, x19]
  | [x0, x1, x2, x3, x4, x5, x6, x7, x8, x9, x10, x11, x12, x13, x14, x15, x16, x17, x18, x19], _ => ⟨x0, x1, x2, x3, x4, x5, x6, x7, x8, x9, x10, x11, x12, x13, x14, x15, x16, x17, x18, x19, rfl⟩
theorem fl_fld {H : Type} {enc : TypeId × Value → H} {P : Program} {w : World} {base : Nat} {spare : Nat → Bool} {held : Bool} {t : TypeId} {fs : Array Field} {fuel : Nat} {cs : List Value} {x : DataW H × List MemPlace} (ht : P.underlying t = some (.struct fs))
    (h : DataW.trod enc P w base spare held fuel t cs = some x) : ∀ (i : Nat) (f : Field) (k : Nat), fs[i]? = some f → P.cellsOf f.type = k → ∃ n y, DataW.trod enc P w base spare held n f.type ((cs.drop f.offset).take k) = some y := by
  obtain ⟨ys, n, _, _, hl, hyl, hfld⟩ := DataW.trod_struct ht h
  intro i f k hi hk
  have e := hfld i f hi
  rw [hk] at e
  have hy : i < ys.length := by rw [hyl]; exact (Array.getElem?_eq_some_iff.1 hi).1
  exact ⟨n, ys[i], by rw [← List.getElem?_eq_getElem hy, ← e]⟩
theorem open_flow {H : Type} {enc : TypeId × Value → H} {W : World} {b0 : Nat} {held : Bool} {v : Value} {d : DataW H} {p : List MemPlace} (hval : Value.okWide Try.prog W .any b0 39 v) (h : DataW.Trod enc Try.prog W 0 (fun _ => true) held 39 v d p) : ∃ s : FlI, v = s.val ∧ s.ok W := by
  obtain ⟨cs, rfl, hsz⟩ : ∃ cs, v = .agg cs ∧ cs.size = Try.prog.cellsOf 39 := by
    simp only [Value.okWide, Try.underlying39] at hval
    obtain ⟨cs, h1, h2, _⟩ := hval
    exact ⟨cs, h1, h2⟩
  have hC : Try.prog.cellsOf 39 = 20 := by kernel_rfl
  rw [hC] at hsz
  obtain ⟨fuel, hf⟩ := h
  have hf : DataW.trod enc Try.prog W 0 (fun _ => true) held fuel 39 cs.toList = some (d, p) := hf
  obtain ⟨x0, x1, x2, x3, x4, x5, x6, x7, x8, x9, x10, x11, x12, x13, x14, x15, x16, x17, x18, x19, hcs⟩ := fl_list cs.toList (by simpa using hsz)
  rw [hcs] at hf
  have g := fl_fld Try.underlying39 hf
  obtain rfl : cs = #[x0, x1, x2, x3, x4, x5, x6, x7, x8, x9, x10, x11, x12, x13, x14, x15, x16, x17, x18, x19] := by cases cs; simp_all
  clear hval hcs hf
  obtain ⟨n0, y0, hy0⟩ := g 0 _ 1 rfl (by kernel_rfl)
  have hy0 : DataW.trod enc Try.prog W 0 (fun _ => true) held n0 27 [x0] = some y0 := hy0
  obtain ⟨z0, e0, _, w0⟩ := DataW.trod_int Try.underlying27 hy0
  obtain rfl : x0 = .int .u32 z0 := (List.cons.inj e0).1
  obtain ⟨n1, y1, hy1⟩ := g 1 _ 1 rfl (by kernel_rfl)
  have hy1 : DataW.trod enc Try.prog W 0 (fun _ => true) held n1 27 [x1] = some y1 := hy1
  obtain ⟨z1, e1, _, w1⟩ := DataW.trod_int Try.underlying27 hy1
  obtain rfl : x1 = .int .u32 z1 := (List.cons.inj e1).1
  obtain ⟨mk, vk, hk⟩ := g 2 _ 7 rfl (by kernel_rfl)
  have hk : DataW.trod enc Try.prog W 0 (fun _ => true) held mk 32 [x2, x3, x4, x5, x6, x7, x8] = some vk := hk
  have gk := fl_fld Try.underlying32 hk
  obtain ⟨n2, y2, hy2⟩ := gk 0 _ 1 rfl (by kernel_rfl)
  have hy2 : DataW.trod enc Try.prog W 0 (fun _ => true) held n2 29 [x2] = some y2 := hy2
  obtain ⟨z2, e2, _, w2⟩ := DataW.trod_int Try.underlying29 hy2
  obtain rfl : x2 = .int .u64 z2 := (List.cons.inj e2).1
  obtain ⟨n3, y3, hy3⟩ := gk 1 _ 1 rfl (by kernel_rfl)
  have hy3 : DataW.trod enc Try.prog W 0 (fun _ => true) held n3 29 [x3] = some y3 := hy3
  obtain ⟨z3, e3, _, w3⟩ := DataW.trod_int Try.underlying29 hy3
  obtain rfl : x3 = .int .u64 z3 := (List.cons.inj e3).1
  obtain ⟨n4, y4, hy4⟩ := gk 2 _ 1 rfl (by kernel_rfl)
  have hy4 : DataW.trod enc Try.prog W 0 (fun _ => true) held n4 30 [x4] = some y4 := hy4
  obtain ⟨z4, e4, _, w4⟩ := DataW.trod_int Try.underlying30 hy4
  obtain rfl : x4 = .int .u32 z4 := (List.cons.inj e4).1
  obtain ⟨n5, y5, hy5⟩ := gk 3 _ 1 rfl (by kernel_rfl)
  have hy5 : DataW.trod enc Try.prog W 0 (fun _ => true) held n5 30 [x5] = some y5 := hy5
  obtain ⟨z5, e5, _, w5⟩ := DataW.trod_int Try.underlying30 hy5
  obtain rfl : x5 = .int .u32 z5 := (List.cons.inj e5).1
  obtain ⟨n6, y6, hy6⟩ := gk 4 _ 1 rfl (by kernel_rfl)
  have hy6 : DataW.trod enc Try.prog W 0 (fun _ => true) held n6 3 [x6] = some y6 := hy6
  obtain ⟨z6, e6, _, w6⟩ := DataW.trod_int Try.underlying3 hy6
  obtain rfl : x6 = .int .i64 z6 := (List.cons.inj e6).1
  obtain ⟨n7, y7, hy7⟩ := gk 5 _ 1 rfl (by kernel_rfl)
  have hy7 : DataW.trod enc Try.prog W 0 (fun _ => true) held n7 3 [x7] = some y7 := hy7
  obtain ⟨z7, e7, _, w7⟩ := DataW.trod_int Try.underlying3 hy7
  obtain rfl : x7 = .int .i64 z7 := (List.cons.inj e7).1
  obtain ⟨n8, y8, hy8⟩ := gk 6 _ 1 rfl (by kernel_rfl)
  have hy8 : DataW.trod enc Try.prog W 0 (fun _ => true) held n8 3 [x8] = some y8 := hy8
  obtain ⟨z8, e8, _, w8⟩ := DataW.trod_int Try.underlying3 hy8
  obtain rfl : x8 = .int .i64 z8 := (List.cons.inj e8).1
  obtain ⟨ma, va, ha⟩ := g 3 _ 2 rfl (by kernel_rfl)
  have ha : DataW.trod enc Try.prog W 0 (fun _ => true) held ma 34 [x9, x10] = some va := ha
  have ga := fl_fld Try.underlying34 ha
  obtain ⟨n9, y9, hy9⟩ := ga 0 _ 1 rfl (by kernel_rfl)
  have hy9 : DataW.trod enc Try.prog W 0 (fun _ => true) held n9 3 [x9] = some y9 := hy9
  obtain ⟨z9, e9, _, w9⟩ := DataW.trod_int Try.underlying3 hy9
  obtain rfl : x9 = .int .i64 z9 := (List.cons.inj e9).1
  obtain ⟨n10, y10, hy10⟩ := ga 1 _ 1 rfl (by kernel_rfl)
  have hy10 : DataW.trod enc Try.prog W 0 (fun _ => true) held n10 3 [x10] = some y10 := hy10
  obtain ⟨z10, e10, _, w10⟩ := DataW.trod_int Try.underlying3 hy10
  obtain rfl : x10 = .int .i64 z10 := (List.cons.inj e10).1
  obtain ⟨mb, vb, hb⟩ := g 4 _ 2 rfl (by kernel_rfl)
  have hb : DataW.trod enc Try.prog W 0 (fun _ => true) held mb 34 [x11, x12] = some vb := hb
  have gb := fl_fld Try.underlying34 hb
  obtain ⟨n11, y11, hy11⟩ := gb 0 _ 1 rfl (by kernel_rfl)
  have hy11 : DataW.trod enc Try.prog W 0 (fun _ => true) held n11 3 [x11] = some y11 := hy11
  obtain ⟨z11, e11, _, w11⟩ := DataW.trod_int Try.underlying3 hy11
  obtain rfl : x11 = .int .i64 z11 := (List.cons.inj e11).1
  obtain ⟨n12, y12, hy12⟩ := gb 1 _ 1 rfl (by kernel_rfl)
  have hy12 : DataW.trod enc Try.prog W 0 (fun _ => true) held n12 3 [x12] = some y12 := hy12
  obtain ⟨z12, e12, _, w12⟩ := DataW.trod_int Try.underlying3 hy12
  obtain rfl : x12 = .int .i64 z12 := (List.cons.inj e12).1
  obtain ⟨mc, vc, hc⟩ := g 5 _ 2 rfl (by kernel_rfl)
  have hc : DataW.trod enc Try.prog W 0 (fun _ => true) held mc 36 [x13, x14] = some vc := hc
  have gc := fl_fld Try.underlying36 hc
  obtain ⟨n13, y13, hy13⟩ := gc 0 _ 1 rfl (by kernel_rfl)
  have hy13 : DataW.trod enc Try.prog W 0 (fun _ => true) held n13 9 [x13] = some y13 := hy13
  obtain ⟨z13, e13, _, w13⟩ := DataW.trod_string Try.underlying9 hy13
  obtain rfl : x13 = .string z13 := (List.cons.inj e13).1
  obtain ⟨n14, y14, hy14⟩ := gc 1 _ 1 rfl (by kernel_rfl)
  have hy14 : DataW.trod enc Try.prog W 0 (fun _ => true) held n14 9 [x14] = some y14 := hy14
  obtain ⟨z14, e14, _, w14⟩ := DataW.trod_string Try.underlying9 hy14
  obtain rfl : x14 = .string z14 := (List.cons.inj e14).1
  obtain ⟨md, vd, hd⟩ := g 6 _ 2 rfl (by kernel_rfl)
  have hd : DataW.trod enc Try.prog W 0 (fun _ => true) held md 36 [x15, x16] = some vd := hd
  have gd := fl_fld Try.underlying36 hd
  obtain ⟨n15, y15, hy15⟩ := gd 0 _ 1 rfl (by kernel_rfl)
  have hy15 : DataW.trod enc Try.prog W 0 (fun _ => true) held n15 9 [x15] = some y15 := hy15
  obtain ⟨z15, e15, _, w15⟩ := DataW.trod_string Try.underlying9 hy15
  obtain rfl : x15 = .string z15 := (List.cons.inj e15).1
  obtain ⟨n16, y16, hy16⟩ := gd 1 _ 1 rfl (by kernel_rfl)
  have hy16 : DataW.trod enc Try.prog W 0 (fun _ => true) held n16 9 [x16] = some y16 := hy16
  obtain ⟨z16, e16, _, w16⟩ := DataW.trod_string Try.underlying9 hy16
  obtain rfl : x16 = .string z16 := (List.cons.inj e16).1
  obtain ⟨n17, y17, hy17⟩ := g 7 _ 1 rfl (by kernel_rfl)
  have hy17 : DataW.trod enc Try.prog W 0 (fun _ => true) held n17 3 [x17] = some y17 := hy17
  obtain ⟨z17, e17, _, w17⟩ := DataW.trod_int Try.underlying3 hy17
  obtain rfl : x17 = .int .i64 z17 := (List.cons.inj e17).1
  obtain ⟨n18, y18, hy18⟩ := g 8 _ 1 rfl (by kernel_rfl)
  have hy18 : DataW.trod enc Try.prog W 0 (fun _ => true) held n18 3 [x18] = some y18 := hy18
  obtain ⟨z18, e18, _, w18⟩ := DataW.trod_int Try.underlying3 hy18
  obtain rfl : x18 = .int .i64 z18 := (List.cons.inj e18).1
  obtain ⟨n19, y19, hy19⟩ := g 9 _ 1 rfl (by kernel_rfl)
  have hy19 : DataW.trod enc Try.prog W 0 (fun _ => true) held n19 37 [x19] = some y19 := hy19
  obtain ⟨A, len, cap, e19⟩ : ∃ A len cap, x19 = .slice A len cap := by
    rcases open_slice Try.underlying37 hy19 with ⟨h, _⟩ | ⟨a, len, cap, _, _, _, _, h, _⟩
    · exact ⟨_, _, _, (List.cons.inj h).1⟩
    · exact ⟨_, _, _, (List.cons.inj h).1⟩
  subst e19
  exact ⟨⟨z0, z1, z2, z3, z4, z5, z6, z7, z8, z9, z10, z11, z12, z13, z14, z15, z16, z17, z18, A, len, cap⟩, rfl, ⟨open_rowsN (D := 5) (ks := hopKs) Try.underlying37 (by kernel_rfl) (by kernel_rfl) (by decide) hy19⟩⟩
def bz (s : ByteArray) : List Int := s.data.toList.map fun b => (b.toNat : Int)
theorem bz_cv (s : ByteArray) (e : Env) : Reck.cv e (strC (bz s)) = some (.string s) := by
  have h := strC_av (byteZ_lit s) e
  rw [strZ_lit] at h
  exact h
/-- A flow's cells, where its path lies in an array. -/
def FlI.cs (s : FlI) (a : Nat) : List Cell := flC s.z0 s.z1 s.z2 s.z3 s.z4 s.z5 s.z6 s.z7 s.z8 s.z9 s.z10 s.z11 s.z12 (bz s.s13) (bz s.s14) (bz s.s15) (bz s.s16) s.z17 s.z18 (rslC ⟨a, 3, 0, s.len, s.cap⟩)
theorem fl_av (s : FlI) (e : Env) (a : Nat) (h : Reck.cv e (rslC ⟨a, 3, 0, s.len, s.cap⟩) = some (.slice s.A s.len s.cap)) : Reck.av e (.inl (.inr (s.cs a))) = some s.val := by
  have h2 : ∀ k z, Reck.cv e (xintC k z) = some (.int k z) := fun _ _ => rfl
  simp only [Reck.av, Reck.v1, FlI.cs, flC, List.map_cons, List.map_nil, bz_cv, h2, h, FlI.val]
  rfl
end Go.Proofs.Ytbhdckphfgabiaa
end
