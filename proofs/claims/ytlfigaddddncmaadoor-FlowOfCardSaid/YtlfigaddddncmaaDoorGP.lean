/- Parts of a proof, one behind the other: FL FM FR. No condition. -/
import Derived.Test.YtlfigaddddncmaaDoorGO
import Derived.Deep.Fields
import Derived.OpenShut
section
namespace Go.Proofs.YtlfigaddddncmaaDoor
open Go Reck
set_option linter.unusedVariables false
set_option maxRecDepth 100000
end Go.Proofs.YtlfigaddddncmaaDoor
end

section
set_option linter.unusedVariables false
set_option linter.unusedSimpArgs false
namespace Go.Proofs.YtlfigaddddncmaaDoor
open Go Reck

def tSame2FF : Tbl := fun _ _ _ => none
theorem tSame2FF_ok : TblOk Tryd.prog tSame2FF := by intro f tm σ C h; cases h
def tRSame2FF : Tbl := fun _ _ _ => none
theorem tRSame2FF_ok : TblOk Tryd.prog tRSame2FF := by intro f tm σ C h; cases h
def tRSame2FT : Tbl := fun _ _ _ => none
theorem tRSame2FT_ok : TblOk Tryd.prog tRSame2FT := by intro f tm σ C h; cases h
def tFM : Tbl := tblOr (tblOr (tblOr (tFK) tSame2FF) tRSame2FF) tRSame2FT
theorem tFM_ok : TblOk Tryd.prog tFM := tblOr_ok (tblOr_ok (tblOr_ok (tFK_ok) tSame2FF_ok) tRSame2FF_ok) tRSame2FT_ok
end Go.Proofs.YtlfigaddddncmaaDoor
end

section
set_option linter.unusedVariables false
set_option linter.unusedSimpArgs false
set_option maxRecDepth 100000
namespace Go.Proofs.YtlfigaddddncmaaDoor
open Go Reck Go.ChangeShapes Go.WideShapes Go.Deep

structure Fr where
  (dst src type op sha spa tha tpa fr to proto ttl id sport dport seq ack flags win : Int)
  a : Option Addr
  (len cap : Nat)
  zs : List Int
def Fr.val (s : Fr) : Value := .agg #[.int .u64 s.dst, .int .u64 s.src, .int .i64 s.type, .int .i64 s.op, .int .u64 s.sha, .int .u32 s.spa, .int .u64 s.tha, .int .u32 s.tpa, .int .u32 s.fr, .int .u32 s.to, .int .i64 s.proto, .int .i64 s.ttl, .int .i64 s.id, .int .i64 s.sport, .int .i64 s.dport, .int .u32 s.seq, .int .u32 s.ack, .int .i64 s.flags, .int .i64 s.win, .slice s.a s.len s.cap]
def frZ : Fr := ⟨0, 0, 0, 0, 0, 0, 0, 0, 0, 0, 0, 0, 0, 0, 0, 0, 0, 0, 0, none, 0, 0, []⟩
structure Fr.ok (s : Fr) (W : World) : Prop where
  kin : U.Kin s.dst s.src s.type s.op s.sha s.spa s.tha s.tpa s.fr s.to s.proto s.ttl s.id s.sport s.dport s.seq s.ack s.flags s.win
  body : Came2 .u8 W s.a s.len s.cap s.zs
theorem list20 {α : Type} : ∀ l : List α, l.length = 20 → ∃ x0 x1 x2 x3 x4 x5 x6 x7 x8 x9 x10 x11 x12 x13 x14 x15 x16 x17 x18 x19, l = [x0, x1, x2, x3, x4, x5, x6, x7, x8, x9, x10, x11, x12, x13, x14, x15, x16, x17, x18, x19]
  | [x0, x1, x2, x3, x4, x5, x6, x7, x8, x9, x10, x11, x12, x13, x14, x15, x16, x17, x18, x19], _ => ⟨x0, x1, x2, x3, x4, x5, x6, x7, x8, x9, x10, x11, x12, x13, x14, x15, x16, x17, x18, x19, rfl⟩
theorem fld {H : Type} {enc : TypeId × Value → H} {P : Program} {w : World} {base : Nat} {spare : Nat → Bool} {held : Bool} {t : TypeId} {fs : Array Field} {fuel : Nat} {cs : List Value} {x : DataW H × List MemPlace} (ht : P.underlying t = some (.struct fs)) (hone : oneCellFields P fs = true) (hC : P.cellsOf t = fs.size)
    (h : DataW.trod enc P w base spare held fuel t cs = some x) : ∃ n, cs.length = fs.size ∧ ∀ (i : Nat) (f : Field), fs[i]? = some f → ∃ y, DataW.trod enc P w base spare held n f.type [cs.getD i undef] = some y := by
  obtain ⟨ys, n, _, _, hl, hyl, hfld⟩ := DataW.trod_struct ht h
  refine ⟨n, hl.trans hC, fun i f hi => ?_⟩
  have hlt : i < fs.size := (Array.getElem?_eq_some_iff.1 hi).1
  obtain ⟨ho, hc1⟩ := hone_of hone i f hi
  have e := hfld i f hi
  rw [ho, hc1, take1_drop _ i undef (by omega)] at e
  have hy : i < ys.length := by omega
  exact ⟨ys[i], by rw [← List.getElem?_eq_getElem hy, ← e]⟩
theorem open_frame {H : Type} {enc : TypeId × Value → H} {W : World} {b0 : Nat} {held : Bool} {v : Value} {d : DataW H} {p : List MemPlace} (hval : Value.okWide Tryd.prog W .any b0 26 v) (h : DataW.Trod enc Tryd.prog W 0 (fun _ => true) held 26 v d p) : ∃ s : Fr, v = s.val ∧ s.ok W := by
  obtain ⟨cs, rfl, hsz⟩ : ∃ cs, v = .agg cs ∧ cs.size = Tryd.prog.cellsOf 26 := by
    simp only [Value.okWide, Tryd.underlying26] at hval
    obtain ⟨cs, h1, h2, _⟩ := hval
    exact ⟨cs, h1, h2⟩
  have hC : Tryd.prog.cellsOf 26 = 20 := by kernel_rfl
  rw [hC] at hsz
  obtain ⟨fuel, hf⟩ := h
  have hf : DataW.trod enc Tryd.prog W 0 (fun _ => true) held fuel 26 cs.toList = some (d, p) := hf
  obtain ⟨x0, x1, x2, x3, x4, x5, x6, x7, x8, x9, x10, x11, x12, x13, x14, x15, x16, x17, x18, x19, hcs⟩ := list20 cs.toList (by simpa using hsz)
  rw [hcs] at hf
  obtain ⟨n, _, g⟩ := fld Tryd.underlying26 (by kernel_rfl) (by kernel_rfl) hf
  obtain rfl : cs = #[x0, x1, x2, x3, x4, x5, x6, x7, x8, x9, x10, x11, x12, x13, x14, x15, x16, x17, x18, x19] := by cases cs; simp_all
  clear hval hcs hf
  obtain ⟨y0, hy0⟩ := g 0 _ rfl
  obtain ⟨z0, e0, _, w0⟩ := DataW.trod_int Tryd.underlying22 hy0
  obtain rfl : x0 = .int .u64 z0 := (List.cons.inj e0).1
  obtain ⟨y1, hy1⟩ := g 1 _ rfl
  obtain ⟨z1, e1, _, w1⟩ := DataW.trod_int Tryd.underlying22 hy1
  obtain rfl : x1 = .int .u64 z1 := (List.cons.inj e1).1
  obtain ⟨y2, hy2⟩ := g 2 _ rfl
  obtain ⟨z2, e2, _, w2⟩ := DataW.trod_int Tryd.underlying3 hy2
  obtain rfl : x2 = .int .i64 z2 := (List.cons.inj e2).1
  obtain ⟨y3, hy3⟩ := g 3 _ rfl
  obtain ⟨z3, e3, _, w3⟩ := DataW.trod_int Tryd.underlying3 hy3
  obtain rfl : x3 = .int .i64 z3 := (List.cons.inj e3).1
  obtain ⟨y4, hy4⟩ := g 4 _ rfl
  obtain ⟨z4, e4, _, w4⟩ := DataW.trod_int Tryd.underlying22 hy4
  obtain rfl : x4 = .int .u64 z4 := (List.cons.inj e4).1
  obtain ⟨y5, hy5⟩ := g 5 _ rfl
  obtain ⟨z5, e5, _, w5⟩ := DataW.trod_int Tryd.underlying23 hy5
  obtain rfl : x5 = .int .u32 z5 := (List.cons.inj e5).1
  obtain ⟨y6, hy6⟩ := g 6 _ rfl
  obtain ⟨z6, e6, _, w6⟩ := DataW.trod_int Tryd.underlying22 hy6
  obtain rfl : x6 = .int .u64 z6 := (List.cons.inj e6).1
  obtain ⟨y7, hy7⟩ := g 7 _ rfl
  obtain ⟨z7, e7, _, w7⟩ := DataW.trod_int Tryd.underlying23 hy7
  obtain rfl : x7 = .int .u32 z7 := (List.cons.inj e7).1
  obtain ⟨y8, hy8⟩ := g 8 _ rfl
  obtain ⟨z8, e8, _, w8⟩ := DataW.trod_int Tryd.underlying23 hy8
  obtain rfl : x8 = .int .u32 z8 := (List.cons.inj e8).1
  obtain ⟨y9, hy9⟩ := g 9 _ rfl
  obtain ⟨z9, e9, _, w9⟩ := DataW.trod_int Tryd.underlying23 hy9
  obtain rfl : x9 = .int .u32 z9 := (List.cons.inj e9).1
  obtain ⟨y10, hy10⟩ := g 10 _ rfl
  obtain ⟨z10, e10, _, w10⟩ := DataW.trod_int Tryd.underlying3 hy10
  obtain rfl : x10 = .int .i64 z10 := (List.cons.inj e10).1
  obtain ⟨y11, hy11⟩ := g 11 _ rfl
  obtain ⟨z11, e11, _, w11⟩ := DataW.trod_int Tryd.underlying3 hy11
  obtain rfl : x11 = .int .i64 z11 := (List.cons.inj e11).1
  obtain ⟨y12, hy12⟩ := g 12 _ rfl
  obtain ⟨z12, e12, _, w12⟩ := DataW.trod_int Tryd.underlying3 hy12
  obtain rfl : x12 = .int .i64 z12 := (List.cons.inj e12).1
  obtain ⟨y13, hy13⟩ := g 13 _ rfl
  obtain ⟨z13, e13, _, w13⟩ := DataW.trod_int Tryd.underlying3 hy13
  obtain rfl : x13 = .int .i64 z13 := (List.cons.inj e13).1
  obtain ⟨y14, hy14⟩ := g 14 _ rfl
  obtain ⟨z14, e14, _, w14⟩ := DataW.trod_int Tryd.underlying3 hy14
  obtain rfl : x14 = .int .i64 z14 := (List.cons.inj e14).1
  obtain ⟨y15, hy15⟩ := g 15 _ rfl
  obtain ⟨z15, e15, _, w15⟩ := DataW.trod_int Tryd.underlying23 hy15
  obtain rfl : x15 = .int .u32 z15 := (List.cons.inj e15).1
  obtain ⟨y16, hy16⟩ := g 16 _ rfl
  obtain ⟨z16, e16, _, w16⟩ := DataW.trod_int Tryd.underlying23 hy16
  obtain rfl : x16 = .int .u32 z16 := (List.cons.inj e16).1
  obtain ⟨y17, hy17⟩ := g 17 _ rfl
  obtain ⟨z17, e17, _, w17⟩ := DataW.trod_int Tryd.underlying3 hy17
  obtain rfl : x17 = .int .i64 z17 := (List.cons.inj e17).1
  obtain ⟨y18, hy18⟩ := g 18 _ rfl
  obtain ⟨z18, e18, _, w18⟩ := DataW.trod_int Tryd.underlying3 hy18
  obtain rfl : x18 = .int .i64 z18 := (List.cons.inj e18).1
  obtain ⟨y19, hy19⟩ := g 19 _ rfl
  have hC8 : Tryd.prog.cellsOf 5 = 1 := by kernel_rfl
  have fin : ∀ (a : Option Addr) (len cap : Nat) (zs : List Int), Came2 .u8 W a len cap zs → ∃ s : Fr, (Value.agg #[.int .u64 z0, .int .u64 z1, .int .i64 z2, .int .i64 z3, .int .u64 z4, .int .u32 z5, .int .u64 z6, .int .u32 z7, .int .u32 z8, .int .u32 z9, .int .i64 z10, .int .i64 z11, .int .i64 z12, .int .i64 z13, .int .i64 z14, .int .u32 z15, .int .u32 z16, .int .i64 z17, .int .i64 z18, .slice a len cap]) = s.val ∧ s.ok W := fun a len cap zs hc =>
    ⟨⟨z0, z1, z2, z3, z4, z5, z6, z7, z8, z9, z10, z11, z12, z13, z14, z15, z16, z17, z18, a, len, cap, zs⟩, rfl, ⟨⟨⟨bounds_u64 w0, bounds_u64 w1, bounds_u64 w4, bounds_u64 w6⟩, ⟨bounds_u32 w5, bounds_u32 w7, bounds_u32 w8, bounds_u32 w9, bounds_u32 w15, bounds_u32 w16⟩, ⟨bounds_i64 w2, bounds_i64 w3, bounds_i64 w10, bounds_i64 w11, bounds_i64 w12, bounds_i64 w13, bounds_i64 w14, bounds_i64 w17, bounds_i64 w18⟩⟩, hc⟩⟩
  rcases open_ints Tryd.underlying24 Tryd.underlying5 hC8 hy19 with ⟨e, _⟩ | ⟨x, l, c, zs, e, _, hl, hm, hz, _, hcell, hwz⟩
  · obtain rfl : x19 = .slice none 0 0 := (List.cons.inj e).1
    exact fin _ _ _ _ Came2.none_
  · obtain rfl : x19 = .slice (some x) l c := (List.cons.inj e).1
    exact fin _ _ _ _ (Came2.some_ hl hm (by simpa using hz) hcell hwz)
end Go.Proofs.YtlfigaddddncmaaDoor
end
