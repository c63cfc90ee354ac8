/- Parts of a proof, one behind the other: TO TP1. No condition. -/
import Derived.Test.YtpcnbhgifhiejaaGU
import Derived.Deep.Fields
import Derived.OpenShut
import Derived.Test.YtpcnbhgifhiejaaGZ
section
set_option linter.unusedVariables false
set_option linter.unusedSimpArgs false
set_option maxRecDepth 100000
namespace Go.Proofs.Ytpcnbhgifhiejaa
open Go Reck Go.ChangeShapes Go.WideShapes Go.Deep

structure Mg where
  (kind xid mac ip ticks nonce tag why : Int)
  u : ByteArray
def Mg.val (s : Mg) : Value := .agg #[.int .i64 s.kind, .int .u32 s.xid, .int .u64 s.mac, .int .u32 s.ip, .int .i64 s.ticks, .string s.u, .int .u64 s.nonce, .int .u64 s.tag, .int .i64 s.why]
def mgZ : Mg := ⟨0, 0, 0, 0, 0, 0, 0, 0, ByteArray.empty⟩
structure Mg.ok (s : Mg) (W : World) : Prop where
  kin : U.TKin s.xid s.mac s.ip s.ticks s.nonce s.tag s.why
def Mg.l (s : Mg) : List Int := s.u.data.toList.map fun b => (b.toNat : Int)
theorem list9 {α : Type} : ∀ l : List α, l.length = 9 → ∃ x0 x1 x2 x3 x4 x5 x6 x7 x8, l = [x0, x1, x2, x3, x4, x5, x6, x7, x8]
  | [x0, x1, x2, x3, x4, x5, x6, x7, x8], _ => ⟨x0, x1, x2, x3, x4, x5, x6, x7, x8, rfl⟩
theorem fld9 {H : Type} {enc : TypeId × Value → H} {P : Program} {w : World} {base : Nat} {spare : Nat → Bool} {held : Bool} {t : TypeId} {fs : Array Field} {fuel : Nat} {cs : List Value} {x : DataW H × List MemPlace} (ht : P.underlying t = some (.struct fs)) (hone : oneCellFields P fs = true) (hC : P.cellsOf t = fs.size)
    (h : DataW.trod enc P w base spare held fuel t cs = some x) : ∃ n, cs.length = fs.size ∧ ∀ (i : Nat) (f : Field), fs[i]? = some f → ∃ y, DataW.trod enc P w base spare held n f.type [cs.getD i undef] = some y := by
  obtain ⟨ys, n, _, _, hl, hyl, hfld⟩ := DataW.trod_struct ht h
  refine ⟨n, hl.trans hC, fun i f hi => ?_⟩
  have hlt : i < fs.size := (Array.getElem?_eq_some_iff.1 hi).1
  obtain ⟨ho, hc1⟩ := hone_of hone i f hi
  have e := hfld i f hi
  rw [ho, hc1, take1_drop _ i undef (by omega)] at e
  have hy : i < ys.length := by omega
  exact ⟨ys[i], by rw [← List.getElem?_eq_getElem hy, ← e]⟩
theorem open_msg {H : Type} {enc : TypeId × Value → H} {W : World} {b0 : Nat} {held : Bool} {v : Value} {d : DataW H} {p : List MemPlace} (hval : Value.okWide Try.prog W .any b0 25 v) (h : DataW.Trod enc Try.prog W 0 (fun _ => true) held 25 v d p) : ∃ s : Mg, v = s.val ∧ s.ok W := by
  obtain ⟨cs, rfl, hsz⟩ : ∃ cs, v = .agg cs ∧ cs.size = Try.prog.cellsOf 25 := by
    simp only [Value.okWide, Try.underlying25] at hval
    obtain ⟨cs, h1, h2, _⟩ := hval
    exact ⟨cs, h1, h2⟩
  have hC : Try.prog.cellsOf 25 = 9 := by kernel_rfl
  rw [hC] at hsz
  obtain ⟨fuel, hf⟩ := h
  have hf : DataW.trod enc Try.prog W 0 (fun _ => true) held fuel 25 cs.toList = some (d, p) := hf
  obtain ⟨x0, x1, x2, x3, x4, x5, x6, x7, x8, hcs⟩ := list9 cs.toList (by simpa using hsz)
  rw [hcs] at hf
  obtain ⟨n, _, g⟩ := fld9 Try.underlying25 (by kernel_rfl) (by kernel_rfl) hf
  obtain rfl : cs = #[x0, x1, x2, x3, x4, x5, x6, x7, x8] := by cases cs; simp_all
  clear hval hcs hf
  obtain ⟨y0, hy0⟩ := g 0 _ rfl
  obtain ⟨z0, e0, _, w0⟩ := DataW.trod_int Try.underlying3 hy0
  obtain rfl : x0 = .int .i64 z0 := (List.cons.inj e0).1
  obtain ⟨y1, hy1⟩ := g 1 _ rfl
  obtain ⟨z1, e1, _, w1⟩ := DataW.trod_int Try.underlying22 hy1
  obtain rfl : x1 = .int .u32 z1 := (List.cons.inj e1).1
  obtain ⟨y2, hy2⟩ := g 2 _ rfl
  obtain ⟨z2, e2, _, w2⟩ := DataW.trod_int Try.underlying23 hy2
  obtain rfl : x2 = .int .u64 z2 := (List.cons.inj e2).1
  obtain ⟨y3, hy3⟩ := g 3 _ rfl
  obtain ⟨z3, e3, _, w3⟩ := DataW.trod_int Try.underlying22 hy3
  obtain rfl : x3 = .int .u32 z3 := (List.cons.inj e3).1
  obtain ⟨y4, hy4⟩ := g 4 _ rfl
  obtain ⟨z4, e4, _, w4⟩ := DataW.trod_int Try.underlying2 hy4
  obtain rfl : x4 = .int .i64 z4 := (List.cons.inj e4).1
  obtain ⟨y5, hy5⟩ := g 5 _ rfl
  obtain ⟨z5, e5, _, w5⟩ := DataW.trod_string Try.underlying9 hy5
  obtain rfl : x5 = .string z5 := (List.cons.inj e5).1
  obtain ⟨y6, hy6⟩ := g 6 _ rfl
  obtain ⟨z6, e6, _, w6⟩ := DataW.trod_int Try.underlying23 hy6
  obtain rfl : x6 = .int .u64 z6 := (List.cons.inj e6).1
  obtain ⟨y7, hy7⟩ := g 7 _ rfl
  obtain ⟨z7, e7, _, w7⟩ := DataW.trod_int Try.underlying23 hy7
  obtain rfl : x7 = .int .u64 z7 := (List.cons.inj e7).1
  obtain ⟨y8, hy8⟩ := g 8 _ rfl
  obtain ⟨z8, e8, _, w8⟩ := DataW.trod_int Try.underlying3 hy8
  obtain rfl : x8 = .int .i64 z8 := (List.cons.inj e8).1
  exact ⟨⟨z0, z1, z2, z3, z4, z6, z7, z8, z5⟩, rfl, ⟨⟨bounds_u32 w1, bounds_u64 w2, bounds_u32 w3, bounds_i64 w4, bounds_u64 w6, bounds_u64 w7, bounds_i64 w8⟩⟩⟩
theorem msg_av7 (e : Env) (s : Mg) : Reck.av e (msgA s.kind s.xid s.mac s.ip s.ticks (strC s.l) s.nonce s.tag s.why) = some s.val := by
  have h := strC_av (byteZ_lit s.u) e
  rw [strZ_lit] at h
  have h1 : Reck.cv e (strC s.l) = some (.string s.u) := h
  have h2 : ∀ k z, Reck.cv e (xintC k z) = some (.int k z) := fun _ _ => rfl
  simp only [msgA, av, v1, List.map_cons, List.map_nil, h1, h2, Mg.val]
  rfl
theorem ok_none' (w : World) : Ok w (arE []) emptySt w := ok_arrs w (l := []) (bs := []) rfl (by simp) (by intro i x q h; simp at h)
end Go.Proofs.Ytpcnbhgifhiejaa
end

section
set_option linter.unusedVariables false
set_option linter.unusedSimpArgs false
set_option maxRecDepth 100000
namespace Go.Proofs.Ytpcnbhgifhiejaa
open Go Reck Ost
theorem tw_by {kind xid mac ip ticks nonce tag why : Int} {l L : List Int} (h : U.TWr kind xid mac ip ticks nonce tag why l L) : U.By L := by obtain ⟨N, hN⟩ := h; exact out_by' hN
theorem tw_eq {kind xid mac ip ticks nonce tag why : Int} {l L L' x y : List Int} {n n' : Nat} (e : x = List.take n (List.drop 0 L)) (e' : y = List.take n' (List.drop 0 L')) (hn : n = L.length) (hn' : n' = L'.length) (h : U.TWr kind xid mac ip ticks nonce tag why l L) (h' : U.TWr kind xid mac ip ticks nonce tag why l L') : x = y := by
  rw [e, e', hn, hn', List.drop_zero, List.drop_zero, List.take_length, List.take_length, twr_det h h']
theorem cut20 {l l' : List Int} {a b : Nat} (hl : 20 < l.length) (ha : (a : Int) = 0) (hb : (b : Int) = 20 - 0) (h : l' = List.take b (List.drop a l)) : l' = l.take 20 := by
  obtain rfl : a = 0 := by omega
  obtain rfl : b = 20 := by omega
  exact h
theorem byL' {L : List Int} (h : U.By L) (n : Nat) : ByteL (List.take n (List.drop 0 L)) := ⟨all_bytes (by_mem (by_take h _))⟩
set_option maxHeartbeats 8000000 in
theorem talkWritesTTF_run (kind xid mac ip ticks nonce tag why : Int) (l l0 : List Int) (hl0 : l0 = if 20 < l.length then l.take 20 else l) (hK : U.TKin xid mac ip ticks nonce tag why) (hM : U.TMay kind xid mac ip ticks nonce tag why l0) (hN : U.Nm l0) (hL : ¬ U.Le kind) :
    goT Try.prog [] (orcOf inv0 (tTC3 true true false)) (opMem Try.prog) 3000 (.inr (.inr (.inr (.inr 3)))) [msgA kind xid mac ip ticks (strC l) nonce tag why] emptySt isTrue := by
  rw [talkWritesTTF_vc]
  intro z0 h0
  refine ⟨fun hlt => ⟨⟨by decide, by decide, by omega⟩, fun a b ha hb l' hl' => ?_⟩, fun hge => ?_⟩
  · rw [if_pos (by omega)] at hl0
    obtain rfl : l0 = l' := hl0.trans (cut20 (by omega) ha hb hl').symm
    clear hl' hl0 ha hb hlt h0
    all_goals
      repeat' (first | exact rfl | exact trivial | assumption | exact ⟨hK, hM⟩ | intro h | with_reducible apply And.intro | exact absurd rfl (by assumption) | refine Exists.intro kind (Exists.intro xid (Exists.intro mac (Exists.intro ip (Exists.intro ticks (Exists.intro nonce (Exists.intro tag (Exists.intro why (Exists.intro l0 ?_)))))))) | fail)
    all_goals first
      | omega
      | exact tw_by (by assumption)
      | exact byL' (tw_by (by assumption)) _
      | (show 0 + _ ≤ List.length _; omega)
      | exact absurd rfl (by assumption)
      | exact absurd hL.out (by omega)
      | exact absurd (U.Le.mk ⟨by omega, by omega⟩) hL
      | exact absurd hM.fk (by omega)
      | (rename_i h; exact (h (And.intro rfl (And.intro rfl (And.intro rfl (And.intro rfl (And.intro rfl (And.intro rfl (And.intro rfl (And.intro rfl (And.intro rfl trivial)))))))))).elim)
      | (rename_i h; exact absurd (tw_eq (by assumption) (by assumption) (by assumption) (by assumption) (by assumption) (by assumption)) h)
      | (rename_i h _; exact absurd (tw_eq (by assumption) (by assumption) (by assumption) (by assumption) (by assumption) (by assumption)) h)
  · rw [if_neg (by omega)] at hl0
    subst hl0
    clear hge h0
    all_goals
      repeat' (first | exact rfl | exact trivial | assumption | exact ⟨hK, hM⟩ | intro h | with_reducible apply And.intro | exact absurd rfl (by assumption) | refine Exists.intro kind (Exists.intro xid (Exists.intro mac (Exists.intro ip (Exists.intro ticks (Exists.intro nonce (Exists.intro tag (Exists.intro why (Exists.intro l0 ?_)))))))) | fail)
    all_goals first
      | omega
      | exact tw_by (by assumption)
      | exact byL' (tw_by (by assumption)) _
      | (show 0 + _ ≤ List.length _; omega)
      | exact absurd rfl (by assumption)
      | exact absurd hL.out (by omega)
      | exact absurd (U.Le.mk ⟨by omega, by omega⟩) hL
      | exact absurd hM.fk (by omega)
      | (rename_i h; exact (h (And.intro rfl (And.intro rfl (And.intro rfl (And.intro rfl (And.intro rfl (And.intro rfl (And.intro rfl (And.intro rfl (And.intro rfl trivial)))))))))).elim)
      | (rename_i h; exact absurd (tw_eq (by assumption) (by assumption) (by assumption) (by assumption) (by assumption) (by assumption)) h)
      | (rename_i h _; exact absurd (tw_eq (by assumption) (by assumption) (by assumption) (by assumption) (by assumption) (by assumption)) h)
set_option maxHeartbeats 8000000 in
theorem talkWritesTFT_run (kind xid mac ip ticks nonce tag why : Int) (l l0 : List Int) (hl0 : l0 = if 20 < l.length then l.take 20 else l) (hK : U.TKin xid mac ip ticks nonce tag why) (hM : U.TMay kind xid mac ip ticks nonce tag why l0) (hN : ¬ U.Nm l0) (hL : U.Le kind) :
    goT Try.prog [] (orcOf inv0 (tTC3 true false true)) (opMem Try.prog) 3000 (.inr (.inr (.inr (.inr 3)))) [msgA kind xid mac ip ticks (strC l) nonce tag why] emptySt isTrue := by
  rw [talkWritesTFT_vc]
  intro z0 h0
  refine ⟨fun hlt => ⟨⟨by decide, by decide, by omega⟩, fun a b ha hb l' hl' => ?_⟩, fun hge => ?_⟩
  · rw [if_pos (by omega)] at hl0
    obtain rfl : l0 = l' := hl0.trans (cut20 (by omega) ha hb hl').symm
    clear hl' hl0 ha hb hlt h0
    all_goals
      repeat' (first | exact rfl | exact trivial | assumption | exact ⟨hK, hM⟩ | intro h | with_reducible apply And.intro | exact absurd rfl (by assumption) | refine Exists.intro kind (Exists.intro xid (Exists.intro mac (Exists.intro ip (Exists.intro ticks (Exists.intro nonce (Exists.intro tag (Exists.intro why (Exists.intro l0 ?_)))))))) | fail)
    all_goals first
      | omega
      | exact tw_by (by assumption)
      | exact byL' (tw_by (by assumption)) _
      | (show 0 + _ ≤ List.length _; omega)
      | exact absurd rfl (by assumption)
      | exact absurd hL.out (by omega)
      | exact absurd (U.Le.mk ⟨by omega, by omega⟩) hL
      | exact absurd hM.fk (by omega)
      | (rename_i h; exact (h (And.intro rfl (And.intro rfl (And.intro rfl (And.intro rfl (And.intro rfl (And.intro rfl (And.intro rfl (And.intro rfl (And.intro rfl trivial)))))))))).elim)
      | (rename_i h; exact absurd (tw_eq (by assumption) (by assumption) (by assumption) (by assumption) (by assumption) (by assumption)) h)
      | (rename_i h _; exact absurd (tw_eq (by assumption) (by assumption) (by assumption) (by assumption) (by assumption) (by assumption)) h)
  · rw [if_neg (by omega)] at hl0
    subst hl0
    clear hge h0
    all_goals
      repeat' (first | exact rfl | exact trivial | assumption | exact ⟨hK, hM⟩ | intro h | with_reducible apply And.intro | exact absurd rfl (by assumption) | refine Exists.intro kind (Exists.intro xid (Exists.intro mac (Exists.intro ip (Exists.intro ticks (Exists.intro nonce (Exists.intro tag (Exists.intro why (Exists.intro l0 ?_)))))))) | fail)
    all_goals first
      | omega
      | exact tw_by (by assumption)
      | exact byL' (tw_by (by assumption)) _
      | (show 0 + _ ≤ List.length _; omega)
      | exact absurd rfl (by assumption)
      | exact absurd hL.out (by omega)
      | exact absurd (U.Le.mk ⟨by omega, by omega⟩) hL
      | exact absurd hM.fk (by omega)
      | (rename_i h; exact (h (And.intro rfl (And.intro rfl (And.intro rfl (And.intro rfl (And.intro rfl (And.intro rfl (And.intro rfl (And.intro rfl (And.intro rfl trivial)))))))))).elim)
      | (rename_i h; exact absurd (tw_eq (by assumption) (by assumption) (by assumption) (by assumption) (by assumption) (by assumption)) h)
      | (rename_i h _; exact absurd (tw_eq (by assumption) (by assumption) (by assumption) (by assumption) (by assumption) (by assumption)) h)
set_option maxHeartbeats 8000000 in
theorem talkWritesFTT_run (kind xid mac ip ticks nonce tag why : Int) (l l0 : List Int) (hl0 : l0 = if 20 < l.length then l.take 20 else l) (hK : U.TKin xid mac ip ticks nonce tag why) (hM : ¬ U.TMay kind xid mac ip ticks nonce tag why l0) (hN : U.Nm l0) (hL : U.Le kind) :
    goT Try.prog [] (orcOf inv0 (tTC3 false true true)) (opMem Try.prog) 3000 (.inr (.inr (.inr (.inr 3)))) [msgA kind xid mac ip ticks (strC l) nonce tag why] emptySt isTrue := by
  rw [talkWritesFTT_vc]
  intro z0 h0
  refine ⟨fun hlt => ⟨⟨by decide, by decide, by omega⟩, fun a b ha hb l' hl' => ?_⟩, fun hge => ?_⟩
  · rw [if_pos (by omega)] at hl0
    obtain rfl : l0 = l' := hl0.trans (cut20 (by omega) ha hb hl').symm
    clear hl' hl0 ha hb hlt h0
    all_goals
      repeat' (first | exact rfl | exact trivial | assumption | exact ⟨hK, hM⟩ | intro h | with_reducible apply And.intro | exact absurd rfl (by assumption) | refine Exists.intro kind (Exists.intro xid (Exists.intro mac (Exists.intro ip (Exists.intro ticks (Exists.intro nonce (Exists.intro tag (Exists.intro why (Exists.intro l0 ?_)))))))) | fail)
    all_goals first
      | omega
      | exact tw_by (by assumption)
      | exact byL' (tw_by (by assumption)) _
      | (show 0 + _ ≤ List.length _; omega)
      | exact absurd rfl (by assumption)
      | exact absurd hL.out (by omega)
      | exact absurd (U.Le.mk ⟨by omega, by omega⟩) hL
      | exact absurd hM.fk (by omega)
      | (rename_i h; exact (h (And.intro rfl (And.intro rfl (And.intro rfl (And.intro rfl (And.intro rfl (And.intro rfl (And.intro rfl (And.intro rfl (And.intro rfl trivial)))))))))).elim)
      | (rename_i h; exact absurd (tw_eq (by assumption) (by assumption) (by assumption) (by assumption) (by assumption) (by assumption)) h)
      | (rename_i h _; exact absurd (tw_eq (by assumption) (by assumption) (by assumption) (by assumption) (by assumption) (by assumption)) h)
  · rw [if_neg (by omega)] at hl0
    subst hl0
    clear hge h0
    all_goals
      repeat' (first | exact rfl | exact trivial | assumption | exact ⟨hK, hM⟩ | intro h | with_reducible apply And.intro | exact absurd rfl (by assumption) | refine Exists.intro kind (Exists.intro xid (Exists.intro mac (Exists.intro ip (Exists.intro ticks (Exists.intro nonce (Exists.intro tag (Exists.intro why (Exists.intro l0 ?_)))))))) | fail)
    all_goals first
      | omega
      | exact tw_by (by assumption)
      | exact byL' (tw_by (by assumption)) _
      | (show 0 + _ ≤ List.length _; omega)
      | exact absurd rfl (by assumption)
      | exact absurd hL.out (by omega)
      | exact absurd (U.Le.mk ⟨by omega, by omega⟩) hL
      | exact absurd hM.fk (by omega)
      | (rename_i h; exact (h (And.intro rfl (And.intro rfl (And.intro rfl (And.intro rfl (And.intro rfl (And.intro rfl (And.intro rfl (And.intro rfl (And.intro rfl trivial)))))))))).elim)
      | (rename_i h; exact absurd (tw_eq (by assumption) (by assumption) (by assumption) (by assumption) (by assumption) (by assumption)) h)
      | (rename_i h _; exact absurd (tw_eq (by assumption) (by assumption) (by assumption) (by assumption) (by assumption) (by assumption)) h)
set_option maxHeartbeats 8000000 in
theorem talkWritesFTF_run (kind xid mac ip ticks nonce tag why : Int) (l l0 : List Int) (hl0 : l0 = if 20 < l.length then l.take 20 else l) (hK : U.TKin xid mac ip ticks nonce tag why) (hM : ¬ U.TMay kind xid mac ip ticks nonce tag why l0) (hN : U.Nm l0) (hL : ¬ U.Le kind) :
    goT Try.prog [] (orcOf inv0 (tTC3 false true false)) (opMem Try.prog) 3000 (.inr (.inr (.inr (.inr 3)))) [msgA kind xid mac ip ticks (strC l) nonce tag why] emptySt isTrue := by
  rw [talkWritesFTF_vc]
  intro z0 h0
  refine ⟨fun hlt => ⟨⟨by decide, by decide, by omega⟩, fun a b ha hb l' hl' => ?_⟩, fun hge => ?_⟩
  · rw [if_pos (by omega)] at hl0
    obtain rfl : l0 = l' := hl0.trans (cut20 (by omega) ha hb hl').symm
    clear hl' hl0 ha hb hlt h0
    all_goals
      repeat' (first | exact rfl | exact trivial | assumption | exact ⟨hK, hM⟩ | intro h | with_reducible apply And.intro | exact absurd rfl (by assumption) | refine Exists.intro kind (Exists.intro xid (Exists.intro mac (Exists.intro ip (Exists.intro ticks (Exists.intro nonce (Exists.intro tag (Exists.intro why (Exists.intro l0 ?_)))))))) | fail)
    all_goals first
      | omega
      | exact tw_by (by assumption)
      | exact byL' (tw_by (by assumption)) _
      | (show 0 + _ ≤ List.length _; omega)
      | exact absurd rfl (by assumption)
      | exact absurd hL.out (by omega)
      | exact absurd (U.Le.mk ⟨by omega, by omega⟩) hL
      | exact absurd hM.fk (by omega)
      | (rename_i h; exact (h (And.intro rfl (And.intro rfl (And.intro rfl (And.intro rfl (And.intro rfl (And.intro rfl (And.intro rfl (And.intro rfl (And.intro rfl trivial)))))))))).elim)
      | (rename_i h; exact absurd (tw_eq (by assumption) (by assumption) (by assumption) (by assumption) (by assumption) (by assumption)) h)
      | (rename_i h _; exact absurd (tw_eq (by assumption) (by assumption) (by assumption) (by assumption) (by assumption) (by assumption)) h)
  · rw [if_neg (by omega)] at hl0
    subst hl0
    clear hge h0
    all_goals
      repeat' (first | exact rfl | exact trivial | assumption | exact ⟨hK, hM⟩ | intro h | with_reducible apply And.intro | exact absurd rfl (by assumption) | refine Exists.intro kind (Exists.intro xid (Exists.intro mac (Exists.intro ip (Exists.intro ticks (Exists.intro nonce (Exists.intro tag (Exists.intro why (Exists.intro l0 ?_)))))))) | fail)
    all_goals first
      | omega
      | exact tw_by (by assumption)
      | exact byL' (tw_by (by assumption)) _
      | (show 0 + _ ≤ List.length _; omega)
      | exact absurd rfl (by assumption)
      | exact absurd hL.out (by omega)
      | exact absurd (U.Le.mk ⟨by omega, by omega⟩) hL
      | exact absurd hM.fk (by omega)
      | (rename_i h; exact (h (And.intro rfl (And.intro rfl (And.intro rfl (And.intro rfl (And.intro rfl (And.intro rfl (And.intro rfl (And.intro rfl (And.intro rfl trivial)))))))))).elim)
      | (rename_i h; exact absurd (tw_eq (by assumption) (by assumption) (by assumption) (by assumption) (by assumption) (by assumption)) h)
      | (rename_i h _; exact absurd (tw_eq (by assumption) (by assumption) (by assumption) (by assumption) (by assumption) (by assumption)) h)
set_option maxHeartbeats 8000000 in
theorem talkWritesFFT_run (kind xid mac ip ticks nonce tag why : Int) (l l0 : List Int) (hl0 : l0 = if 20 < l.length then l.take 20 else l) (hK : U.TKin xid mac ip ticks nonce tag why) (hM : ¬ U.TMay kind xid mac ip ticks nonce tag why l0) (hN : ¬ U.Nm l0) (hL : U.Le kind) :
    goT Try.prog [] (orcOf inv0 (tTC3 false false true)) (opMem Try.prog) 3000 (.inr (.inr (.inr (.inr 3)))) [msgA kind xid mac ip ticks (strC l) nonce tag why] emptySt isTrue := by
  rw [talkWritesFFT_vc]
  intro z0 h0
  refine ⟨fun hlt => ⟨⟨by decide, by decide, by omega⟩, fun a b ha hb l' hl' => ?_⟩, fun hge => ?_⟩
  · rw [if_pos (by omega)] at hl0
    obtain rfl : l0 = l' := hl0.trans (cut20 (by omega) ha hb hl').symm
    clear hl' hl0 ha hb hlt h0
    all_goals
      repeat' (first | exact rfl | exact trivial | assumption | exact ⟨hK, hM⟩ | intro h | with_reducible apply And.intro | exact absurd rfl (by assumption) | refine Exists.intro kind (Exists.intro xid (Exists.intro mac (Exists.intro ip (Exists.intro ticks (Exists.intro nonce (Exists.intro tag (Exists.intro why (Exists.intro l0 ?_)))))))) | fail)
    all_goals first
      | omega
      | exact tw_by (by assumption)
      | exact byL' (tw_by (by assumption)) _
      | (show 0 + _ ≤ List.length _; omega)
      | exact absurd rfl (by assumption)
      | exact absurd hL.out (by omega)
      | exact absurd (U.Le.mk ⟨by omega, by omega⟩) hL
      | exact absurd hM.fk (by omega)
      | (rename_i h; exact (h (And.intro rfl (And.intro rfl (And.intro rfl (And.intro rfl (And.intro rfl (And.intro rfl (And.intro rfl (And.intro rfl (And.intro rfl trivial)))))))))).elim)
      | (rename_i h; exact absurd (tw_eq (by assumption) (by assumption) (by assumption) (by assumption) (by assumption) (by assumption)) h)
      | (rename_i h _; exact absurd (tw_eq (by assumption) (by assumption) (by assumption) (by assumption) (by assumption) (by assumption)) h)
  · rw [if_neg (by omega)] at hl0
    subst hl0
    clear hge h0
    all_goals
      repeat' (first | exact rfl | exact trivial | assumption | exact ⟨hK, hM⟩ | intro h | with_reducible apply And.intro | exact absurd rfl (by assumption) | refine Exists.intro kind (Exists.intro xid (Exists.intro mac (Exists.intro ip (Exists.intro ticks (Exists.intro nonce (Exists.intro tag (Exists.intro why (Exists.intro l0 ?_)))))))) | fail)
    all_goals first
      | omega
      | exact tw_by (by assumption)
      | exact byL' (tw_by (by assumption)) _
      | (show 0 + _ ≤ List.length _; omega)
      | exact absurd rfl (by assumption)
      | exact absurd hL.out (by omega)
      | exact absurd (U.Le.mk ⟨by omega, by omega⟩) hL
      | exact absurd hM.fk (by omega)
      | (rename_i h; exact (h (And.intro rfl (And.intro rfl (And.intro rfl (And.intro rfl (And.intro rfl (And.intro rfl (And.intro rfl (And.intro rfl (And.intro rfl trivial)))))))))).elim)
      | (rename_i h; exact absurd (tw_eq (by assumption) (by assumption) (by assumption) (by assumption) (by assumption) (by assumption)) h)
      | (rename_i h _; exact absurd (tw_eq (by assumption) (by assumption) (by assumption) (by assumption) (by assumption) (by assumption)) h)
set_option maxHeartbeats 8000000 in
theorem talkWritesFFF_run (kind xid mac ip ticks nonce tag why : Int) (l l0 : List Int) (hl0 : l0 = if 20 < l.length then l.take 20 else l) (hK : U.TKin xid mac ip ticks nonce tag why) (hM : ¬ U.TMay kind xid mac ip ticks nonce tag why l0) (hN : ¬ U.Nm l0) (hL : ¬ U.Le kind) :
    goT Try.prog [] (orcOf inv0 (tTC3 false false false)) (opMem Try.prog) 3000 (.inr (.inr (.inr (.inr 3)))) [msgA kind xid mac ip ticks (strC l) nonce tag why] emptySt isTrue := by
  rw [talkWritesFFF_vc]
  intro z0 h0
  refine ⟨fun hlt => ⟨⟨by decide, by decide, by omega⟩, fun a b ha hb l' hl' => ?_⟩, fun hge => ?_⟩
  · rw [if_pos (by omega)] at hl0
    obtain rfl : l0 = l' := hl0.trans (cut20 (by omega) ha hb hl').symm
    clear hl' hl0 ha hb hlt h0
    all_goals
      repeat' (first | exact rfl | exact trivial | assumption | exact ⟨hK, hM⟩ | intro h | with_reducible apply And.intro | exact absurd rfl (by assumption) | refine Exists.intro kind (Exists.intro xid (Exists.intro mac (Exists.intro ip (Exists.intro ticks (Exists.intro nonce (Exists.intro tag (Exists.intro why (Exists.intro l0 ?_)))))))) | fail)
    all_goals first
      | omega
      | exact tw_by (by assumption)
      | exact byL' (tw_by (by assumption)) _
      | (show 0 + _ ≤ List.length _; omega)
      | exact absurd rfl (by assumption)
      | exact absurd hL.out (by omega)
      | exact absurd (U.Le.mk ⟨by omega, by omega⟩) hL
      | exact absurd hM.fk (by omega)
      | (rename_i h; exact (h (And.intro rfl (And.intro rfl (And.intro rfl (And.intro rfl (And.intro rfl (And.intro rfl (And.intro rfl (And.intro rfl (And.intro rfl trivial)))))))))).elim)
      | (rename_i h; exact absurd (tw_eq (by assumption) (by assumption) (by assumption) (by assumption) (by assumption) (by assumption)) h)
      | (rename_i h _; exact absurd (tw_eq (by assumption) (by assumption) (by assumption) (by assumption) (by assumption) (by assumption)) h)
  · rw [if_neg (by omega)] at hl0
    subst hl0
    clear hge h0
    all_goals
      repeat' (first | exact rfl | exact trivial | assumption | exact ⟨hK, hM⟩ | intro h | with_reducible apply And.intro | exact absurd rfl (by assumption) | refine Exists.intro kind (Exists.intro xid (Exists.intro mac (Exists.intro ip (Exists.intro ticks (Exists.intro nonce (Exists.intro tag (Exists.intro why (Exists.intro l0 ?_)))))))) | fail)
    all_goals first
      | omega
      | exact tw_by (by assumption)
      | exact byL' (tw_by (by assumption)) _
      | (show 0 + _ ≤ List.length _; omega)
      | exact absurd rfl (by assumption)
      | exact absurd hL.out (by omega)
      | exact absurd (U.Le.mk ⟨by omega, by omega⟩) hL
      | exact absurd hM.fk (by omega)
      | (rename_i h; exact (h (And.intro rfl (And.intro rfl (And.intro rfl (And.intro rfl (And.intro rfl (And.intro rfl (And.intro rfl (And.intro rfl (And.intro rfl trivial)))))))))).elim)
      | (rename_i h; exact absurd (tw_eq (by assumption) (by assumption) (by assumption) (by assumption) (by assumption) (by assumption)) h)
      | (rename_i h _; exact absurd (tw_eq (by assumption) (by assumption) (by assumption) (by assumption) (by assumption) (by assumption)) h)
theorem us_kind {kind xid mac ip ticks nonce tag why : Int} {l : List Int} (hM : U.TMay kind xid mac ip ticks nonce tag why l) : (U.Nm l ∧ ¬ U.Le kind) ∨ (¬ U.Nm l ∧ U.Le kind) := by
  have hk := hM.fk
  by_cases us : U.Us kind
  · exact .inl ⟨hM.fu us, fun h => by have := us.out; have := h.out; omega⟩
  · refine .inr ⟨fun h => ?_, ⟨⟨hk.1, ?_⟩⟩⟩
    · have := hM.fz us
      subst this
      have := h.len
      simp at this
    · exact Classical.byContradiction fun hc => us ⟨⟨by omega, hk.2⟩⟩
theorem talkWrites_walk (s : Mg) (w : World) (hs : s.ok w) : Calls Try.prog 3 #[s.val] w fun en w' => en = .returned (.bool true) ∧ Only (fun _ => False) w w' := by
  have go : ∀ (bM bN bL : Bool), goT Try.prog [] (orcOf inv0 (tTC3 bM bN bL)) (opMem Try.prog) 3000 (.inr (.inr (.inr (.inr 3)))) [msgA s.kind s.xid s.mac s.ip s.ticks (strC s.l) s.nonce s.tag s.why] emptySt isTrue →
      Calls Try.prog 3 #[s.val] w fun en w' => en = .returned (.bool true) ∧ Only (fun _ => False) w w' := fun bM bN bL h =>
    call_true noOv names (conOk_of (tTC3_ok bM bN bL)) h (ok_none' w) (vs := [s.val]) (by simp only [List.map_cons, List.map_nil, msg_av7])
  obtain ⟨l0, hl0⟩ : ∃ l0, l0 = if 20 < s.l.length then s.l.take 20 else s.l := ⟨_, rfl⟩
  by_cases hM : U.TMay s.kind s.xid s.mac s.ip s.ticks s.nonce s.tag s.why l0
  · rcases us_kind hM with ⟨hN, hL⟩ | ⟨hN, hL⟩
    · exact go true true false (talkWritesTTF_run _ _ _ _ _ _ _ _ _ l0 hl0 hs.kin hM hN hL)
    · exact go true false true (talkWritesTFT_run _ _ _ _ _ _ _ _ _ l0 hl0 hs.kin hM hN hL)
  · by_cases hN : U.Nm l0
    · by_cases hL : U.Le s.kind
      · exact go false true true (talkWritesFTT_run _ _ _ _ _ _ _ _ _ l0 hl0 hs.kin hM hN hL)
      · exact go false true false (talkWritesFTF_run _ _ _ _ _ _ _ _ _ l0 hl0 hs.kin hM hN hL)
    · by_cases hL : U.Le s.kind
      · exact go false false true (talkWritesFFT_run _ _ _ _ _ _ _ _ _ l0 hl0 hs.kin hM hN hL)
      · exact go false false false (talkWritesFFF_run _ _ _ _ _ _ _ _ _ l0 hl0 hs.kin hM hN hL)
end Go.Proofs.Ytpcnbhgifhiejaa
end
