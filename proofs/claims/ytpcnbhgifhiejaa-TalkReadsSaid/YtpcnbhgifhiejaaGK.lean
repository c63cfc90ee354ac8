/- Parts of a proof, one behind the other: TO TR. No condition. -/
import Derived.Test.YtpcnbhgifhiejaaGU
import Derived.Deep.Fields
import Derived.OpenShut
import Derived.Test.YtpcnbhgifhiejaaGJ
section
set_option linter.unusedVariables false
set_option linter.unusedSimpArgs false
set_option maxRecDepth 100000
namespace Go.Proofs.Ytpcnbhgifhiejaa
open Go Reck Go.ChangeShapes Go.WideShapes Go.Deep

structure Mg where
  (kind xid mac ip ticks nonce tag why : Int)
  u : ByteArray
def Mg.val (s : Mg) : Value := .agg #[.int .i64 s.kind, .int .u32 s.xid, .int .u64 s.mac, .int .u32 s.ip, .int .i64 s.ticks, .string s.u, .int .u64 s.nonce, .int .u64 s.tag, .int .i64 s.why]
def mgZ : Mg := ⟨0, 0, 0, 0, 0, 0, 0, 0, ByteArray.empty⟩
structure Mg.ok (s : Mg) (W : World) : Prop where
  kin : U.TKin s.xid s.mac s.ip s.ticks s.nonce s.tag s.why
def Mg.l (s : Mg) : List Int := s.u.data.toList.map fun b => (b.toNat : Int)
theorem list9 {α : Type} : ∀ l : List α, l.length = 9 → ∃ x0 x1 x2 x3 x4 x5 x6 x7 x8, l = [x0, x1, x2, x3, x4, x5, x6, x7, x8]
  | [x0, x1, x2, x3, x4, x5, x6, x7, x8], _ => ⟨x0, x1, x2, x3, x4, x5, x6, x7, x8, rfl⟩
theorem fld9 {H : Type} {enc : TypeId × Value → H} {P : Program} {w : World} {base : Nat} {spare : Nat → Bool} {held : Bool} {t : TypeId} {fs : Array Field} {fuel : Nat} {cs : List Value} {x : DataW H × List MemPlace} (ht : P.underlying t = some (.struct fs)) (hone : oneCellFields P fs = true) (hC : P.cellsOf t = fs.size)
    (h : DataW.trod enc P w base spare held fuel t cs = some x) : ∃ n, cs.length = fs.size ∧ ∀ (i : Nat) (f : Field), fs[i]? = some f → ∃ y, DataW.trod enc P w base spare held n f.type [cs.getD i undef] = some y := by
  obtain ⟨ys, n, _, _, hl, hyl, hfld⟩ := DataW.trod_struct ht h
  refine ⟨n, hl.trans hC, fun i f hi => ?_⟩
  have hlt : i < fs.size := (Array.getElem?_eq_some_iff.1 hi).1
  obtain ⟨ho, hc1⟩ := hone_of hone i f hi
  have e := hfld i f hi
  rw [ho, hc1, take1_drop _ i undef (by omega)] at e
  have hy : i < ys.length := by omega
  exact ⟨ys[i], by rw [← List.getElem?_eq_getElem hy, ← e]⟩
theorem open_msg {H : Type} {enc : TypeId × Value → H} {W : World} {b0 : Nat} {held : Bool} {v : Value} {d : DataW H} {p : List MemPlace} (hval : Value.okWide Try.prog W .any b0 25 v) (h : DataW.Trod enc Try.prog W 0 (fun _ => true) held 25 v d p) : ∃ s : Mg, v = s.val ∧ s.ok W := by
  obtain ⟨cs, rfl, hsz⟩ : ∃ cs, v = .agg cs ∧ cs.size = Try.prog.cellsOf 25 := by
    simp only [Value.okWide, Try.underlying25] at hval
    obtain ⟨cs, h1, h2, _⟩ := hval
    exact ⟨cs, h1, h2⟩
  have hC : Try.prog.cellsOf 25 = 9 := by kernel_rfl
  rw [hC] at hsz
  obtain ⟨fuel, hf⟩ := h
  have hf : DataW.trod enc Try.prog W 0 (fun _ => true) held fuel 25 cs.toList = some (d, p) := hf
  obtain ⟨x0, x1, x2, x3, x4, x5, x6, x7, x8, hcs⟩ := list9 cs.toList (by simpa using hsz)
  rw [hcs] at hf
  obtain ⟨n, _, g⟩ := fld9 Try.underlying25 (by kernel_rfl) (by kernel_rfl) hf
  obtain rfl : cs = #[x0, x1, x2, x3, x4, x5, x6, x7, x8] := by cases cs; simp_all
  clear hval hcs hf
  obtain ⟨y0, hy0⟩ := g 0 _ rfl
  obtain ⟨z0, e0, _, w0⟩ := DataW.trod_int Try.underlying3 hy0
  obtain rfl : x0 = .int .i64 z0 := (List.cons.inj e0).1
  obtain ⟨y1, hy1⟩ := g 1 _ rfl
  obtain ⟨z1, e1, _, w1⟩ := DataW.trod_int Try.underlying22 hy1
  obtain rfl : x1 = .int .u32 z1 := (List.cons.inj e1).1
  obtain ⟨y2, hy2⟩ := g 2 _ rfl
  obtain ⟨z2, e2, _, w2⟩ := DataW.trod_int Try.underlying23 hy2
  obtain rfl : x2 = .int .u64 z2 := (List.cons.inj e2).1
  obtain ⟨y3, hy3⟩ := g 3 _ rfl
  obtain ⟨z3, e3, _, w3⟩ := DataW.trod_int Try.underlying22 hy3
  obtain rfl : x3 = .int .u32 z3 := (List.cons.inj e3).1
  obtain ⟨y4, hy4⟩ := g 4 _ rfl
  obtain ⟨z4, e4, _, w4⟩ := DataW.trod_int Try.underlying2 hy4
  obtain rfl : x4 = .int .i64 z4 := (List.cons.inj e4).1
  obtain ⟨y5, hy5⟩ := g 5 _ rfl
  obtain ⟨z5, e5, _, w5⟩ := DataW.trod_string Try.underlying9 hy5
  obtain rfl : x5 = .string z5 := (List.cons.inj e5).1
  obtain ⟨y6, hy6⟩ := g 6 _ rfl
  obtain ⟨z6, e6, _, w6⟩ := DataW.trod_int Try.underlying23 hy6
  obtain rfl : x6 = .int .u64 z6 := (List.cons.inj e6).1
  obtain ⟨y7, hy7⟩ := g 7 _ rfl
  obtain ⟨z7, e7, _, w7⟩ := DataW.trod_int Try.underlying23 hy7
  obtain rfl : x7 = .int .u64 z7 := (List.cons.inj e7).1
  obtain ⟨y8, hy8⟩ := g 8 _ rfl
  obtain ⟨z8, e8, _, w8⟩ := DataW.trod_int Try.underlying3 hy8
  obtain rfl : x8 = .int .i64 z8 := (List.cons.inj e8).1
  exact ⟨⟨z0, z1, z2, z3, z4, z6, z7, z8, z5⟩, rfl, ⟨⟨bounds_u32 w1, bounds_u64 w2, bounds_u32 w3, bounds_i64 w4, bounds_u64 w6, bounds_u64 w7, bounds_i64 w8⟩⟩⟩
theorem msg_av7 (e : Env) (s : Mg) : Reck.av e (msgA s.kind s.xid s.mac s.ip s.ticks (strC s.l) s.nonce s.tag s.why) = some s.val := by
  have h := strC_av (byteZ_lit s.u) e
  rw [strZ_lit] at h
  have h1 : Reck.cv e (strC s.l) = some (.string s.u) := h
  have h2 : ∀ k z, Reck.cv e (xintC k z) = some (.int k z) := fun _ _ => rfl
  simp only [msgA, av, v1, List.map_cons, List.map_nil, h1, h2, Mg.val]
  rfl
theorem ok_none' (w : World) : Ok w (arE []) emptySt w := ok_arrs w (l := []) (bs := []) rfl (by simp) (by intro i x q h; simp at h)
end Go.Proofs.Ytpcnbhgifhiejaa
end

section
set_option linter.unusedVariables false
set_option linter.unusedSimpArgs false
set_option maxRecDepth 100000
namespace Go.Proofs.Ytpcnbhgifhiejaa
open Go Reck Ost
theorem rd_eq {kind xid mac ip ticks nonce tag why : Int} {u W L x y : List Int} {n m : Nat} (hn : n = W.length) (hx : x = List.take n (List.drop 0 W)) (hy : y = List.take m (List.drop 0 L)) (hw : U.TWr kind xid mac ip ticks nonce tag why u W) (hW : U.TWr kind xid mac ip ticks nonce tag why u (List.take m L)) : x = y := by
  rw [enc_eq hn hx hy]; exact twr_det hw hW
set_option maxHeartbeats 4000000 in
theorem talkReadsT_run (L : List Int) (n c cap n0 : Nat) (hB : U.By L) (hn : n = L.length) (hc : n ≤ c) (hn0 : n0 = if 80 < n then 80 else n) (h2 : n0 ≤ 16777216) {kind xid mac ip ticks nonce tag why : Int} {u : List Int} (hM : U.TMay kind xid mac ip ticks nonce tag why u) (hK : U.TKin xid mac ip ticks nonce tag why) (hW : U.TWr kind xid mac ip ticks nonce tag why u (L.take n0)) :
    goT Try.prog [] (orcOf inv0 (tTQ true)) (opMem Try.prog) 3000 (.inr (.inr (.inr (.inr 4)))) [cell (aslC ⟨0, 0, n, c⟩)] (ar [bs L cap true]) isTrue := by
  rw [talkReadsT_vc]
  intro z0 h0
  refine ⟨fun hlt => ⟨⟨by decide, by omega⟩, fun n1 h1 => ?_⟩, fun hge => ?_⟩
  · rw [if_pos (by omega)] at hn0
    obtain rfl : n0 = n1 := by omega
    refine ⟨kind, xid, mac, ip, ticks, nonce, tag, why, u, ⟨hB, by omega, by omega, hM, hK, hW⟩, kind, xid, mac, ip, ticks, nonce, tag, why, u, ⟨hB, by omega, by omega, by omega, hM, hK, hW⟩, ?_⟩
    all_goals
      repeat' (first | exact rfl | exact trivial | assumption | exact ⟨hK, hM⟩ | intro h | with_reducible apply And.intro | exact absurd rfl (by assumption) | fail)
    all_goals first
      | omega
      | exact byL7 hB _
      | exact byL7 (tw_by7 (by assumption)) _
      | (show 0 + _ ≤ List.length _; omega)
      | exact absurd rfl (by assumption)
      | exact absurd (by assumption : (5 : Int) = 0) (by decide)
      | (exact (h (And.intro rfl (And.intro rfl (And.intro rfl (And.intro rfl (And.intro rfl (And.intro rfl (And.intro rfl (And.intro rfl (And.intro rfl trivial)))))))))).elim)
      | (exact absurd (rd_eq (by assumption) (by assumption) (by assumption) (by assumption) hW) h)
      | (trace_state; fail)
  · rw [if_neg (by omega)] at hn0
    subst hn0
    refine ⟨kind, xid, mac, ip, ticks, nonce, tag, why, u, ⟨hB, by omega, by omega, hM, hK, hW⟩, kind, xid, mac, ip, ticks, nonce, tag, why, u, ⟨hB, by omega, by omega, by omega, hM, hK, hW⟩, ?_⟩
    all_goals
      repeat' (first | exact rfl | exact trivial | assumption | exact ⟨hK, hM⟩ | intro h | with_reducible apply And.intro | exact absurd rfl (by assumption) | fail)
    all_goals first
      | omega
      | exact byL7 hB _
      | exact byL7 (tw_by7 (by assumption)) _
      | (show 0 + _ ≤ List.length _; omega)
      | exact absurd rfl (by assumption)
      | exact absurd (by assumption : (5 : Int) = 0) (by decide)
      | (exact (h (And.intro rfl (And.intro rfl (And.intro rfl (And.intro rfl (And.intro rfl (And.intro rfl (And.intro rfl (And.intro rfl (And.intro rfl trivial)))))))))).elim)
      | (exact absurd (rd_eq (by assumption) (by assumption) (by assumption) (by assumption) hW) h)
      | (trace_state; fail)
set_option maxHeartbeats 4000000 in
theorem talkReadsF_run (L : List Int) (n c cap n0 : Nat) (hB : U.By L) (hn : n = L.length) (hc : n ≤ c) (hn0 : n0 = if 80 < n then 80 else n) (h2 : n0 ≤ 16777216) (hT : ¬ U.TIs (L.take n0)) :
    goT Try.prog [] (orcOf inv0 (tTQ false)) (opMem Try.prog) 3000 (.inr (.inr (.inr (.inr 4)))) [cell (aslC ⟨0, 0, n, c⟩)] (ar [bs L cap true]) isTrue := by
  rw [talkReadsF_vc]
  intro z0 h0
  refine ⟨fun hlt => ⟨⟨by decide, by omega⟩, fun n1 h1 => ?_⟩, fun hge => ?_⟩
  · rw [if_pos (by omega)] at hn0
    obtain rfl : n0 = n1 := by omega
    refine ⟨⟨hB, by omega, by omega, hT⟩, ⟨hB, by omega, by omega, by omega, hT⟩, ?_⟩
    all_goals
      repeat' (first | exact rfl | exact trivial | assumption | exact ⟨hK, hM⟩ | intro h | with_reducible apply And.intro | exact absurd rfl (by assumption) | fail)
    all_goals first
      | omega
      | exact byL7 hB _
      | exact byL7 (tw_by7 (by assumption)) _
      | (show 0 + _ ≤ List.length _; omega)
      | exact absurd rfl (by assumption)
      | exact absurd (by assumption : (5 : Int) = 0) (by decide)
      | (exact (h (And.intro rfl (And.intro rfl (And.intro rfl (And.intro rfl (And.intro rfl (And.intro rfl (And.intro rfl (And.intro rfl (And.intro rfl trivial)))))))))).elim)
      | (exact absurd (rd_eq (by assumption) (by assumption) (by assumption) (by assumption) hW) h)
      | (trace_state; fail)
  · rw [if_neg (by omega)] at hn0
    subst hn0
    refine ⟨⟨hB, by omega, by omega, hT⟩, ⟨hB, by omega, by omega, by omega, hT⟩, ?_⟩
    all_goals
      repeat' (first | exact rfl | exact trivial | assumption | exact ⟨hK, hM⟩ | intro h | with_reducible apply And.intro | exact absurd rfl (by assumption) | fail)
    all_goals first
      | omega
      | exact byL7 hB _
      | exact byL7 (tw_by7 (by assumption)) _
      | (show 0 + _ ≤ List.length _; omega)
      | exact absurd rfl (by assumption)
      | exact absurd (by assumption : (5 : Int) = 0) (by decide)
      | (exact (h (And.intro rfl (And.intro rfl (And.intro rfl (And.intro rfl (And.intro rfl (And.intro rfl (And.intro rfl (And.intro rfl (And.intro rfl trivial)))))))))).elim)
      | (exact absurd (rd_eq (by assumption) (by assumption) (by assumption) (by assumption) hW) h)
      | (trace_state; fail)
theorem came_by7 {w : World} {A : Option Addr} {len cap : Nat} {zs : List Int} (h : Came2 .u8 w A len cap zs) : U.By zs := by
  obtain ⟨_, _, _, h4, _⟩ := h
  obtain ⟨cs, e, hc⟩ := nz_of (L := zs) (fun x hx => by have := bounds_u8 (h4 x hx); omega)
  exact ⟨cs, e, hc⟩
theorem talkReads_walk (A : Option Addr) (len cap : Nat) (zs : List Int) (w : World) (h : Came2 .u8 w A len cap zs) : Calls Try.prog 4 #[.slice A len cap] w fun en w' => en = .returned (.bool true) ∧ Only (fun _ => False) w w' := by
  obtain ⟨q, h1, h2⟩ := h.base 5
  have hok : Ok w (arE [q]) (arS [⟨5, .n .u8, zs, 0, true⟩]) w := ok_arrs w rfl (by simp) (fun i x p hx hp => by
    match i, hx, hp with
    | 0, hx, hp => simp at hx hp; subst hx; subst hp; exact h2 _ rfl)
  have go : ∀ b, goT Try.prog [] (orcOf inv0 (tTQ b)) (opMem Try.prog) 3000 (.inr (.inr (.inr (.inr 4)))) [cell (aslC ⟨0, 0, len, cap⟩)] (ar [bs zs 0 true]) isTrue →
      Calls Try.prog 4 #[.slice A len cap] w fun en w' => en = .returned (.bool true) ∧ Only (fun _ => False) w w' := fun b hr =>
    call_true noOv names (conOk_of (tTQ_ok b)) hr hok (vs := [.slice A len cap]) (by simp only [List.map_cons, List.map_nil, h1 (arE [q]) 0 rfl])
  have hB := came_by7 h
  obtain ⟨n0, hn0⟩ : ∃ n0, n0 = if 80 < len then 80 else len := ⟨_, rfl⟩
  have hle : n0 ≤ 16777216 := by rw [hn0]; split <;> omega
  by_cases hT : U.TIs (zs.take n0)
  · obtain ⟨kind, xid, mac, ip, ticks, nonce, tag, why, u, hM, hK, hW⟩ := hT
    exact go true (talkReadsT_run zs len cap 0 n0 hB h.1.symm h.2.1 hn0 hle hM hK hW)
  · exact go false (talkReadsF_run zs len cap 0 n0 hB h.1.symm h.2.1 hn0 hle hT)
end Go.Proofs.Ytpcnbhgifhiejaa
end
